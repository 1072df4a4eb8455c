/- Bound together for a claim. -/
import Derived.Test.YtldkeaeohceckacGreatM4
import Derived.BigQuiet
namespace Go.Proofs.YtldkeaeohceckacGreat
set_option maxRecDepth 20000
set_option maxHeartbeats 64000000
section
open Go.RowKit Srt
attribute [local go_sem ↓] Go.wp_at_zero Go.wp_at_succ
def sN (k : Nat) (v : Nat → Ver) (ok : Bool) (l : List Dn) : (Nat → Ver) × Bool := if 0 < k then srN k v ok l else (v, ok)
theorem rA {ds : List Dn} {M k : Nat} (hk : k ≤ M) (v : Nat → Ver) (ok : Bool) : srs ds (M + 1 - k) k v ok = srs ds (M + 1 - (k + 1)) (k + 1) (sN k v ok ds).1 (srL k (sN k v ok ds).1 (sN k v ok ds).2 ds) := by
 rw [show M + 1 - k = (M + 1 - (k + 1)) + 1 by omega]
 rfl
theorem kP (a : Option Addr) (c : Nat) (ds : List Dn) (w : World) (h : fp w a ds) (hok : iu ds) (hn : ∀ d, d ∈ ds → d.n ≤ 1000) :
 Calls Tryz.prog 15 #[.slice a ds.length c] w fun e w' => e = .returned (.bool (ser ds)) ∧ Kp [] w w' := by
 have HD := ag h
 have HO := ag hok
 have HNN := ag hn
 have hm := hok.1
 clear h hok hn
 obtain ⟨m, hmm⟩ : ∃ m, ds.length = m := ⟨_, rfl⟩
 have HM := ag hmm
 rw [hmm] at hm ⊢
 clear hmm
 obtain ⟨R, hR⟩ : ∃ R, ser ds = R := ⟨_, rfl⟩
 rw [hR]
 have HR := ag hR
 clear hR
 go_enter Tryz.func15, Tryz.ntmps15
 go_wp2_with fail
 go_loop [3, 4] (fun x y => ∃ (i : Nat) (gr : Int), i ≤ m ∧ x = .int .i64 gr ∧ y = .int .i64 i ∧ 0 ≤ gr ∧ Hid (mxn gr (ds.drop i) = mxn 0 ds)) (fun _ y => m - (intOf y).toNat)
 case atStart => exact ⟨0, 0, Nat.zero_le _, rfl, rfl, Int.le_refl _, rfl⟩
 case round =>
  obtain ⟨i, gr, hi, rfl, rfl, hg0, HX⟩ := hrel
  by_cases hlt : i < m
  ·have j1 : (i : Int) < (m : Int) := by omega
   have j0 : (0 : Int) ≤ (i : Int) := by omega
   have hln : i < ds.length := by have := ae HM; omega
   obtain ⟨g, o, rfl, hbd⟩ := (ae HD) (by omega)
   obtain ⟨x, hx⟩ : ∃ x, ds[i]? = some x := ⟨_, List.getElem?_eq_getElem hln⟩
   have hdr : ds.drop i = x :: ds.drop (i + 1) := by
    rw [List.drop_eq_getElem_cons hln]
    rw [List.getElem?_eq_getElem hln] at hx
    rw [Option.some.inj hx]
   have HDR := ag hdr
   have q0 := (hbd i x hx).c0
   clear hbd hx hdr
   obtain ⟨xn, xa, xm, xacts⟩ := x
   dsimp only at q0
   by_cases hgt : gr < xn
   ·go_wp2_with fail
    refine ⟨⟨i + 1, xn, by omega, rfl, by go_num, by omega, ?_⟩, by simp [intOf]; omega⟩
    have z := ae HX
    rw [ae HDR] at z
    simp only [mxn] at z
    rw [if_pos hgt] at z
    exact z
   ·go_wp2_with fail
    refine ⟨⟨i + 1, gr, by omega, rfl, by go_num, hg0, ?_⟩, by simp [intOf]; omega⟩
    have z := ae HX
    rw [ae HDR] at z
    simp only [mxn] at z
    rw [if_neg hgt] at z
    exact z
  ·have j1 : ¬ (i : Int) < (m : Int) := by omega
   have hgr : gr = mxn 0 ds := by
    have z := ae HX
    rw [List.drop_eq_nil_of_le (by have := ae HM; omega)] at z
    exact z
   obtain ⟨M, rfl⟩ : ∃ M : Nat, gr = (M : Int) := ⟨gr.toNat, by omega⟩
   have hM : M ≤ 1000 := by
    rcases kY ds 0 with e | ⟨d, h1, h2⟩
    ·omega
    ·have := ae HNN d h1; omega
   have HR2 : Hid (srs ds (M + 1 - 0) 0 (fun _ => dv) true = R) := by
    have z := ae HR
    unfold ser at z
    rw [← hgr] at z
    exact z
   clear hgr HX HR
   have HZ0 := ag ((cg (Kp.refl [] w)).box (ay (fun _ => dv)) 48)
   rw [bI] at HZ0
   go_wp2_with fail
   generalize w.heap.size = p5 at *
   go_loopw [6, 7, 8, 9, 10, 11, 12, 13] (fun x y _ _ _ _ _ _ wr => ∃ (k : Nat) (ok : Bool), k ≤ M + 1 ∧ x = .bool ok ∧ y = .int .i64 k ∧ Hid (∃ v, Zoo w wr [au p5 (ay v) 48] ∧ srs ds (M + 1 - k) k v ok = R)) (fun _ y _ _ _ _ _ _ _ => M + 1 - (intOf y).toNat)
   case atStart => exact ⟨0, true, Nat.zero_le _, rfl, rfl, fun _ => dv, ae HZ0, ae HR2⟩
   case round =>
    obtain ⟨k, ok, hk, rfl, rfl, HI⟩ := hrel
    obtain ⟨v, hz, hr⟩ := ae HI
    have HZ := ag hz
    have HRR := ag hr
    clear hz hr HI HZ0 HR2
    by_cases hle : k ≤ M
    ·have k1 : (k : Int) ≤ (M : Int) := by omega
     have HST := ag ((rA hle v ok).symm.trans (ae HRR))
     clear HRR
     obtain ⟨P, hP⟩ : ∃ P, sN k v ok ds = P := ⟨_, rfl⟩
     rw [hP] at HST
     have HP := ag hP
     clear hP
     go_wp2_with fail
     go_loopw [6, 8, 9, 10] (fun x y _ _ wr => ∃ (i : Nat) (ok2 : Bool), i ≤ m ∧ x = .bool ok2 ∧ y = .int .i64 i ∧ Hid (∃ u, Zoo w wr [au p5 (ay u) 48] ∧ sN k u ok2 (ds.drop i) = P)) (fun _ y _ _ _ => m - (intOf y).toNat)
     case atStart => exact ⟨0, ok, Nat.zero_le _, rfl, rfl, v, ae HZ, ae HP⟩
     case round =>
      obtain ⟨i, ok2, hi2, rfl, rfl, HI⟩ := hrel
      obtain ⟨u, hz, hr⟩ := ae HI
      have HZ2 := ag hz
      have HSN := ag hr
      clear hz hr HI HZ
      by_cases hin : i < m ∧ 0 < k
      ·obtain ⟨hlt2, hk0⟩ := hin
       have k0 : (0 : Int) < (k : Int) := by omega
       have j1 : (i : Int) < (m : Int) := by omega
       have j0 : (0 : Int) ≤ (i : Int) := by omega
       have hln : i < ds.length := by have := ae HM; omega
       obtain ⟨g, o, rfl, hbd⟩ := (ae HD) (by omega)
       obtain ⟨x, hx⟩ : ∃ x, ds[i]? = some x := ⟨_, List.getElem?_eq_getElem hln⟩
       have hdr : ds.drop i = x :: ds.drop (i + 1) := by
        rw [List.drop_eq_getElem_cons hln]
        rw [List.getElem?_eq_getElem hln] at hx
        rw [Option.some.inj hx]
       have HDR := ag hdr
       have hok := (ae HO).2 x (List.mem_of_getElem? hx)
       have hat := hbd i x hx
       obtain ⟨la, lc, z3, hls⟩ := hat.ls
       have q0 := (ae HZ2).kp.cell (by simp) hat.c0
       have q1 := (ae HZ2).kp.cell (by simp) hat.c1
       have q2 := hat.c2
       have HLS := ag hls
       clear hbd hx hls hat hdr
       obtain ⟨xn, xa, xm, xacts⟩ := x
       dsimp only at q0 q1 q2 z3 HLS hok
       have HOK := ag hok
       clear hok
       obtain ⟨ln, hlen⟩ : ∃ ln, xacts.length = ln := ⟨_, rfl⟩
       rw [hlen] at z3
       have HLX := ag hlen
       have HZ3 : Hid (w.cell? ⟨g, o + i * 4 + 3, none⟩ = some (.slice la ln lc)) := z3
       have HQ2 := ag q2
       clear hlen z3 q2
       by_cases he : xn = (k : Int)
       ·go_wp2_with fail
        refine wp_region_held_drew (S := fun w' => w'.cell? ⟨g, o + i * 4 + 3, none⟩ = some (.slice la ln lc) ∧ w'.rangeAt p5 0 (ay u).toList) (by kernel_rfl) (And.intro ((ae HZ2).kp.drew.cell (by simp) (ae HZ3)) (aE (ai ((ae HZ2).kp0 ((Kp.refl [] wr).drew)) (mh)))) (fun hHeld => ?_)
        have HA0 := ag ((ae HZ2).kp0 ((Kp.refl [] wr).drew))
        generalize World.drew _ = WD at HA0 hHeld ⊢
        refine dA (i := 0) rfl (by kernel_rfl) (by kernel_rfl) (by kernel_rfl) (fun _ _ _ h => h) (ge (by rfl) _ rfl p5 0 rfl u (fun _ h => h.2)) hHeld ?_
        try simp only [Act.put, sx, sy, sz]
        refine tk 1 ?_ rfl (by kernel_rfl) (fun _ _ _ h => h) (by rfl) ?_ hHeld ?_;rotate_left;· intro w hSw;(try dsimp only at hSw);go_simp;try with_reducible rfl
        try simp only [Act.put, sx, sy, sz]
        refine tk 2 ?_ rfl (by kernel_rfl) (fun _ _ _ h => h) (by rfl) ?_ hHeld ?_;rotate_left;· intro w hSw;(try dsimp only at hSw);go_simp;try with_reducible rfl
        try simp only [Act.put, sx, sy, sz]
        refine tk 3 ?_ rfl (by kernel_rfl) (fun _ _ _ h => h) (by rfl) ?_ hHeld ?_;rotate_left;· intro w hSw;(try dsimp only at hSw);go_simp;try with_reducible rfl
        try simp only [Act.put, sx, sy, sz]
        refine tk 4 ?_ rfl (by kernel_rfl) (fun _ _ _ h => h) (by rfl) ?_ hHeld ?_;rotate_left;· intro w hSw;(try dsimp only at hSw);go_simp;try with_reducible rfl
        try simp only [Act.put, sx, sy, sz]
        refine tk 5 ?_ rfl (by kernel_rfl) (fun _ _ _ h => h) (by rfl) ?_ hHeld ?_;rotate_left;· intro w hSw;(try dsimp only at hSw);go_simp;try with_reducible rfl
        try simp only [Act.put, sx, sy, sz]
        refine bK (i := 6) (j := 10) rfl rfl (by kernel_rfl) (fun K hK => ?_) (fun K hK => ?_)
        ·go_simp
         rw [← ae HLX]
         refine (eS u la lc xacts _ ((ae HLS).kp0 (ae HA0).kp) (ae HOK)).mono ?_
         rintro e w6 ⟨rfl, hk6⟩
         rw [ae HLX]
         have HA1 := ag ((ae HA0).kp0 hk6)
         clear hk6
         go_wp2_with fail
         refine hK.out _ _ (And.intro ((ae HA1).kp.cell (by simp) (ae HZ3)) (aE (ai (ae HA1) (mh)))) (fun hHeld2 => ?_)
         clear hK K hHeld
         have hHeld := hHeld2
         clear hHeld2
         try simp only [Act.put, sx, sy, sz]
         refine tk 7 ?_ rfl (by kernel_rfl) (fun _ _ _ h => h) (by rfl) ?_ hHeld ?_;rotate_left;· intro w hSw;(try dsimp only at hSw);go_simp;try with_reducible rfl
         try simp only [Act.put, sx, sy, sz]
         refine tk 8 ?_ rfl (by kernel_rfl) (fun _ _ _ h => h) (by rfl) ?_ hHeld ?_;rotate_left;· intro w hSw;(try dsimp only at hSw);go_simp;try with_reducible rfl
         try simp only [Act.put, sx, sy, sz]
         refine tk 9 ?_ rfl (by kernel_rfl) (fun _ _ _ h => h) (by rfl) ?_ hHeld ?_;rotate_left;· intro w hSw;(try dsimp only at hSw);go_simp;try with_reducible rfl
         try simp only [Act.put, sx, sy, sz]
         refine aj (i := 10) rfl (by kernel_rfl) (fun K hK => ?_)
         go_simp
         have HA2 := ag ((ae HA1).box (ay (fun _ => dv)) 48)
         rw [bI] at HA2
         refine hK.out _ _ (And.intro ((ae HA2).kp.cell (by simp) (ae HZ3)) (aE (ai (ae HA2) (mt (mh))))) (fun hHeld2 => ?_)
         clear hK K hHeld
         have hHeld := hHeld2
         clear hHeld2
         try simp only [Act.put, sx, sy, sz]
         generalize w6.heap.size = p9 at *
         refine aj (i := 11) rfl (by kernel_rfl) (fun K hK => ?_)
         rw [if_pos (by rfl)]
         refine wp_store_row 48 _ _ rfl p9 (ay (rpw u xacts)) rfl rfl 48 _ (ai (ae HA2) (mh)) Tryz.size48 rfl (aS _) ?_
         have HZF := ag (bN (l1 := []) (c' := ay (rpw u xacts)) (ae HA2))
         refine hK.out _ _ (And.intro ((ae HZF).kp.cell (by simp) (ae HZ3)) (aE (ai (ae HZF) (mt (mh))))) (fun hHeld2 => ?_)
         clear hK K hHeld
         have hHeld := hHeld2
         clear hHeld2
         simp only [Act.put]
         refine tk 12 ?_ rfl (by kernel_rfl) (fun _ _ _ h => h) (by rfl) ?_ hHeld ?_;rotate_left;· intro w hSw;(try dsimp only at hSw);go_simp;try with_reducible rfl
         try simp only [Act.put, sx, sy, sz]
         refine wpAnyH_done (by kernel_rfl) ?_ _
         generalize World.setRow _ _ _ = W9 at HZF ⊢
         clear hHeld
         have HZG := ag (bN (l1 := [au p9 (ay (rpw u xacts)) 48]) (c' := ay (rpw u xacts)) (ae HZF))
         have q2 : (W9.setRow p5 (ay (rpw u xacts))).cell? ⟨g, o + i * 4 + 2, none⟩ = some (.int .i64 xm) := (ae HZG).kp.cell (by simp) (ae HQ2)
         clear q0 q1
         cases ok2 with
         | false =>
           cases hro : rpo u xacts with
           | true =>
             have HRO := ag hro
             clear hro
             go_wp2_with (first | (refine wpList_load_row rfl 48 _ rfl p9 rfl 48 _ (0, 0) _ (ai (ae HZF) (mh)) Tryz.underlying48 rfl Tryz.size48 ?_) | (refine wpList_store_row rfl 48 _ _ rfl p5 (ay (rpw u xacts)) rfl rfl 48 _ (ai (ae HZF) (mt (mh))) Tryz.size48 rfl (aS _) ?_))
             refine ⟨⟨i + 1, false, by omega, rfl, by go_num, rpw u xacts, (ae HZG).tail, ?_⟩, by simp [intOf]; omega⟩
             have z := ae HSN
             rw [ae HDR] at z
             unfold sN at z ⊢
             rw [if_pos hk0] at z ⊢
             simp only [srN] at z
             rw [if_pos he] at z
             rw [← z]
             simp [ae HRO]
           | false =>
             have HRO := ag hro
             clear hro
             go_wp2_with (first | (refine wpList_load_row rfl 48 _ rfl p9 rfl 48 _ (0, 0) _ (ai (ae HZF) (mh)) Tryz.underlying48 rfl Tryz.size48 ?_) | (refine wpList_store_row rfl 48 _ _ rfl p5 (ay (rpw u xacts)) rfl rfl 48 _ (ai (ae HZF) (mt (mh))) Tryz.size48 rfl (aS _) ?_))
             refine ⟨⟨i + 1, false, by omega, rfl, by go_num, rpw u xacts, (ae HZG).tail, ?_⟩, by simp [intOf]; omega⟩
             have z := ae HSN
             rw [ae HDR] at z
             unfold sN at z ⊢
             rw [if_pos hk0] at z ⊢
             simp only [srN] at z
             rw [if_pos he] at z
             rw [← z]
             simp [ae HRO]
         | true =>
           cases hro : rpo u xacts with
           | true =>
             have HRO := ag hro
             clear hro
             go_wp2_with (first | (refine wpList_load_row rfl 48 _ rfl p9 rfl 48 _ (0, 0) _ (ai (ae HZF) (mh)) Tryz.underlying48 rfl Tryz.size48 ?_) | (refine wpList_store_row rfl 48 _ _ rfl p5 (ay (rpw u xacts)) rfl rfl 48 _ (ai (ae HZF) (mt (mh))) Tryz.size48 rfl (aS _) ?_))
             refine ⟨⟨i + 1, true, by omega, rfl, by go_num, rpw u xacts, (ae HZG).tail, ?_⟩, by simp [intOf]; omega⟩
             have z := ae HSN
             rw [ae HDR] at z
             unfold sN at z ⊢
             rw [if_pos hk0] at z ⊢
             simp only [srN] at z
             rw [if_pos he] at z
             rw [← z]
             simp [ae HRO]
           | false =>
             have HRO := ag hro
             clear hro
             by_cases hmd : xm = 2
             ·subst hmd
              go_wp2_with (first | (refine wpList_load_row rfl 48 _ rfl p9 rfl 48 _ (0, 0) _ (ai (ae HZF) (mh)) Tryz.underlying48 rfl Tryz.size48 ?_) | (refine wpList_store_row rfl 48 _ _ rfl p5 (ay (rpw u xacts)) rfl rfl 48 _ (ai (ae HZF) (mt (mh))) Tryz.size48 rfl (aS _) ?_))
              refine ⟨⟨i + 1, false, by omega, rfl, by go_num, rpw u xacts, (ae HZG).tail, ?_⟩, by simp [intOf]; omega⟩
              have z := ae HSN
              rw [ae HDR] at z
              unfold sN at z ⊢
              rw [if_pos hk0] at z ⊢
              simp only [srN] at z
              rw [if_pos he] at z
              rw [← z]
              simp [ae HRO]
             ·have hmd2 : (xm != 2) = true := by simpa using hmd
              go_wp2_with (first | (refine wpList_load_row rfl 48 _ rfl p9 rfl 48 _ (0, 0) _ (ai (ae HZF) (mh)) Tryz.underlying48 rfl Tryz.size48 ?_) | (refine wpList_store_row rfl 48 _ _ rfl p5 (ay (rpw u xacts)) rfl rfl 48 _ (ai (ae HZF) (mt (mh))) Tryz.size48 rfl (aS _) ?_))
              refine ⟨⟨i + 1, true, by omega, rfl, by go_num, rpw u xacts, (ae HZG).tail, ?_⟩, by simp [intOf]; omega⟩
              have z := ae HSN
              rw [ae HDR] at z
              unfold sN at z ⊢
              rw [if_pos hk0] at z ⊢
              simp only [srN] at z
              rw [if_pos he] at z
              rw [← z]
              simp [ae HRO, hmd]
        ·go_simp
         have HA1 := ag ((ae HA0).box (ay (fun _ => dv)) 48)
         rw [bI] at HA1
         refine hK.out _ _ (And.intro ((ae HA1).kp.cell (by simp) (ae HZ3)) (aE (ai (ae HA1) (mt (mh))))) (fun hHeld2 => ?_)
         clear hK K hHeld
         have hHeld := hHeld2
         clear hHeld2
         try simp only [Act.put, sx, sy, sz]
         generalize WD.heap.size = p9 at *
         refine aj (i := 6) rfl (by kernel_rfl) (fun K hK => ?_)
         go_simp
         rw [← ae HLX]
         refine (eS u la lc xacts _ ((ae HLS).kp0 (ae HA1).kp) (ae HOK)).mono ?_
         rintro e w6 ⟨rfl, hk6⟩
         rw [ae HLX]
         have HA2 := ag ((ae HA1).kp0 hk6)
         clear hk6
         go_wp2_with fail
         refine hK.out _ _ (And.intro ((ae HA2).kp.cell (by simp) (ae HZ3)) (aE (ai (ae HA2) (mt (mh))))) (fun hHeld2 => ?_)
         clear hK K hHeld
         have hHeld := hHeld2
         clear hHeld2
         try simp only [Act.put, sx, sy, sz]
         refine tk 7 ?_ rfl (by kernel_rfl) (fun _ _ _ h => h) (by rfl) ?_ hHeld ?_;rotate_left;· intro w hSw;(try dsimp only at hSw);go_simp;try with_reducible rfl
         try simp only [Act.put, sx, sy, sz]
         refine tk 8 ?_ rfl (by kernel_rfl) (fun _ _ _ h => h) (by rfl) ?_ hHeld ?_;rotate_left;· intro w hSw;(try dsimp only at hSw);go_simp;try with_reducible rfl
         try simp only [Act.put, sx, sy, sz]
         refine tk 9 ?_ rfl (by kernel_rfl) (fun _ _ _ h => h) (by rfl) ?_ hHeld ?_;rotate_left;· intro w hSw;(try dsimp only at hSw);go_simp;try with_reducible rfl
         try simp only [Act.put, sx, sy, sz]
         refine aj (i := 11) rfl (by kernel_rfl) (fun K hK => ?_)
         rw [if_pos (by rfl)]
         refine wp_store_row 48 _ _ rfl p9 (ay (rpw u xacts)) rfl rfl 48 _ (ai (ae HA2) (mh)) Tryz.size48 rfl (aS _) ?_
         have HZF := ag (bN (l1 := []) (c' := ay (rpw u xacts)) (ae HA2))
         refine hK.out _ _ (And.intro ((ae HZF).kp.cell (by simp) (ae HZ3)) (aE (ai (ae HZF) (mt (mh))))) (fun hHeld2 => ?_)
         clear hK K hHeld
         have hHeld := hHeld2
         clear hHeld2
         simp only [Act.put]
         refine tk 12 ?_ rfl (by kernel_rfl) (fun _ _ _ h => h) (by rfl) ?_ hHeld ?_;rotate_left;· intro w hSw;(try dsimp only at hSw);go_simp;try with_reducible rfl
         try simp only [Act.put, sx, sy, sz]
         refine wpAnyH_done (by kernel_rfl) ?_ _
         generalize World.setRow _ _ _ = W9 at HZF ⊢
         clear hHeld
         have HZG := ag (bN (l1 := [au p9 (ay (rpw u xacts)) 48]) (c' := ay (rpw u xacts)) (ae HZF))
         have q2 : (W9.setRow p5 (ay (rpw u xacts))).cell? ⟨g, o + i * 4 + 2, none⟩ = some (.int .i64 xm) := (ae HZG).kp.cell (by simp) (ae HQ2)
         clear q0 q1
         cases ok2 with
         | false =>
           cases hro : rpo u xacts with
           | true =>
             have HRO := ag hro
             clear hro
             go_wp2_with (first | (refine wpList_load_row rfl 48 _ rfl p9 rfl 48 _ (0, 0) _ (ai (ae HZF) (mh)) Tryz.underlying48 rfl Tryz.size48 ?_) | (refine wpList_store_row rfl 48 _ _ rfl p5 (ay (rpw u xacts)) rfl rfl 48 _ (ai (ae HZF) (mt (mh))) Tryz.size48 rfl (aS _) ?_))
             refine ⟨⟨i + 1, false, by omega, rfl, by go_num, rpw u xacts, (ae HZG).tail, ?_⟩, by simp [intOf]; omega⟩
             have z := ae HSN
             rw [ae HDR] at z
             unfold sN at z ⊢
             rw [if_pos hk0] at z ⊢
             simp only [srN] at z
             rw [if_pos he] at z
             rw [← z]
             simp [ae HRO]
           | false =>
             have HRO := ag hro
             clear hro
             go_wp2_with (first | (refine wpList_load_row rfl 48 _ rfl p9 rfl 48 _ (0, 0) _ (ai (ae HZF) (mh)) Tryz.underlying48 rfl Tryz.size48 ?_) | (refine wpList_store_row rfl 48 _ _ rfl p5 (ay (rpw u xacts)) rfl rfl 48 _ (ai (ae HZF) (mt (mh))) Tryz.size48 rfl (aS _) ?_))
             refine ⟨⟨i + 1, false, by omega, rfl, by go_num, rpw u xacts, (ae HZG).tail, ?_⟩, by simp [intOf]; omega⟩
             have z := ae HSN
             rw [ae HDR] at z
             unfold sN at z ⊢
             rw [if_pos hk0] at z ⊢
             simp only [srN] at z
             rw [if_pos he] at z
             rw [← z]
             simp [ae HRO]
         | true =>
           cases hro : rpo u xacts with
           | true =>
             have HRO := ag hro
             clear hro
             go_wp2_with (first | (refine wpList_load_row rfl 48 _ rfl p9 rfl 48 _ (0, 0) _ (ai (ae HZF) (mh)) Tryz.underlying48 rfl Tryz.size48 ?_) | (refine wpList_store_row rfl 48 _ _ rfl p5 (ay (rpw u xacts)) rfl rfl 48 _ (ai (ae HZF) (mt (mh))) Tryz.size48 rfl (aS _) ?_))
             refine ⟨⟨i + 1, true, by omega, rfl, by go_num, rpw u xacts, (ae HZG).tail, ?_⟩, by simp [intOf]; omega⟩
             have z := ae HSN
             rw [ae HDR] at z
             unfold sN at z ⊢
             rw [if_pos hk0] at z ⊢
             simp only [srN] at z
             rw [if_pos he] at z
             rw [← z]
             simp [ae HRO]
           | false =>
             have HRO := ag hro
             clear hro
             by_cases hmd : xm = 2
             ·subst hmd
              go_wp2_with (first | (refine wpList_load_row rfl 48 _ rfl p9 rfl 48 _ (0, 0) _ (ai (ae HZF) (mh)) Tryz.underlying48 rfl Tryz.size48 ?_) | (refine wpList_store_row rfl 48 _ _ rfl p5 (ay (rpw u xacts)) rfl rfl 48 _ (ai (ae HZF) (mt (mh))) Tryz.size48 rfl (aS _) ?_))
              refine ⟨⟨i + 1, false, by omega, rfl, by go_num, rpw u xacts, (ae HZG).tail, ?_⟩, by simp [intOf]; omega⟩
              have z := ae HSN
              rw [ae HDR] at z
              unfold sN at z ⊢
              rw [if_pos hk0] at z ⊢
              simp only [srN] at z
              rw [if_pos he] at z
              rw [← z]
              simp [ae HRO]
             ·have hmd2 : (xm != 2) = true := by simpa using hmd
              go_wp2_with (first | (refine wpList_load_row rfl 48 _ rfl p9 rfl 48 _ (0, 0) _ (ai (ae HZF) (mh)) Tryz.underlying48 rfl Tryz.size48 ?_) | (refine wpList_store_row rfl 48 _ _ rfl p5 (ay (rpw u xacts)) rfl rfl 48 _ (ai (ae HZF) (mt (mh))) Tryz.size48 rfl (aS _) ?_))
              refine ⟨⟨i + 1, true, by omega, rfl, by go_num, rpw u xacts, (ae HZG).tail, ?_⟩, by simp [intOf]; omega⟩
              have z := ae HSN
              rw [ae HDR] at z
              unfold sN at z ⊢
              rw [if_pos hk0] at z ⊢
              simp only [srN] at z
              rw [if_pos he] at z
              rw [← z]
              simp [ae HRO, hmd]
       ·have he2 : (xn == (k : Int)) = false := by simpa using he
        go_wp2_with fail
        refine ⟨⟨i + 1, ok2, by omega, rfl, by go_num, u, ae HZ2, ?_⟩, by simp [intOf]; omega⟩
        have z := ae HSN
        rw [ae HDR] at z
        unfold sN at z ⊢
        rw [if_pos hk0] at z ⊢
        simp only [srN] at z
        rw [if_neg he] at z
        exact z
      ·have HPU : Hid ((u, ok2) = P) := by
        have z := ae HSN
        unfold sN at z
        by_cases hk0 : 0 < k
        ·rw [if_pos hk0, List.drop_eq_nil_of_le (by have := ae HM; omega)] at z
         exact z
        ·rw [if_neg hk0] at z
         exact z
       have HST2 : Hid (srs ds (M + 1 - (k + 1)) (k + 1) u (srL k u ok2 ds) = R) := by
        have z := ae HST
        rw [← ae HPU] at z
        exact z
       clear HST HP HPU HSN
       obtain ⟨Tt, hT⟩ : ∃ Tt, srL k u ok2 ds = Tt := ⟨_, rfl⟩
       rw [hT] at HST2
       have HT := ag hT
       clear hT
       by_cases hq : i < m
       ·have hk0 : k = 0 := by omega
        have k0 : ¬ (0 : Int) < (k : Int) := by omega
        have j1 : (i : Int) < (m : Int) := by omega
        clear hin
        go_wp2_with fail
        go_loopw [6, 11, 12, 13] (fun x y _ _ wr => ∃ (i : Nat) (ok2 : Bool), i ≤ m ∧ x = .bool ok2 ∧ y = .int .i64 i ∧ Hid (Zoo w wr [au p5 (ay u) 48]) ∧ Hid (srL k u ok2 (ds.drop i) = Tt)) (fun _ y _ _ _ => m - (intOf y).toNat)
        case atStart => exact ⟨0, ok2, Nat.zero_le _, rfl, rfl, ae HZ2, ae HT⟩
        case round =>
         clear HZ2 HT
         obtain ⟨i, ok2, hi2, rfl, rfl, HZ2, HSL⟩ := hrel
         by_cases hlt2 : i < m
         ·skip
          have j1 : (i : Int) < (m : Int) := by omega
          have j0 : (0 : Int) ≤ (i : Int) := by omega
          have hln : i < ds.length := by have := ae HM; omega
          obtain ⟨g, o, rfl, hbd⟩ := (ae HD) (by omega)
          obtain ⟨x, hx⟩ : ∃ x, ds[i]? = some x := ⟨_, List.getElem?_eq_getElem hln⟩
          have hdr : ds.drop i = x :: ds.drop (i + 1) := by
           rw [List.drop_eq_getElem_cons hln]
           rw [List.getElem?_eq_getElem hln] at hx
           rw [Option.some.inj hx]
          have HDR := ag hdr
          have hok := (ae HO).2 x (List.mem_of_getElem? hx)
          have hat := hbd i x hx
          obtain ⟨la, lc, z3, hls⟩ := hat.ls
          have q0 := (ae HZ2).kp.cell (by simp) hat.c0
          have q1 := (ae HZ2).kp.cell (by simp) hat.c1
          have q2 := hat.c2
          have HLS := ag hls
          clear hbd hx hls hat hdr
          obtain ⟨xn, xa, xm, xacts⟩ := x
          dsimp only at q0 q1 q2 z3 HLS hok
          have HOK := ag hok
          clear hok
          obtain ⟨ln, hlen⟩ : ∃ ln, xacts.length = ln := ⟨_, rfl⟩
          rw [hlen] at z3
          have HLX := ag hlen
          have HZ3 : Hid (w.cell? ⟨g, o + i * 4 + 3, none⟩ = some (.slice la ln lc)) := z3
          have HQ2 := ag q2
          clear hlen z3 q2
          by_cases he : xn = 0
          ·by_cases ha : xa = (k : Int)
           ·go_wp2_with fail
            refine wp_region_held_drew (S := fun w' => w'.cell? ⟨g, o + i * 4 + 3, none⟩ = some (.slice la ln lc) ∧ w'.rangeAt p5 0 (ay u).toList) (by kernel_rfl) (And.intro ((ae HZ2).kp.drew.cell (by simp) (ae HZ3)) (aE (ai ((ae HZ2).kp0 ((Kp.refl [] wr).drew)) (mh)))) (fun hHeld => ?_)
            have HA0 := ag ((ae HZ2).kp0 ((Kp.refl [] wr).drew))
            generalize World.drew _ = WD at HA0 hHeld ⊢
            refine dA (i := 0) rfl (by kernel_rfl) (by kernel_rfl) (by kernel_rfl) (fun _ _ _ h => h) (ge (by rfl) _ rfl p5 0 rfl u (fun _ h => h.2)) hHeld ?_
            try simp only [Act.put, sx, sy, sz]
            refine tk 1 ?_ rfl (by kernel_rfl) (fun _ _ _ h => h) (by rfl) ?_ hHeld ?_;rotate_left;· intro w hSw;(try dsimp only at hSw);go_simp;try with_reducible rfl
            try simp only [Act.put, sx, sy, sz]
            refine tk 2 ?_ rfl (by kernel_rfl) (fun _ _ _ h => h) (by rfl) ?_ hHeld ?_;rotate_left;· intro w hSw;(try dsimp only at hSw);go_simp;try with_reducible rfl
            try simp only [Act.put, sx, sy, sz]
            refine tk 3 ?_ rfl (by kernel_rfl) (fun _ _ _ h => h) (by rfl) ?_ hHeld ?_;rotate_left;· intro w hSw;(try dsimp only at hSw);go_simp;try with_reducible rfl
            try simp only [Act.put, sx, sy, sz]
            refine tk 4 ?_ rfl (by kernel_rfl) (fun _ _ _ h => h) (by rfl) ?_ hHeld ?_;rotate_left;· intro w hSw;(try dsimp only at hSw);go_simp;try with_reducible rfl
            try simp only [Act.put, sx, sy, sz]
            refine tk 5 ?_ rfl (by kernel_rfl) (fun _ _ _ h => h) (by rfl) ?_ hHeld ?_;rotate_left;· intro w hSw;(try dsimp only at hSw);go_simp;try with_reducible rfl
            try simp only [Act.put, sx, sy, sz]
            refine bK (i := 6) (j := 10) rfl rfl (by kernel_rfl) (fun K hK => ?_) (fun K hK => ?_)
            ·go_simp
             rw [← ae HLX]
             refine (eS u la lc xacts _ ((ae HLS).kp0 (ae HA0).kp) (ae HOK)).mono ?_
             rintro e w6 ⟨rfl, hk6⟩
             rw [ae HLX]
             have HA1 := ag ((ae HA0).kp0 hk6)
             clear hk6
             go_wp2_with fail
             refine hK.out _ _ (And.intro ((ae HA1).kp.cell (by simp) (ae HZ3)) (aE (ai (ae HA1) (mh)))) (fun hHeld2 => ?_)
             clear hK K hHeld
             have hHeld := hHeld2
             clear hHeld2
             try simp only [Act.put, sx, sy, sz]
             refine tk 7 ?_ rfl (by kernel_rfl) (fun _ _ _ h => h) (by rfl) ?_ hHeld ?_;rotate_left;· intro w hSw;(try dsimp only at hSw);go_simp;try with_reducible rfl
             try simp only [Act.put, sx, sy, sz]
             refine tk 8 ?_ rfl (by kernel_rfl) (fun _ _ _ h => h) (by rfl) ?_ hHeld ?_;rotate_left;· intro w hSw;(try dsimp only at hSw);go_simp;try with_reducible rfl
             try simp only [Act.put, sx, sy, sz]
             refine tk 9 ?_ rfl (by kernel_rfl) (fun _ _ _ h => h) (by rfl) ?_ hHeld ?_;rotate_left;· intro w hSw;(try dsimp only at hSw);go_simp;try with_reducible rfl
             try simp only [Act.put, sx, sy, sz]
             refine aj (i := 10) rfl (by kernel_rfl) (fun K hK => ?_)
             go_simp
             have HA2 := ag ((ae HA1).box (ay (fun _ => dv)) 48)
             rw [bI] at HA2
             refine hK.out _ _ (And.intro ((ae HA2).kp.cell (by simp) (ae HZ3)) (aE (ai (ae HA2) (mt (mh))))) (fun hHeld2 => ?_)
             clear hK K hHeld
             have hHeld := hHeld2
             clear hHeld2
             try simp only [Act.put, sx, sy, sz]
             generalize w6.heap.size = p9 at *
             refine aj (i := 11) rfl (by kernel_rfl) (fun K hK => ?_)
             rw [if_pos (by rfl)]
             refine wp_store_row 48 _ _ rfl p9 (ay (rpw u xacts)) rfl rfl 48 _ (ai (ae HA2) (mh)) Tryz.size48 rfl (aS _) ?_
             have HZF := ag (bN (l1 := []) (c' := ay (rpw u xacts)) (ae HA2))
             refine hK.out _ _ (And.intro ((ae HZF).kp.cell (by simp) (ae HZ3)) (aE (ai (ae HZF) (mt (mh))))) (fun hHeld2 => ?_)
             clear hK K hHeld
             have hHeld := hHeld2
             clear hHeld2
             simp only [Act.put]
             refine tk 12 ?_ rfl (by kernel_rfl) (fun _ _ _ h => h) (by rfl) ?_ hHeld ?_;rotate_left;· intro w hSw;(try dsimp only at hSw);go_simp;try with_reducible rfl
             try simp only [Act.put, sx, sy, sz]
             refine wpAnyH_done (by kernel_rfl) ?_ _
             generalize World.setRow _ _ _ = W9 at HZF ⊢
             clear hHeld
             clear q0 q1
             cases ok2 with
             | false =>
               cases hro : rpo u xacts with
               | true =>
                 have HRO := ag hro
                 clear hro
                 go_wp2_with fail
                 refine ⟨⟨i + 1, false, by omega, rfl, by go_num, (ae HZF).tail, ?_⟩, by simp [intOf]; omega⟩
                 show srL k u false (ds.drop (i + 1)) = Tt
                 have z := ae HSL
                 rw [ae HDR] at z
                 simp only [srL] at z
                 rw [if_pos ⟨he, ha⟩] at z
                 rw [← z]
                 simp [ae HRO]
               | false =>
                 have HRO := ag hro
                 clear hro
                 go_wp2_with fail
                 refine ⟨⟨i + 1, false, by omega, rfl, by go_num, (ae HZF).tail, ?_⟩, by simp [intOf]; omega⟩
                 show srL k u false (ds.drop (i + 1)) = Tt
                 have z := ae HSL
                 rw [ae HDR] at z
                 simp only [srL] at z
                 rw [if_pos ⟨he, ha⟩] at z
                 rw [← z]
                 simp [ae HRO]
             | true =>
               cases hro : rpo u xacts with
               | true =>
                 have HRO := ag hro
                 clear hro
                 go_wp2_with fail
                 refine ⟨⟨i + 1, true, by omega, rfl, by go_num, (ae HZF).tail, ?_⟩, by simp [intOf]; omega⟩
                 show srL k u true (ds.drop (i + 1)) = Tt
                 have z := ae HSL
                 rw [ae HDR] at z
                 simp only [srL] at z
                 rw [if_pos ⟨he, ha⟩] at z
                 rw [← z]
                 simp [ae HRO]
               | false =>
                 have HRO := ag hro
                 clear hro
                 go_wp2_with fail
                 refine ⟨⟨i + 1, false, by omega, rfl, by go_num, (ae HZF).tail, ?_⟩, by simp [intOf]; omega⟩
                 show srL k u false (ds.drop (i + 1)) = Tt
                 have z := ae HSL
                 rw [ae HDR] at z
                 simp only [srL] at z
                 rw [if_pos ⟨he, ha⟩] at z
                 rw [← z]
                 simp [ae HRO]
            ·go_simp
             have HA1 := ag ((ae HA0).box (ay (fun _ => dv)) 48)
             rw [bI] at HA1
             refine hK.out _ _ (And.intro ((ae HA1).kp.cell (by simp) (ae HZ3)) (aE (ai (ae HA1) (mt (mh))))) (fun hHeld2 => ?_)
             clear hK K hHeld
             have hHeld := hHeld2
             clear hHeld2
             try simp only [Act.put, sx, sy, sz]
             generalize WD.heap.size = p9 at *
             refine aj (i := 6) rfl (by kernel_rfl) (fun K hK => ?_)
             go_simp
             rw [← ae HLX]
             refine (eS u la lc xacts _ ((ae HLS).kp0 (ae HA1).kp) (ae HOK)).mono ?_
             rintro e w6 ⟨rfl, hk6⟩
             rw [ae HLX]
             have HA2 := ag ((ae HA1).kp0 hk6)
             clear hk6
             go_wp2_with fail
             refine hK.out _ _ (And.intro ((ae HA2).kp.cell (by simp) (ae HZ3)) (aE (ai (ae HA2) (mt (mh))))) (fun hHeld2 => ?_)
             clear hK K hHeld
             have hHeld := hHeld2
             clear hHeld2
             try simp only [Act.put, sx, sy, sz]
             refine tk 7 ?_ rfl (by kernel_rfl) (fun _ _ _ h => h) (by rfl) ?_ hHeld ?_;rotate_left;· intro w hSw;(try dsimp only at hSw);go_simp;try with_reducible rfl
             try simp only [Act.put, sx, sy, sz]
             refine tk 8 ?_ rfl (by kernel_rfl) (fun _ _ _ h => h) (by rfl) ?_ hHeld ?_;rotate_left;· intro w hSw;(try dsimp only at hSw);go_simp;try with_reducible rfl
             try simp only [Act.put, sx, sy, sz]
             refine tk 9 ?_ rfl (by kernel_rfl) (fun _ _ _ h => h) (by rfl) ?_ hHeld ?_;rotate_left;· intro w hSw;(try dsimp only at hSw);go_simp;try with_reducible rfl
             try simp only [Act.put, sx, sy, sz]
             refine aj (i := 11) rfl (by kernel_rfl) (fun K hK => ?_)
             rw [if_pos (by rfl)]
             refine wp_store_row 48 _ _ rfl p9 (ay (rpw u xacts)) rfl rfl 48 _ (ai (ae HA2) (mh)) Tryz.size48 rfl (aS _) ?_
             have HZF := ag (bN (l1 := []) (c' := ay (rpw u xacts)) (ae HA2))
             refine hK.out _ _ (And.intro ((ae HZF).kp.cell (by simp) (ae HZ3)) (aE (ai (ae HZF) (mt (mh))))) (fun hHeld2 => ?_)
             clear hK K hHeld
             have hHeld := hHeld2
             clear hHeld2
             simp only [Act.put]
             refine tk 12 ?_ rfl (by kernel_rfl) (fun _ _ _ h => h) (by rfl) ?_ hHeld ?_;rotate_left;· intro w hSw;(try dsimp only at hSw);go_simp;try with_reducible rfl
             try simp only [Act.put, sx, sy, sz]
             refine wpAnyH_done (by kernel_rfl) ?_ _
             generalize World.setRow _ _ _ = W9 at HZF ⊢
             clear hHeld
             clear q0 q1
             cases ok2 with
             | false =>
               cases hro : rpo u xacts with
               | true =>
                 have HRO := ag hro
                 clear hro
                 go_wp2_with fail
                 refine ⟨⟨i + 1, false, by omega, rfl, by go_num, (ae HZF).tail, ?_⟩, by simp [intOf]; omega⟩
                 show srL k u false (ds.drop (i + 1)) = Tt
                 have z := ae HSL
                 rw [ae HDR] at z
                 simp only [srL] at z
                 rw [if_pos ⟨he, ha⟩] at z
                 rw [← z]
                 simp [ae HRO]
               | false =>
                 have HRO := ag hro
                 clear hro
                 go_wp2_with fail
                 refine ⟨⟨i + 1, false, by omega, rfl, by go_num, (ae HZF).tail, ?_⟩, by simp [intOf]; omega⟩
                 show srL k u false (ds.drop (i + 1)) = Tt
                 have z := ae HSL
                 rw [ae HDR] at z
                 simp only [srL] at z
                 rw [if_pos ⟨he, ha⟩] at z
                 rw [← z]
                 simp [ae HRO]
             | true =>
               cases hro : rpo u xacts with
               | true =>
                 have HRO := ag hro
                 clear hro
                 go_wp2_with fail
                 refine ⟨⟨i + 1, true, by omega, rfl, by go_num, (ae HZF).tail, ?_⟩, by simp [intOf]; omega⟩
                 show srL k u true (ds.drop (i + 1)) = Tt
                 have z := ae HSL
                 rw [ae HDR] at z
                 simp only [srL] at z
                 rw [if_pos ⟨he, ha⟩] at z
                 rw [← z]
                 simp [ae HRO]
               | false =>
                 have HRO := ag hro
                 clear hro
                 go_wp2_with fail
                 refine ⟨⟨i + 1, false, by omega, rfl, by go_num, (ae HZF).tail, ?_⟩, by simp [intOf]; omega⟩
                 show srL k u false (ds.drop (i + 1)) = Tt
                 have z := ae HSL
                 rw [ae HDR] at z
                 simp only [srL] at z
                 rw [if_pos ⟨he, ha⟩] at z
                 rw [← z]
                 simp [ae HRO]
           ·skip
            have ha2 : (xa == (k : Int)) = false := by simpa using ha
            go_wp2_with fail
            refine ⟨⟨i + 1, ok2, by omega, rfl, by go_num, ae HZ2, ?_⟩, by simp [intOf]; omega⟩
            have z := ae HSL
            rw [ae HDR] at z
            simp only [srL] at z
            rw [if_neg (fun q => ha q.2)] at z
            exact z
          ·skip
           have he2 : (xn == 0) = false := by simpa using he
           go_wp2_with fail
           refine ⟨⟨i + 1, ok2, by omega, rfl, by go_num, ae HZ2, ?_⟩, by simp [intOf]; omega⟩
           have z := ae HSL
           rw [ae HDR] at z
           simp only [srL] at z
           rw [if_neg (fun q => he q.1)] at z
           exact z
         ·have j1 : ¬ (i : Int) < (m : Int) := by omega
          have HTO : Hid (ok2 = Tt) := by
           have z := ae HSL
           rw [List.drop_eq_nil_of_le (by have := ae HM; omega)] at z
           exact z
          rw [← ae HTO] at HST2
          go_wp2_with fail
          exact ⟨⟨k + 1, ok2, by omega, rfl, by go_num, u, ae HZ2, ae HST2⟩, by simp [intOf]; omega⟩
       ·have j1 : ¬ (i : Int) < (m : Int) := by omega
        clear hin
        go_wp2_with fail
        go_loopw [6, 11, 12, 13] (fun x y _ _ wr => ∃ (i : Nat) (ok2 : Bool), i ≤ m ∧ x = .bool ok2 ∧ y = .int .i64 i ∧ Hid (Zoo w wr [au p5 (ay u) 48]) ∧ Hid (srL k u ok2 (ds.drop i) = Tt)) (fun _ y _ _ _ => m - (intOf y).toNat)
        case atStart => exact ⟨0, ok2, Nat.zero_le _, rfl, rfl, ae HZ2, ae HT⟩
        case round =>
         clear HZ2 HT
         obtain ⟨i, ok2, hi2, rfl, rfl, HZ2, HSL⟩ := hrel
         by_cases hlt2 : i < m
         ·skip
          have j1 : (i : Int) < (m : Int) := by omega
          have j0 : (0 : Int) ≤ (i : Int) := by omega
          have hln : i < ds.length := by have := ae HM; omega
          obtain ⟨g, o, rfl, hbd⟩ := (ae HD) (by omega)
          obtain ⟨x, hx⟩ : ∃ x, ds[i]? = some x := ⟨_, List.getElem?_eq_getElem hln⟩
          have hdr : ds.drop i = x :: ds.drop (i + 1) := by
           rw [List.drop_eq_getElem_cons hln]
           rw [List.getElem?_eq_getElem hln] at hx
           rw [Option.some.inj hx]
          have HDR := ag hdr
          have hok := (ae HO).2 x (List.mem_of_getElem? hx)
          have hat := hbd i x hx
          obtain ⟨la, lc, z3, hls⟩ := hat.ls
          have q0 := (ae HZ2).kp.cell (by simp) hat.c0
          have q1 := (ae HZ2).kp.cell (by simp) hat.c1
          have q2 := hat.c2
          have HLS := ag hls
          clear hbd hx hls hat hdr
          obtain ⟨xn, xa, xm, xacts⟩ := x
          dsimp only at q0 q1 q2 z3 HLS hok
          have HOK := ag hok
          clear hok
          obtain ⟨ln, hlen⟩ : ∃ ln, xacts.length = ln := ⟨_, rfl⟩
          rw [hlen] at z3
          have HLX := ag hlen
          have HZ3 : Hid (w.cell? ⟨g, o + i * 4 + 3, none⟩ = some (.slice la ln lc)) := z3
          have HQ2 := ag q2
          clear hlen z3 q2
          by_cases he : xn = 0
          ·by_cases ha : xa = (k : Int)
           ·go_wp2_with fail
            refine wp_region_held_drew (S := fun w' => w'.cell? ⟨g, o + i * 4 + 3, none⟩ = some (.slice la ln lc) ∧ w'.rangeAt p5 0 (ay u).toList) (by kernel_rfl) (And.intro ((ae HZ2).kp.drew.cell (by simp) (ae HZ3)) (aE (ai ((ae HZ2).kp0 ((Kp.refl [] wr).drew)) (mh)))) (fun hHeld => ?_)
            have HA0 := ag ((ae HZ2).kp0 ((Kp.refl [] wr).drew))
            generalize World.drew _ = WD at HA0 hHeld ⊢
            refine dA (i := 0) rfl (by kernel_rfl) (by kernel_rfl) (by kernel_rfl) (fun _ _ _ h => h) (ge (by rfl) _ rfl p5 0 rfl u (fun _ h => h.2)) hHeld ?_
            try simp only [Act.put, sx, sy, sz]
            refine tk 1 ?_ rfl (by kernel_rfl) (fun _ _ _ h => h) (by rfl) ?_ hHeld ?_;rotate_left;· intro w hSw;(try dsimp only at hSw);go_simp;try with_reducible rfl
            try simp only [Act.put, sx, sy, sz]
            refine tk 2 ?_ rfl (by kernel_rfl) (fun _ _ _ h => h) (by rfl) ?_ hHeld ?_;rotate_left;· intro w hSw;(try dsimp only at hSw);go_simp;try with_reducible rfl
            try simp only [Act.put, sx, sy, sz]
            refine tk 3 ?_ rfl (by kernel_rfl) (fun _ _ _ h => h) (by rfl) ?_ hHeld ?_;rotate_left;· intro w hSw;(try dsimp only at hSw);go_simp;try with_reducible rfl
            try simp only [Act.put, sx, sy, sz]
            refine tk 4 ?_ rfl (by kernel_rfl) (fun _ _ _ h => h) (by rfl) ?_ hHeld ?_;rotate_left;· intro w hSw;(try dsimp only at hSw);go_simp;try with_reducible rfl
            try simp only [Act.put, sx, sy, sz]
            refine tk 5 ?_ rfl (by kernel_rfl) (fun _ _ _ h => h) (by rfl) ?_ hHeld ?_;rotate_left;· intro w hSw;(try dsimp only at hSw);go_simp;try with_reducible rfl
            try simp only [Act.put, sx, sy, sz]
            refine bK (i := 6) (j := 10) rfl rfl (by kernel_rfl) (fun K hK => ?_) (fun K hK => ?_)
            ·go_simp
             rw [← ae HLX]
             refine (eS u la lc xacts _ ((ae HLS).kp0 (ae HA0).kp) (ae HOK)).mono ?_
             rintro e w6 ⟨rfl, hk6⟩
             rw [ae HLX]
             have HA1 := ag ((ae HA0).kp0 hk6)
             clear hk6
             go_wp2_with fail
             refine hK.out _ _ (And.intro ((ae HA1).kp.cell (by simp) (ae HZ3)) (aE (ai (ae HA1) (mh)))) (fun hHeld2 => ?_)
             clear hK K hHeld
             have hHeld := hHeld2
             clear hHeld2
             try simp only [Act.put, sx, sy, sz]
             refine tk 7 ?_ rfl (by kernel_rfl) (fun _ _ _ h => h) (by rfl) ?_ hHeld ?_;rotate_left;· intro w hSw;(try dsimp only at hSw);go_simp;try with_reducible rfl
             try simp only [Act.put, sx, sy, sz]
             refine tk 8 ?_ rfl (by kernel_rfl) (fun _ _ _ h => h) (by rfl) ?_ hHeld ?_;rotate_left;· intro w hSw;(try dsimp only at hSw);go_simp;try with_reducible rfl
             try simp only [Act.put, sx, sy, sz]
             refine tk 9 ?_ rfl (by kernel_rfl) (fun _ _ _ h => h) (by rfl) ?_ hHeld ?_;rotate_left;· intro w hSw;(try dsimp only at hSw);go_simp;try with_reducible rfl
             try simp only [Act.put, sx, sy, sz]
             refine aj (i := 10) rfl (by kernel_rfl) (fun K hK => ?_)
             go_simp
             have HA2 := ag ((ae HA1).box (ay (fun _ => dv)) 48)
             rw [bI] at HA2
             refine hK.out _ _ (And.intro ((ae HA2).kp.cell (by simp) (ae HZ3)) (aE (ai (ae HA2) (mt (mh))))) (fun hHeld2 => ?_)
             clear hK K hHeld
             have hHeld := hHeld2
             clear hHeld2
             try simp only [Act.put, sx, sy, sz]
             generalize w6.heap.size = p9 at *
             refine aj (i := 11) rfl (by kernel_rfl) (fun K hK => ?_)
             rw [if_pos (by rfl)]
             refine wp_store_row 48 _ _ rfl p9 (ay (rpw u xacts)) rfl rfl 48 _ (ai (ae HA2) (mh)) Tryz.size48 rfl (aS _) ?_
             have HZF := ag (bN (l1 := []) (c' := ay (rpw u xacts)) (ae HA2))
             refine hK.out _ _ (And.intro ((ae HZF).kp.cell (by simp) (ae HZ3)) (aE (ai (ae HZF) (mt (mh))))) (fun hHeld2 => ?_)
             clear hK K hHeld
             have hHeld := hHeld2
             clear hHeld2
             simp only [Act.put]
             refine tk 12 ?_ rfl (by kernel_rfl) (fun _ _ _ h => h) (by rfl) ?_ hHeld ?_;rotate_left;· intro w hSw;(try dsimp only at hSw);go_simp;try with_reducible rfl
             try simp only [Act.put, sx, sy, sz]
             refine wpAnyH_done (by kernel_rfl) ?_ _
             generalize World.setRow _ _ _ = W9 at HZF ⊢
             clear hHeld
             clear q0 q1
             cases ok2 with
             | false =>
               cases hro : rpo u xacts with
               | true =>
                 have HRO := ag hro
                 clear hro
                 go_wp2_with fail
                 refine ⟨⟨i + 1, false, by omega, rfl, by go_num, (ae HZF).tail, ?_⟩, by simp [intOf]; omega⟩
                 show srL k u false (ds.drop (i + 1)) = Tt
                 have z := ae HSL
                 rw [ae HDR] at z
                 simp only [srL] at z
                 rw [if_pos ⟨he, ha⟩] at z
                 rw [← z]
                 simp [ae HRO]
               | false =>
                 have HRO := ag hro
                 clear hro
                 go_wp2_with fail
                 refine ⟨⟨i + 1, false, by omega, rfl, by go_num, (ae HZF).tail, ?_⟩, by simp [intOf]; omega⟩
                 show srL k u false (ds.drop (i + 1)) = Tt
                 have z := ae HSL
                 rw [ae HDR] at z
                 simp only [srL] at z
                 rw [if_pos ⟨he, ha⟩] at z
                 rw [← z]
                 simp [ae HRO]
             | true =>
               cases hro : rpo u xacts with
               | true =>
                 have HRO := ag hro
                 clear hro
                 go_wp2_with fail
                 refine ⟨⟨i + 1, true, by omega, rfl, by go_num, (ae HZF).tail, ?_⟩, by simp [intOf]; omega⟩
                 show srL k u true (ds.drop (i + 1)) = Tt
                 have z := ae HSL
                 rw [ae HDR] at z
                 simp only [srL] at z
                 rw [if_pos ⟨he, ha⟩] at z
                 rw [← z]
                 simp [ae HRO]
               | false =>
                 have HRO := ag hro
                 clear hro
                 go_wp2_with fail
                 refine ⟨⟨i + 1, false, by omega, rfl, by go_num, (ae HZF).tail, ?_⟩, by simp [intOf]; omega⟩
                 show srL k u false (ds.drop (i + 1)) = Tt
                 have z := ae HSL
                 rw [ae HDR] at z
                 simp only [srL] at z
                 rw [if_pos ⟨he, ha⟩] at z
                 rw [← z]
                 simp [ae HRO]
            ·go_simp
             have HA1 := ag ((ae HA0).box (ay (fun _ => dv)) 48)
             rw [bI] at HA1
             refine hK.out _ _ (And.intro ((ae HA1).kp.cell (by simp) (ae HZ3)) (aE (ai (ae HA1) (mt (mh))))) (fun hHeld2 => ?_)
             clear hK K hHeld
             have hHeld := hHeld2
             clear hHeld2
             try simp only [Act.put, sx, sy, sz]
             generalize WD.heap.size = p9 at *
             refine aj (i := 6) rfl (by kernel_rfl) (fun K hK => ?_)
             go_simp
             rw [← ae HLX]
             refine (eS u la lc xacts _ ((ae HLS).kp0 (ae HA1).kp) (ae HOK)).mono ?_
             rintro e w6 ⟨rfl, hk6⟩
             rw [ae HLX]
             have HA2 := ag ((ae HA1).kp0 hk6)
             clear hk6
             go_wp2_with fail
             refine hK.out _ _ (And.intro ((ae HA2).kp.cell (by simp) (ae HZ3)) (aE (ai (ae HA2) (mt (mh))))) (fun hHeld2 => ?_)
             clear hK K hHeld
             have hHeld := hHeld2
             clear hHeld2
             try simp only [Act.put, sx, sy, sz]
             refine tk 7 ?_ rfl (by kernel_rfl) (fun _ _ _ h => h) (by rfl) ?_ hHeld ?_;rotate_left;· intro w hSw;(try dsimp only at hSw);go_simp;try with_reducible rfl
             try simp only [Act.put, sx, sy, sz]
             refine tk 8 ?_ rfl (by kernel_rfl) (fun _ _ _ h => h) (by rfl) ?_ hHeld ?_;rotate_left;· intro w hSw;(try dsimp only at hSw);go_simp;try with_reducible rfl
             try simp only [Act.put, sx, sy, sz]
             refine tk 9 ?_ rfl (by kernel_rfl) (fun _ _ _ h => h) (by rfl) ?_ hHeld ?_;rotate_left;· intro w hSw;(try dsimp only at hSw);go_simp;try with_reducible rfl
             try simp only [Act.put, sx, sy, sz]
             refine aj (i := 11) rfl (by kernel_rfl) (fun K hK => ?_)
             rw [if_pos (by rfl)]
             refine wp_store_row 48 _ _ rfl p9 (ay (rpw u xacts)) rfl rfl 48 _ (ai (ae HA2) (mh)) Tryz.size48 rfl (aS _) ?_
             have HZF := ag (bN (l1 := []) (c' := ay (rpw u xacts)) (ae HA2))
             refine hK.out _ _ (And.intro ((ae HZF).kp.cell (by simp) (ae HZ3)) (aE (ai (ae HZF) (mt (mh))))) (fun hHeld2 => ?_)
             clear hK K hHeld
             have hHeld := hHeld2
             clear hHeld2
             simp only [Act.put]
             refine tk 12 ?_ rfl (by kernel_rfl) (fun _ _ _ h => h) (by rfl) ?_ hHeld ?_;rotate_left;· intro w hSw;(try dsimp only at hSw);go_simp;try with_reducible rfl
             try simp only [Act.put, sx, sy, sz]
             refine wpAnyH_done (by kernel_rfl) ?_ _
             generalize World.setRow _ _ _ = W9 at HZF ⊢
             clear hHeld
             clear q0 q1
             cases ok2 with
             | false =>
               cases hro : rpo u xacts with
               | true =>
                 have HRO := ag hro
                 clear hro
                 go_wp2_with fail
                 refine ⟨⟨i + 1, false, by omega, rfl, by go_num, (ae HZF).tail, ?_⟩, by simp [intOf]; omega⟩
                 show srL k u false (ds.drop (i + 1)) = Tt
                 have z := ae HSL
                 rw [ae HDR] at z
                 simp only [srL] at z
                 rw [if_pos ⟨he, ha⟩] at z
                 rw [← z]
                 simp [ae HRO]
               | false =>
                 have HRO := ag hro
                 clear hro
                 go_wp2_with fail
                 refine ⟨⟨i + 1, false, by omega, rfl, by go_num, (ae HZF).tail, ?_⟩, by simp [intOf]; omega⟩
                 show srL k u false (ds.drop (i + 1)) = Tt
                 have z := ae HSL
                 rw [ae HDR] at z
                 simp only [srL] at z
                 rw [if_pos ⟨he, ha⟩] at z
                 rw [← z]
                 simp [ae HRO]
             | true =>
               cases hro : rpo u xacts with
               | true =>
                 have HRO := ag hro
                 clear hro
                 go_wp2_with fail
                 refine ⟨⟨i + 1, true, by omega, rfl, by go_num, (ae HZF).tail, ?_⟩, by simp [intOf]; omega⟩
                 show srL k u true (ds.drop (i + 1)) = Tt
                 have z := ae HSL
                 rw [ae HDR] at z
                 simp only [srL] at z
                 rw [if_pos ⟨he, ha⟩] at z
                 rw [← z]
                 simp [ae HRO]
               | false =>
                 have HRO := ag hro
                 clear hro
                 go_wp2_with fail
                 refine ⟨⟨i + 1, false, by omega, rfl, by go_num, (ae HZF).tail, ?_⟩, by simp [intOf]; omega⟩
                 show srL k u false (ds.drop (i + 1)) = Tt
                 have z := ae HSL
                 rw [ae HDR] at z
                 simp only [srL] at z
                 rw [if_pos ⟨he, ha⟩] at z
                 rw [← z]
                 simp [ae HRO]
           ·skip
            have ha2 : (xa == (k : Int)) = false := by simpa using ha
            go_wp2_with fail
            refine ⟨⟨i + 1, ok2, by omega, rfl, by go_num, ae HZ2, ?_⟩, by simp [intOf]; omega⟩
            have z := ae HSL
            rw [ae HDR] at z
            simp only [srL] at z
            rw [if_neg (fun q => ha q.2)] at z
            exact z
          ·skip
           have he2 : (xn == 0) = false := by simpa using he
           go_wp2_with fail
           refine ⟨⟨i + 1, ok2, by omega, rfl, by go_num, ae HZ2, ?_⟩, by simp [intOf]; omega⟩
           have z := ae HSL
           rw [ae HDR] at z
           simp only [srL] at z
           rw [if_neg (fun q => he q.1)] at z
           exact z
         ·have j1 : ¬ (i : Int) < (m : Int) := by omega
          have HTO : Hid (ok2 = Tt) := by
           have z := ae HSL
           rw [List.drop_eq_nil_of_le (by have := ae HM; omega)] at z
           exact z
          rw [← ae HTO] at HST2
          go_wp2_with fail
          exact ⟨⟨k + 1, ok2, by omega, rfl, by go_num, u, ae HZ2, ae HST2⟩, by simp [intOf]; omega⟩
    ·have k1 : ¬ (k : Int) ≤ (M : Int) := by omega
     have e1 : k = M + 1 := by omega
     have HOK2 : Hid (ok = R) := by
      have z := ae HRR
      rw [e1, Nat.sub_self] at z
      exact z
     go_wp2_with fail
     go_ret
     exact ⟨congrArg (fun z => Ending.returned (Value.bool z)) (ae HOK2), (ae HZ).kp⟩
end
section
open Go.RowKit
attribute [local go_sem ↓] Go.wp_at_zero Go.wp_at_succ

end
section
open Go.RowKit Srt
attribute [local go_sem ↓] Go.wp_at_zero Go.wp_at_succ
theorem sa : ∀ (l : List ax) (h : HSt) (b : Bk) (i : Nat), BkB i b → BkB (i + l.length) (fu h b l).2 := by
 intro l
 induction l with
 | nil => intro h b i hb; exact hb
 | cons x l ih =>
   intro h b i hb
   have := ih (hdo h x) (aY b x (hev h x) h.n) (i + 1) (hb.step x (hev h x) h.n (oU h x))
   rw [List.length_cons, show i + (l.length + 1) = i + 1 + l.length by omega]
   exact this
theorem yi (l : List ax) (hl : l.length ≤ 1000) : iu (ntd l) := (sa l dY bk0 0 py).ok (by omega)
theorem sw (st : Nat → ax) (n : Nat) : (eJ st n).length = n := by simp [eJ]
theorem ei {ops : Array Oper} {rest : List Oper} {o : Oper} {a : Act} {w : World} {Q : Exit → Act → World → Prop} (hw : Region.wanted o (yielded ops a.tmps) = true) (x : Operand) (ho : o.op = .load 45 x)
 (g : Nat) (hx : a.eval x = .pointer (some ⟨g, 0, none⟩)) (v : Nat → Ver) (hg : w.heap[g]? = some (.cells (ay v) 45 (0, 0))) (h : wpList Tryz.prog ops Q rest (a.put o.dst (.agg (ay v))) w) : wpList Tryz.prog ops Q (o :: rest) a w :=
 wpList_step fun K hK => by
  rw [if_pos hw]
  exact wp_load_row 45 x ho g hx 45 (ay v) (0, 0) _ hg Tryz.underlying45 rfl Tryz.size45 (hK _ _ h)
theorem Tryz.info39 : (Tryz.prog.info? 39).map (fun i => (i.zero, i.size, i.bytes)) = some (some (.agg #[.int .i64 0, .int .i64 0, .int .i64 0, .slice none 0 0]), 4, 48) := by kernel_rfl
def raT (y : Dy) : ao := KwT 44 6 y.x.a y.ys.length y.x.c (bS y.ys)
structure RuI (ds : List Dn) (w wr : World) (aU : Option Addr) (cU n i : Nat) (ys : List Dy) : Prop where
 zoo : Zoo w wr (KwT 39 4 aU n cU (aP (ys.map Dy.x)) :: ys.map raT)
 nl : n = ys.length
 map : ys.map (fun y => y.x.d) = ds.take i
 acts : ∀ y, y ∈ ys → y.x.d.acts = y.ys.map Ax.x
 sl : ∀ y, y ∈ ys → ∀ z, z ∈ y.ys → SlO w z.a z.x.l
theorem RuI.dns {ds : List Dn} {w wr : World} {aU : Option Addr} {cU n i : Nat} {ys : List Dy} (h : RuI ds w wr aU cU n i ys) : fp wr aU (ys.map (fun y => y.x.d)) := by
 have hrow := bq (l1 := []) h.zoo
 intro hp
 rw [List.length_map] at hp
 have hat : ∀ {i : Nat} {y : Dy}, ys[i]? = some y → (ys.map Dy.x)[i]? = some y.x := fun {i y} h => by rw [List.getElem?_map, h]; rfl
 obtain ⟨g, e, _⟩ := hrow.cell (fg (hat (List.getElem?_eq_getElem hp))).1
 refine ⟨g, 0, e, fun i d hd => ?_⟩
 rw [List.getElem?_map] at hd
 cases hy : ys[i]? with
 | none => rw [hy] at hd; cases hd
 | some y =>
   rw [hy] at hd
   simp only [Option.map_some, Option.some.injEq] at hd
   subst hd
   obtain ⟨c0, c1, c2, c3⟩ := fg (hat hy)
   have key : ∀ {j : Nat} {v : Value}, (aP (ys.map Dy.x))[j]? = some v → wr.cell? ⟨g, j, none⟩ = some v := fun {j v} hv => by
    obtain ⟨g', e', hc⟩ := hrow.cell hv
    rw [e] at e'
    simp only [Option.some.injEq, Addr.mk.injEq, and_true] at e'
    rw [e']
    exact hc
   have hm := List.mem_of_getElem? hy
   rw [Nat.zero_add]
   have hm2 : raT y ∈ KwT 39 4 aU n cU (aP (ys.map Dy.x)) :: ys.map raT := List.mem_cons_of_mem _ (List.mem_map_of_mem hm)
   obtain ⟨l1, l2, el⟩ := List.append_of_mem hm2
   have hr2 := bq (l1 := l1) (r := l2) (show Zoo w wr (l1 ++ KwT 44 6 y.x.a y.ys.length y.x.c (bS y.ys) :: l2) by have z := h.zoo; rw [el] at z; exact z)
   refine ⟨key c0, key c1, key c2, ⟨y.x.a, y.x.c, key c3, ?_⟩, y.x.a, y.x.c, key c3, ?_⟩
   ·rw [h.acts y hm, List.length_map]
    exact jn hr2
   ·rw [h.acts y hm]
    exact fQ hr2 (fun z hz => (h.sl y hm z hz).kp0 h.zoo.kp)
end
section
open Go.RowKit
attribute [local go_sem ↓] Go.wp_at_zero Go.wp_at_succ
def xy (x : ax) : Array Value := #[.int .i64 x.d, .int .i64 x.s, .int .i64 x.md, .int .i64 x.at_, .int .i64 x.key, .int .i64 x.to_, .int .i64 x.keep, .string x.b]
structure StX (w : World) (q : Nat) (x : ax) : Prop where
 c0 : w.cell? ⟨q, 0, none⟩ = some (.int .i64 x.d)
 c1 : w.cell? ⟨q, 1, none⟩ = some (.int .i64 x.s)
 c2 : w.cell? ⟨q, 2, none⟩ = some (.int .i64 x.md)
 c3 : w.cell? ⟨q, 3, none⟩ = some (.int .i64 x.at_)
 c4 : w.cell? ⟨q, 4, none⟩ = some (.int .i64 x.key)
 c5 : w.cell? ⟨q, 5, none⟩ = some (.int .i64 x.to_)
 c6 : w.cell? ⟨q, 6, none⟩ = some (.int .i64 x.keep)
 c7 : w.cell? ⟨q, 7, none⟩ = some (.string x.b)
def wK (w : World) (q : Nat) (x : ax) : Prop := w.heap[q]? = some (.cells (xy x) 55 (0, 0))
theorem wK.c {w : World} {q : Nat} {x : ax} (h : wK w q x) : StX w q x := ⟨af h rfl, af h rfl, af h rfl, af h rfl, af h rfl, af h rfl, af h rfl, af h rfl⟩
structure DoX (w W : World) (q p : Nat) (x : ax) : Prop where
 kp : Kp [] w W
 s : wK W q x
 e : EvB W p
 hq : q = w.heap.size
 hp : p = w.heap.size + 1
theorem doX (w : World) (x : ax) : DoX w ((w.alloc (.cells #[.int .i64 x.d, .int .i64 x.s, .int .i64 x.md, .int .i64 x.at_, .int .i64 x.key, .int .i64 x.to_, .int .i64 x.keep, .string x.b] 55)).alloc (.cells #[.int .i64 0, .int .i64 0, .bool false, .string ⟨#[]⟩, .slice none 0 0] 74)) w.heap.size (w.heap.size + 1) x :=
 ⟨((Kp.refl [] w).alloc _).alloc _, by
   show ((w.alloc _).alloc _).heap[w.heap.size]? = _
   rw [Below.heap_alloc _ _ _ (by simp)]
   exact heap_alloc_new _ _, pF _ _ _, rfl, rfl⟩
theorem DoX.kp0 {w W W' : World} {q p : Nat} {x : ax} (h : DoX w W q p x) (hk : Kp [] W W') : DoX w W' q p x :=
 ⟨h.kp.trans0 hk, by show W'.heap[q]? = _; rw [hk.block q (ah h.s) (by simp)]; exact h.s, by show W'.heap[p]? = _; rw [hk.block p (ah h.e) (by simp)]; exact h.e, h.hq, h.hp⟩
theorem DoX.ch {w W w1 : World} {q p : Nat} {x : ax} {o' : ao} {B : Nat} {G : List Nat} (h : DoX w W q p x) (hc : Ch o' B W G w1) (hG : ∀ x, x ∈ G → x < w.heap.size) : wK w1 q x ∧ EvB w1 p :=
 ⟨hc.far (fun hm => by have := hG _ hm; have := h.hq; omega) h.s, hc.far (fun hm => by have := hG _ hm; have := h.hp; omega) h.e⟩
theorem DoX.back {w W w' : World} {q p : Nat} {x : ax} (h : DoX w W q p x) (hk : Kp [p] W w') : Kp [] w w' := h.kp.trans hk (fun y hy => .inr (by rw [List.mem_singleton.1 hy, h.hp]; omega))
theorem tL (cb : Nat) (x : ax) (w : World) (hd : x.d < 1 ∨ 10 < x.d) :
 Calls Tryz.prog 26 #[.pointer (some ⟨cb, 0, none⟩), .agg #[.int .i64 x.d, .int .i64 x.s, .int .i64 x.md, .int .i64 x.at_, .int .i64 x.key, .int .i64 x.to_, .int .i64 x.keep, .string x.b]] w fun e w' => e = .returned (.agg #[.int .i64 3, .int .i64 0, .bool false, .string ⟨#[]⟩, .slice none 0 0]) ∧ Kp [] w w' := by
 obtain ⟨xd, xs, xm, xa, xk, xt, xp, xb⟩ := x
 dsimp only at *
 rcases hd with hd | hd
 ·go_enter Tryz.func26, Tryz.ntmps26
  go_wp2_with fail
  refine bodyPost_ret (v := .agg #[.int .i64 3, .int .i64 0, .bool false, .string ⟨#[]⟩, .slice none 0 0]) (by simp [results, Tryz.results26, go_sem]) rfl ⟨rfl, ?_⟩
  exact ((Kp.refl [] w).alloc _).alloc _
 ·have hd1 : ¬ xd < 1 := by omega
  go_enter Tryz.func26, Tryz.ntmps26
  go_wp2_with fail
  refine bodyPost_ret (v := .agg #[.int .i64 3, .int .i64 0, .bool false, .string ⟨#[]⟩, .slice none 0 0]) (by simp [results, Tryz.results26, go_sem]) rfl ⟨rfl, ?_⟩
  exact ((Kp.refl [] w).alloc _).alloc _
theorem qA (cb : Nat) (x : ax) (w : World) (hd : 1 ≤ x.d ∧ x.d ≤ 10 ∧ x.d ≠ 8 ∧ x.d ≠ 9) (hs : ¬ (0 ≤ x.s ∧ x.s < 5)) :
 Calls Tryz.prog 26 #[.pointer (some ⟨cb, 0, none⟩), .agg #[.int .i64 x.d, .int .i64 x.s, .int .i64 x.md, .int .i64 x.at_, .int .i64 x.key, .int .i64 x.to_, .int .i64 x.keep, .string x.b]] w fun e w' => e = .returned (.agg #[.int .i64 1, .int .i64 0, .bool false, .string ⟨#[]⟩, .slice none 0 0]) ∧ Kp [] w w' := by
 have HDO := ag (doX w x)
 obtain ⟨xd, xs, xm, xa, xk, xt, xp, xb⟩ := x
 dsimp only at *
 have k1 : ¬ xd < 1 := by omega
 have k10 : ¬ 10 < xd := by omega
 have k8 : (xd == 8) = false := beq_eq_false_iff_ne.2 (by omega)
 have k9 : (xd == 9) = false := beq_eq_false_iff_ne.2 (by omega)
 have hsb : bE xs = false := decide_eq_false hs
 go_enter Tryz.func26, Tryz.ntmps26
 go_wp2_with fail
 generalize hW : (w.alloc (.cells #[.int .i64 xd, .int .i64 xs, .int .i64 xm, .int .i64 xa, .int .i64 xk, .int .i64 xt, .int .i64 xp, .string xb] 55)).alloc (.cells #[.int .i64 0, .int .i64 0, .bool false, .string ⟨#[]⟩, .slice none 0 0] 74) = W at HDO ⊢
 clear hW
 generalize hq : w.heap.size = q at HDO ⊢
 clear hq
 generalize q + 1 = p at HDO ⊢
 obtain ⟨x0, x1, x2, x3, x4, x5, x6, x7⟩ := (ae HDO).s.c
 obtain ⟨e0, e1, e2, e3, e4, g0, g1, g2, g3, g4⟩ := (ae HDO).e.c
 dsimp only at x0 x1 x2 x3 x4 x5 x6 x7
 refine (ck xs _).mono ?_
 rintro e w' ⟨rfl, hw'⟩
 subst w'
 rw [hsb]
 go_wp2_with fail
 refine bodyPost_ret (v := .agg #[.int .i64 1, .int .i64 0, .bool false, .string ⟨#[]⟩, .slice none 0 0]) (by simp [results, Tryz.results26, go_sem, e0, e1, e2, e3, e4]) rfl ⟨rfl, ?_⟩
 exact (ae HDO).back (ev5 _ _ _ _ _)
theorem qu {B cb sb n wb : Nat} {G Gr Gs : List Nat} {bx : Array Value} {f : Nat → List Ver} {cs : List (List Ver)} {torn : List UInt8} {st : Nat → Option Addr} {s : Nat} (x : ax) (w : World) (h : Crt B w cb sb G Gr Gs bx f n cs torn st) (hd : x.d = 1) (hs : s < 5) (hx : x.s = (s : Int)) (hst : st s = some ⟨wb, 0, none⟩) :
 Calls Tryz.prog 26 #[.pointer (some ⟨cb, 0, none⟩), .agg #[.int .i64 x.d, .int .i64 x.s, .int .i64 x.md, .int .i64 x.at_, .int .i64 x.key, .int .i64 x.to_, .int .i64 x.keep, .string x.b]] w fun e w' => e = .returned (.agg #[.int .i64 8, .int .i64 0, .bool false, .string ⟨#[]⟩, .slice none 0 0]) ∧ Kp [] w w' := by
 have HDO := ag (doX w x)
 obtain ⟨xd, xs, xm, xa, xk, xt, xp, xb⟩ := x
 dsimp only at *
 subst hd hx
 have hsb : bE (s : Int) = true := decide_eq_true (by omega)
 have s0 := h.seat hs
 rw [hst] at s0
 have hcb := (h.lo cb h.cG).2
 have i0 : (0 : Int) ≤ (s : Int) := by omega
 have i5 : (s : Int) < 5 := by omega
 clear h hst
 go_enter Tryz.func26, Tryz.ntmps26
 go_wp2_with fail
 generalize hW : (w.alloc (.cells #[.int .i64 1, .int .i64 (s : Int), .int .i64 xm, .int .i64 xa, .int .i64 xk, .int .i64 xt, .int .i64 xp, .string xb] 55)).alloc (.cells #[.int .i64 0, .int .i64 0, .bool false, .string ⟨#[]⟩, .slice none 0 0] 74) = W at HDO ⊢
 clear hW
 generalize hq : w.heap.size = q at HDO ⊢
 clear hq
 generalize q + 1 = p at HDO ⊢
 obtain ⟨x0, x1, x2, x3, x4, x5, x6, x7⟩ := (ae HDO).s.c
 obtain ⟨e0, e1, e2, e3, e4, g0, g1, g2, g3, g4⟩ := (ae HDO).e.c
 dsimp only at x0 x1 x2 x3 x4 x5 x6 x7
 refine (ck (s : Int) _).mono ?_
 rintro e w' ⟨rfl, hw'⟩
 subst w'
 rw [hsb]
 have s1 := (ae HDO).kp.cell (by simp) s0
 go_wp2_with fail
 go_quiet (fail)
 go_wp2_with fail
 refine bodyPost_ret (v := .agg #[.int .i64 8, .int .i64 0, .bool false, .string ⟨#[]⟩, .slice none 0 0]) (by simp [results, Tryz.results26, go_sem, e0, e1, e2, e3, e4]) rfl ⟨rfl, ?_⟩
 exact ((ae HDO).kp0 ((Kp.refl [] W).drewN nq)).back (ev5 _ _ _ _ _)
def WkT (wb : Nat) (md y : Int) (rs : List Int) (ws : List Ver) : ao where
 holds B w F := Wrk B w wb F md y rs ws
 kp := fun h hk hS => h.kp hk hS
 lo := fun h => h.lo
 base := fun h hC => h.base hC
theorem tJ {B cb sb n : Nat} {G Gr Gs : List Nat} {bx : Array Value} {f : Nat → List Ver} {cs : List (List Ver)} {torn : List UInt8} {st : Nat → Option Addr} {s : Nat} (x : ax) (w : World) (h : Crt B w cb sb G Gr Gs bx f n cs torn st) (hd : 2 ≤ x.d ∧ x.d ≤ 10 ∧ x.d ≠ 8 ∧ x.d ≠ 9) (hs : s < 5) (hx : x.s = (s : Int)) (hst : st s = none) :
 Calls Tryz.prog 26 #[.pointer (some ⟨cb, 0, none⟩), .agg #[.int .i64 x.d, .int .i64 x.s, .int .i64 x.md, .int .i64 x.at_, .int .i64 x.key, .int .i64 x.to_, .int .i64 x.keep, .string x.b]] w fun e w' => e = .returned (.agg #[.int .i64 7, .int .i64 0, .bool false, .string ⟨#[]⟩, .slice none 0 0]) ∧ Kp [] w w' := by
 have HDO := ag (doX w x)
 obtain ⟨xd, xs, xm, xa, xk, xt, xp, xb⟩ := x
 dsimp only at *
 subst hx
 have k1 : ¬ xd < 1 := by omega
 have k10 : ¬ 10 < xd := by omega
 have k8 : (xd == 8) = false := beq_eq_false_iff_ne.2 (by omega)
 have k9 : (xd == 9) = false := beq_eq_false_iff_ne.2 (by omega)
 have k2 : (xd == 1) = false := beq_eq_false_iff_ne.2 (by omega)
 have hsb : bE (s : Int) = true := decide_eq_true (by omega)
 have s0 := h.seat hs
 rw [hst] at s0
 have hcb := (h.lo cb h.cG).2
 have i0 : (0 : Int) ≤ (s : Int) := by omega
 have i5 : (s : Int) < 5 := by omega
 clear h hst hd
 go_enter Tryz.func26, Tryz.ntmps26
 go_wp2_with fail
 generalize hW : (w.alloc (.cells #[.int .i64 xd, .int .i64 (s : Int), .int .i64 xm, .int .i64 xa, .int .i64 xk, .int .i64 xt, .int .i64 xp, .string xb] 55)).alloc (.cells #[.int .i64 0, .int .i64 0, .bool false, .string ⟨#[]⟩, .slice none 0 0] 74) = W at HDO ⊢
 clear hW
 generalize hq : w.heap.size = q at HDO ⊢
 clear hq
 generalize q + 1 = p at HDO ⊢
 obtain ⟨x0, x1, x2, x3, x4, x5, x6, x7⟩ := (ae HDO).s.c
 obtain ⟨e0, e1, e2, e3, e4, g0, g1, g2, g3, g4⟩ := (ae HDO).e.c
 dsimp only at x0 x1 x2 x3 x4 x5 x6 x7
 refine (ck (s : Int) _).mono ?_
 rintro e w' ⟨rfl, hw'⟩
 subst w'
 rw [hsb]
 have s1 := (ae HDO).kp.cell (by simp) s0
 go_wp2_with fail
 go_quiet (fail)
 go_wp2_with fail
 refine bodyPost_ret (v := .agg #[.int .i64 7, .int .i64 0, .bool false, .string ⟨#[]⟩, .slice none 0 0]) (by simp [results, Tryz.results26, go_sem, e0, e1, e2, e3, e4]) rfl ⟨rfl, ?_⟩
 exact ((ae HDO).kp0 ((Kp.refl [] W).drewN nq)).back (ev5 _ _ _ _ _)
theorem wy {B cb sb n wb : Nat} {G Gr Gs : List Nat} {bx : Array Value} {f : Nat → List Ver} {cs : List (List Ver)} {torn : List UInt8} {st : Nat → Option Addr} {s : Nat} (x : ax) (w : World) (h : Crt B w cb sb G Gr Gs bx f n cs torn st) (hd : x.d = 3) (hs : s < 5) (hx : x.s = (s : Int)) (hst : st s = some ⟨wb, 0, none⟩) {H : List Nat} {md y : Int} {rs : List Int} {ws : List Ver} (hw : Wrk B w wb H md y rs ws) (hb : x.b.size ≤ maxLen) (hwl : ws.length ≤ 900) :
 Calls Tryz.prog 26 #[.pointer (some ⟨cb, 0, none⟩), .agg #[.int .i64 x.d, .int .i64 x.s, .int .i64 x.md, .int .i64 x.at_, .int .i64 x.key, .int .i64 x.to_, .int .i64 x.keep, .string x.b]] w fun e w' => e = .returned (.agg #[.int .i64 (dpc md x.key true x.b), .int .i64 0, .bool false, .string ⟨#[]⟩, .slice none 0 0]) ∧ Ch (WkT wb md y rs (dpw md ws x.key true x.b)) B w H w' := by
 have HLO := ag (fun z (hz : z ∈ H) => (hw.lo z hz).2)
 have HPT := ag (fun W (hk : Kp [] w W) => qO x.key true x.b W (hw.kp0 hk) hb hwl)
 have HDO := ag (doX w x)
 obtain ⟨xd, xs, xm, xa, xk, xt, xp, xb⟩ := x
 dsimp only at *
 subst hd hx
 have hsb : bE (s : Int) = true := decide_eq_true (by omega)
 have s0 := h.seat hs
 rw [hst] at s0
 have hcb := (h.lo cb h.cG).2
 have i0 : (0 : Int) ≤ (s : Int) := by omega
 have i5 : (s : Int) < 5 := by omega
 clear h hst hw hb hwl
 go_enter Tryz.func26, Tryz.ntmps26
 go_wp2_with fail
 generalize hW : (w.alloc (.cells #[.int .i64 3, .int .i64 (s : Int), .int .i64 xm, .int .i64 xa, .int .i64 xk, .int .i64 xt, .int .i64 xp, .string xb] 55)).alloc (.cells #[.int .i64 0, .int .i64 0, .bool false, .string ⟨#[]⟩, .slice none 0 0] 74) = W at HDO ⊢
 clear hW
 generalize hq : w.heap.size = q at HDO ⊢
 clear hq
 generalize q + 1 = p at HDO ⊢
 obtain ⟨x0, x1, x2, x3, x4, x5, x6, x7⟩ := (ae HDO).s.c
 obtain ⟨e0, e1, e2, e3, e4, g0, g1, g2, g3, g4⟩ := (ae HDO).e.c
 dsimp only at x0 x1 x2 x3 x4 x5 x6 x7
 refine (ck (s : Int) _).mono ?_
 rintro e w' ⟨rfl, hw'⟩
 subst w'
 rw [hsb]
 have s1 := (ae HDO).kp.cell (by simp) s0
 go_wp2_with fail
 go_quiet (fail)
 go_wp2_with fail
 refine (ae HPT _ ((ae HDO).kp.drewN _)).mono ?_
 rintro e w1 ⟨rfl, H1, k1, k2, k3⟩
 have hCh : Ch (WkT wb md y rs _) B _ H w1 := ⟨H1, k1, k2, k3⟩
 obtain ⟨hst1, hev1⟩ := ((ae HDO).kp0 ((Kp.refl [] W).drewN nq)).ch hCh (ae HLO)
 have HC := ag hCh
 clear hCh hst1 k1 k2 k3 e0 e1 e2 e3 e4 g0 g1 g2 g3 g4
 obtain ⟨e0, e1, e2, e3, e4, g0, g1, g2, g3, g4⟩ := hev1.c
 clear hev1
 go_wp2_with fail
 refine bodyPost_ret (v := .agg #[.int .i64 _, .int .i64 0, .bool false, .string ⟨#[]⟩, .slice none 0 0]) (by simp [results, Tryz.results26, go_sem, e0, e1, e2, e3, e4]) rfl ⟨rfl, ?_⟩
 exact (ae HC).side ((ae HDO).kp.drewN nq) (ae HLO) (by have := (ae HDO).hp; omega) (ah ((ae HDO).kp0 ((Kp.refl [] W).drewN nq)).e) (ev5 _ _ _ _ _)
theorem tM {B cb sb n wb : Nat} {G Gr Gs : List Nat} {bx : Array Value} {f : Nat → List Ver} {cs : List (List Ver)} {torn : List UInt8} {st : Nat → Option Addr} {s : Nat} (x : ax) (w : World) (h : Crt B w cb sb G Gr Gs bx f n cs torn st) (hd : x.d = 4) (hs : s < 5) (hx : x.s = (s : Int)) (hst : st s = some ⟨wb, 0, none⟩) {H : List Nat} {md y : Int} {rs : List Int} {ws : List Ver} (hw : Wrk B w wb H md y rs ws) (hb : x.b.size ≤ maxLen) (hwl : ws.length ≤ 900) :
 Calls Tryz.prog 26 #[.pointer (some ⟨cb, 0, none⟩), .agg #[.int .i64 x.d, .int .i64 x.s, .int .i64 x.md, .int .i64 x.at_, .int .i64 x.key, .int .i64 x.to_, .int .i64 x.keep, .string x.b]] w fun e w' => e = .returned (.agg #[.int .i64 (dpc md x.key false ⟨#[]⟩), .int .i64 0, .bool false, .string ⟨#[]⟩, .slice none 0 0]) ∧ Ch (WkT wb md y rs (dpw md ws x.key false ⟨#[]⟩)) B w H w' := by
 have HLO := ag (fun z (hz : z ∈ H) => (hw.lo z hz).2)
 have HPT := ag (fun W (hk : Kp [] w W) => qO x.key false ⟨#[]⟩ W (hw.kp0 hk) (Nat.zero_le _) hwl)
 have HDO := ag (doX w x)
 obtain ⟨xd, xs, xm, xa, xk, xt, xp, xb⟩ := x
 dsimp only at *
 subst hd hx
 have hsb : bE (s : Int) = true := decide_eq_true (by omega)
 have s0 := h.seat hs
 rw [hst] at s0
 have hcb := (h.lo cb h.cG).2
 have i0 : (0 : Int) ≤ (s : Int) := by omega
 have i5 : (s : Int) < 5 := by omega
 clear h hst hw hb hwl
 go_enter Tryz.func26, Tryz.ntmps26
 go_wp2_with fail
 generalize hW : (w.alloc (.cells #[.int .i64 4, .int .i64 (s : Int), .int .i64 xm, .int .i64 xa, .int .i64 xk, .int .i64 xt, .int .i64 xp, .string xb] 55)).alloc (.cells #[.int .i64 0, .int .i64 0, .bool false, .string ⟨#[]⟩, .slice none 0 0] 74) = W at HDO ⊢
 clear hW
 generalize hq : w.heap.size = q at HDO ⊢
 clear hq
 generalize q + 1 = p at HDO ⊢
 obtain ⟨x0, x1, x2, x3, x4, x5, x6, x7⟩ := (ae HDO).s.c
 obtain ⟨e0, e1, e2, e3, e4, g0, g1, g2, g3, g4⟩ := (ae HDO).e.c
 dsimp only at x0 x1 x2 x3 x4 x5 x6 x7
 refine (ck (s : Int) _).mono ?_
 rintro e w' ⟨rfl, hw'⟩
 subst w'
 rw [hsb]
 have s1 := (ae HDO).kp.cell (by simp) s0
 go_wp2_with fail
 go_quiet (fail)
 go_wp2_with fail
 refine (ae HPT _ ((ae HDO).kp.drewN _)).mono ?_
 rintro e w1 ⟨rfl, H1, k1, k2, k3⟩
 have hCh : Ch (WkT wb md y rs _) B _ H w1 := ⟨H1, k1, k2, k3⟩
 obtain ⟨hst1, hev1⟩ := ((ae HDO).kp0 ((Kp.refl [] W).drewN nq)).ch hCh (ae HLO)
 have HC := ag hCh
 clear hCh hst1 k1 k2 k3 e0 e1 e2 e3 e4 g0 g1 g2 g3 g4
 obtain ⟨e0, e1, e2, e3, e4, g0, g1, g2, g3, g4⟩ := hev1.c
 clear hev1
 go_wp2_with fail
 refine bodyPost_ret (v := .agg #[.int .i64 _, .int .i64 0, .bool false, .string ⟨#[]⟩, .slice none 0 0]) (by simp [results, Tryz.results26, go_sem, e0, e1, e2, e3, e4]) rfl ⟨rfl, ?_⟩
 exact (ae HC).side ((ae HDO).kp.drewN nq) (ae HLO) (by have := (ae HDO).hp; omega) (ah ((ae HDO).kp0 ((Kp.refl [] W).drewN nq)).e) (ev5 _ _ _ _ _)
theorem qF {B cb sb n wb : Nat} {G Gr Gs : List Nat} {bx : Array Value} {f : Nat → List Ver} {cs : List (List Ver)} {torn : List UInt8} {st : Nat → Option Addr} {s : Nat} (x : ax) (w : World) (h : Crt B w cb sb G Gr Gs bx f n cs torn st) (hd : x.d = 7) (hs : s < 5) (hx : x.s = (s : Int)) (hst : st s = some ⟨wb, 0, none⟩) :
 Calls Tryz.prog 26 #[.pointer (some ⟨cb, 0, none⟩), .agg #[.int .i64 x.d, .int .i64 x.s, .int .i64 x.md, .int .i64 x.at_, .int .i64 x.key, .int .i64 x.to_, .int .i64 x.keep, .string x.b]] w fun e w' => e = .returned (.agg #[.int .i64 0, .int .i64 0, .bool false, .string ⟨#[]⟩, .slice none 0 0]) ∧ Ch (cf cb sb f n cs torn (upd st s none)) B w G w' := by
 have HLO := ag (fun z (hz : z ∈ G) => (h.lo z hz).2)
 have HSI := ag (fun W (hk : Kp [] w W) => (h.kp0 hk).sit hs none)
 have HFZ := ag (fun W (hk : Kp [] w W) => (h.kp0 hk).fz (3 + s))
 have HDO := ag (doX w x)
 obtain ⟨xd, xs, xm, xa, xk, xt, xp, xb⟩ := x
 dsimp only at *
 subst hd hx
 have hsb : bE (s : Int) = true := decide_eq_true (by omega)
 have s0 := h.seat hs
 rw [hst] at s0
 have hcb := (h.lo cb h.cG).2
 have i0 : (0 : Int) ≤ (s : Int) := by omega
 have i5 : (s : Int) < 5 := by omega
 clear h hst
 go_enter Tryz.func26, Tryz.ntmps26
 go_wp2_with fail
 generalize hW : (w.alloc (.cells #[.int .i64 7, .int .i64 (s : Int), .int .i64 xm, .int .i64 xa, .int .i64 xk, .int .i64 xt, .int .i64 xp, .string xb] 55)).alloc (.cells #[.int .i64 0, .int .i64 0, .bool false, .string ⟨#[]⟩, .slice none 0 0] 74) = W at HDO ⊢
 clear hW
 generalize hq : w.heap.size = q at HDO ⊢
 clear hq
 generalize q + 1 = p at HDO ⊢
 obtain ⟨x0, x1, x2, x3, x4, x5, x6, x7⟩ := (ae HDO).s.c
 obtain ⟨e0, e1, e2, e3, e4, g0, g1, g2, g3, g4⟩ := (ae HDO).e.c
 dsimp only at x0 x1 x2 x3 x4 x5 x6 x7
 refine (ck (s : Int) _).mono ?_
 rintro e w' ⟨rfl, hw'⟩
 subst w'
 rw [hsb]
 have s1 := (ae HDO).kp.cell (by simp) s0
 go_wp2_with fail
 go_quiet (fail)
 have z2 := ae HFZ _ (ae HDO).kp
 have hpc : p ≠ cb := by have := (ae HDO).hp; omega
 have hcp : cb ≠ p := fun e => hpc e.symm
 have HX := ag (ae HSI _ ((ae HDO).kp.drewN (nq + 1)))
 go_wp2_with fail
 go_region
 all_goals
  go_wp2_with fail
  refine bodyPost_ret (v := .agg #[.int .i64 0, .int .i64 0, .bool false, .string ⟨#[]⟩, .slice none 0 0]) (by simp [results, Tryz.results26, go_sem, e0, e1, e2, e3, e4]) rfl ⟨rfl, ?_⟩
  exact (ae HX).side ((ae HDO).kp.drewN (nq + 1)) (ae HLO) (by have := (ae HDO).hp; omega) (ah ((ae HDO).kp0 ((Kp.refl [] W).drewN (nq + 1))).e) (ev5 _ _ _ _ _)
theorem su {l : List Int} (a : Option Addr) (cap : Nat) (x : Int) (w : World) (h : SlI w a l) (hm : l.length ≤ 5000) :
 Calls Tryz.prog 96 #[.slice a l.length cap, .int .i64 x] w fun e w' => e = .returned (.bool (decide (x ∈ l))) ∧ w' = w := by
 have HS := ag h
 clear h
 go_enter Tryz.func96, Tryz.ntmps96
 go_wp2_with fail
 go_loop [5] (fun i => ∃ d : Nat, d ≤ l.length ∧ i = .int .i64 d ∧ Hid (∀ j, j < d → ig l j ≠ x)) (fun i => l.length - (intOf i).toNat)
 case atStart => exact ⟨0, Nat.zero_le _, rfl, fun j hj => by omega⟩
 case round =>
  obtain ⟨d, hd, rfl, HN⟩ := hrel
  by_cases hlt : d < l.length
  ·obtain ⟨g, o, rfl, hs⟩ := ae HS (by omega)
   have q0 := hs d hlt
   have i0 : (0 : Int) ≤ (d : Int) := by omega
   have i1 : (d : Int) < (l.length : Int) := by omega
   clear hs
   by_cases hx : ig l d = x
   ·have HM : Hid (decide (x ∈ l) = true) := decide_eq_true (sf.2 ⟨d, hlt, hx⟩)
    rw [hx] at q0
    clear hx
    go_wp2
    go_ret
    exact ⟨eF (ae HM).symm, rfl⟩
   ·have HN2 : Hid (∀ j, j < d + 1 → ig l j ≠ x) := fun j hj => by
     by_cases e : j = d
     ·subst e; exact hx
     ·exact ae HN j (by omega)
    have ex : (ig l d == x) = false := beq_eq_false_iff_ne.2 hx
    clear hx
    go_wp2
    exact ⟨⟨d + 1, by omega, by go_num, HN2⟩, by simp [intOf]; omega⟩
  ·have HM : Hid (decide (x ∈ l) = false) := decide_eq_false (fun hm => by
    obtain ⟨j, hj, e⟩ := sf.1 hm
    exact ae HN j (by omega) e)
   go_wp2
   go_ret
   exact ⟨eF (ae HM).symm, rfl⟩
theorem nZ {B sb n wb : Nat} {G H : List Nat} {f : Nat → List Ver} {md y : Int} {rs : List Int} {ws : List Ver} (k : Int) (w : World) (h : Sht B w sb G f n) (hw : Wrk B w wb H md y rs ws) (hrl : rs.length ≤ 3000) (hwl : ws.length ≤ 900) :
 Calls Tryz.prog 59 #[.pointer (some ⟨wb, 0, none⟩), .pointer (some ⟨sb, 0, none⟩), .int .i64 k] w fun e w' => pz B w wb H md y (dr f n y rs ws k) ws (.tuple #[.agg #[.bool (dg f n y ws k).t, .string (dg f n y ws k).s], .int .i64 (dg f n y ws k).a]) e w' := by
 obtain ⟨in0, hi0, hz0, hz1, hz2⟩ := info_parts Tryz.info3
 have HT := ag h
 have HW := ag hw
 clear h hw
 by_cases hk : aN k = true
 ·cases hv : lwr ws k with
  | some v =>
    rw [tm hk hv, sS hv]
    have HV := ag hv
    clear hv
    go_enter Tryz.func59, Tryz.ntmps59
    go_wp2_with fail
    refine (cJ _ _).mono ?_
    rintro e w' ⟨rfl, rfl⟩
    rw [hk]
    clear hk
    go_wp2_with fail
    refine (gp k _ ((ae HW).kp0 ((Kp.refl [] w).alloc _)) (by omega)).mono ?_
    rintro e w1 ⟨rfl, hkp⟩
    rw [ae HV]
    simp only [Option.isSome_some, Option.getD_some]
    have p0 : w1.cell? ⟨w.heap.size, 0, none⟩ = some (.bool false) := hkp.cell (by simp) (by simp)
    have p1 : w1.cell? ⟨w.heap.size, 1, none⟩ = some (.string ⟨#[]⟩) := hkp.cell (by simp) (by simp)
    have p2 : w1.frozen? ⟨w.heap.size, 0, none⟩ = false := by rw [hkp.frozen (by simp) (by simp)]; simp
    have p3 : w1.frozen? ⟨w.heap.size, 1, none⟩ = false := by rw [hkp.frozen (by simp) (by simp)]; simp
    have hRs : w.heap.size < w1.heap.size := by have := hkp.size; simp at this; omega
    have HK1 := ag (((Kp.refl [] w).alloc (.cells #[.bool false, .string ⟨#[]⟩] 24)).trans0 hkp)
    clear hkp
    go_wp2
    refine bodyPost_ret (v := .tuple #[.agg #[.bool v.t, .string v.s], .int .i64 0]) (by simp [results, Tryz.results59, go_sem, p0, p1, hRs]) rfl (ey rfl (ae HW) ?_)
    exact (((ae HK1).setCell (p := ⟨w.heap.size, 0, none⟩) (.inr (Nat.le_refl _)) _).setCell (p := ⟨w.heap.size, 1, none⟩) (.inr (Nat.le_refl _)) _).alloc _
  | none =>
    rw [tj hk hv]
    by_cases h0 : (tr f n k y).a = 0
    ·rw [sR hk hv h0, h0]
     have HV := ag hv
     have H0 := ag h0
     clear hv h0
     go_enter Tryz.func59, Tryz.ntmps59
     go_wp2_with fail
     refine (cJ _ _).mono ?_
     rintro e w' ⟨rfl, rfl⟩
     rw [hk]
     clear hk
     go_wp2_with fail
     refine (gp k _ ((ae HW).kp0 ((Kp.refl [] w).alloc _)) (by omega)).mono ?_
     rintro e w1 ⟨rfl, hkp⟩
     rw [ae HV]
     simp only [Option.isSome_none, Option.getD_none]
     have hkp1 := ((Kp.refl [] w).alloc (.cells #[.bool false, .string ⟨#[]⟩] 24)).trans0 hkp
     have hR := (kE w false ⟨#[]⟩).kp0 hkp
     obtain ⟨ra, rc, wa, wc, hw1⟩ := (ae HW).kp0 hkp1
     have q1 := hw1.c1
     have hl1 := ah hw1.box
     have HW1 := ag hw1
     have HR := ag hR
     have HK1 := ag hkp1
     clear hkp hkp1 hw1 hR
     go_wp2_with fail
     refine (oz k y _ ((ae HT).kp0 ((ae HK1).alloc _))).mono ?_
     rintro e w2 ⟨rfl, hkp⟩
     have hkp2 := ((Kp.refl [] w1).alloc (.cells #[.bool false, .string ⟨#[]⟩] 24)).trans0 hkp
     have hw2 := (ae HW1).kp0 hkp2
     have hR := (ae HR).kp0 hkp2
     have c2 := hw2.c2
     have hlb := ah hw2.box
     have hlR := hR.lt
     have hHw := (ae HW).lo
     have hbw : wb < w.heap.size := (hHw wb hw2.bH).2
     have hBb : B ≤ wb := (hHw wb hw2.bH).1
     have n1 : wb ≠ w.heap.size := by omega
     have n2 : wb ≠ w2.heap.size := by omega
     have n3 : w.heap.size ≠ w2.heap.size := by omega
     have hRH : w.heap.size ∉ H := fun hm => by have := (hHw _ hm).2; omega
     rw [ae H0]
     generalize hvv : tr f n k y = v at *
     have HVV := ag hvv
     have HO := ag (ee hw2.ro (((Kp.refl [] w2).alloc (.cells #[.bool v.t, .string v.s] 24)).alloc (.cells #[.int .i64 k] 3)))
     have HW2 := ag hw2
     have HR2 := ag hR
     have HRH := ag hRH
     have HHW := ag hHw
     have HK2 := ag ((ae HK1).trans0 hkp2)
     clear hvv hw2 hR hkp hkp2 hRH hHw q1
     go_wp2_with (at_builtin; refine wpList_append_lies _ rfl _ _ 149 rfl B 3 in0 _ 1 8 Tryz.underlying149 hi0 hz0 hz1 hz2 rfl (by omega) (.slice ra rs.length rc) rs.length (dB rs) rfl (ae HO) ⟨w2.heap.size + 1, 0, none⟩ 1 1 [.int .i64 k] (by rfl) (by rfl) (World.news_of_block (cs := #[.int .i64 k]) (t := 3) (fr := (0, 0)) (by have := heap_alloc_new (w2.alloc (.cells #[.bool v.t, .string v.s] 24)) (.cells #[.int .i64 k] 3); simpa using this)) (by simp [Value.oneCell']) (by omega) (by unfold maxLen; omega) (by omega) (by simp; omega) _ rfl ?_; intro g2 cap2 w3 hown hgrow hat hlt3; obtain ⟨r0, r1, r2, r3, r4, r5, r6, r7⟩ := vP (ae HW2) (ae HR2) (ae HRH) hgrow; have HOW := ag hown; have HGR := ag hgrow; have HAT := ag hat; clear hown hgrow hat c2)
     refine bodyPost_ret (v := .tuple #[.agg #[.bool v.t, .string v.s], .int .i64 0]) (by simp [results, Tryz.results59, go_sem, r4, r5]) rfl ?_
     exact qS (by rw [ae HVV]) (ae HW2) (fun x hx => (ae HHW x hx).2) (ae HK2) hlR (ae HOW) (ae HGR) (ae HAT) hlt3
    ·rw [oX h0]
     have HV := ag hv
     have HN0 := ag h0
     clear hv h0
     go_enter Tryz.func59, Tryz.ntmps59
     go_wp2_with fail
     refine (cJ _ _).mono ?_
     rintro e w' ⟨rfl, rfl⟩
     rw [hk]
     clear hk
     go_wp2_with fail
     refine (gp k _ ((ae HW).kp0 ((Kp.refl [] w).alloc _)) (by omega)).mono ?_
     rintro e w1 ⟨rfl, hkp⟩
     rw [ae HV]
     simp only [Option.isSome_none, Option.getD_none]
     have hkp1 := ((Kp.refl [] w).alloc (.cells #[.bool false, .string ⟨#[]⟩] 24)).trans0 hkp
     have hR := (kE w false ⟨#[]⟩).kp0 hkp
     obtain ⟨ra, rc, wa, wc, hw1⟩ := (ae HW).kp0 hkp1
     have q1 := hw1.c1
     have hl1 := ah hw1.box
     have HW1 := ag hw1
     have HR := ag hR
     have HK1 := ag hkp1
     clear hkp hkp1 hw1 hR
     go_wp2_with fail
     refine (oz k y _ ((ae HT).kp0 ((ae HK1).alloc _))).mono ?_
     rintro e w2 ⟨rfl, hkp⟩
     have hkp2 := ((Kp.refl [] w1).alloc (.cells #[.bool false, .string ⟨#[]⟩] 24)).trans0 hkp
     have hR := (ae HR).kp0 hkp2
     have p0 := hR.c0
     have p1 := hR.c1
     have p2 := hR.f0
     have p3 := hR.f1
     have hlR := hR.lt
     have HK2 := ag ((ae HK1).trans0 hkp2)
     have h0 := ae HN0
     clear hR hkp hkp2 q1
     generalize hvv : tr f n k y = v at *
     have HVV := ag hvv
     clear hvv
     go_wp2
     refine bodyPost_ret (v := .tuple #[.agg #[.bool v.t, .string v.s], .int .i64 v.a]) (by simp [results, Tryz.results59, go_sem, p0, p1, hlR]) rfl (ey (by rw [ae HVV]) (ae HW) ?_)
     exact (((ae HK2).setCell (p := ⟨w.heap.size, 0, none⟩) (.inr (Nat.le_refl _)) _).setCell (p := ⟨w.heap.size, 1, none⟩) (.inr (Nat.le_refl _)) _).alloc _
 ·have hk2 : aN k = false := by simpa using hk
  rw [tp hk2, sT hk2]
  clear hk
  go_enter Tryz.func59, Tryz.ntmps59
  go_wp2_with fail
  refine (cJ _ _).mono ?_
  rintro e w' ⟨rfl, rfl⟩
  rw [hk2]
  clear hk2
  go_wp2
  refine bodyPost_ret (v := .tuple #[.agg #[.bool false, .string ByteArray.empty], .int .i64 1]) (by simp [results, Tryz.results59, go_sem]; rfl) rfl (ey rfl (ae HW) ?_)
  exact (Kp.refl [] w).alloc _
def xf (L : List Ver × Int × List Int) (B : Nat) (w : World) (wb : Nat) (H : List Nat) (md y : Int) (ws : List Ver) (e : Ending) (w' : World) : Prop :=
 ∃ a cap, e = .returned (.tuple #[.slice a L.1.length cap, .int .i64 L.2.1]) ∧ w'.ownsRow w.heap.size 98 3 (.slice a L.1.length cap) L.1.length (aw L.1) ∧
  ∃ H', Wrk B w' wb H' md y L.2.2 ws ∧ Kp H w w' ∧ (∀ x, x ∈ H' → x ∈ H ∨ w.heap.size ≤ x) ∧ ∀ g, (Value.slice a L.1.length cap).ownBlock = some g → g ∉ H'
theorem gq {L : List Ver × Int × List Int} {B : Nat} {w w' : World} {wb : Nat} {H H' : List Nat} {md y : Int} {ws : List Ver} (acc : List Ver) (code : Int) (rs : List Int) (a : Option Addr) (cap : Nat) (h : L = (acc, code, rs)) (ho : w'.ownsRow w.heap.size 98 3 (.slice a acc.length cap) acc.length (aw acc))
 (hd : Wrk B w' wb H' md y rs ws) (hk : Kp H w w') (hs : ∀ x, x ∈ H' → x ∈ H ∨ w.heap.size ≤ x) (hf : ∀ g, (Value.slice a acc.length cap).ownBlock = some g → g ∉ H') : xf L B w wb H md y ws (.returned (.tuple #[.slice a acc.length cap, .int .i64 code])) w' := by
 subst h; exact ⟨a, cap, rfl, ho, H', hd, hk, hs, hf⟩
structure WlI (R : List Ver × Int × List Int) (B : Nat) (w : World) (wb : Nat) (H : List Nat) (md y : Int) (f : Nat → List Ver) (n : Nat) (ws : List Ver) (t k : Nat) (acc : List Ver) (rs : List Int) (a : Option Addr) (cap : Nat) (wr : World) (Hk : List Nat) : Prop where
 goes : dgo f n y ws k (t + 1 - k) acc rs = R
 own : wr.ownsRow w.heap.size 98 3 (.slice a acc.length cap) acc.length (aw acc)
 wrk : Wrk B wr wb Hk md y rs ws
 kp : Kp H w wr
 sub : ∀ x, x ∈ Hk → x ∈ H ∨ w.heap.size ≤ x
 far : ∀ g, (Value.slice a acc.length cap).ownBlock = some g → g ∉ Hk
 len : acc.length ≤ k
theorem ye {B : Nat} {w : World} {e : TypeId} {size n g : Nat} {v : Value} {xs : List Value} (h : w.ownsRow B e size v n xs) (hg : v.ownBlock = some g) : g < w.heap.size := by
 rcases h.2 with ⟨hn, _⟩ | ⟨g', cap, cur, rfl, h2, h3, h4⟩
 ·subst hn; simp [Value.ownBlock] at hg
 ·have : g' = g := by simpa [Value.ownBlock] using hg
  subst this
  exact ah h3
section
variable {R : List Ver × Int × List Int} {B : Nat} {w wr w1 W w2 : World} {wb : Nat} {H Hk H1 : List Nat} {md y : Int} {f : Nat → List Ver} {n : Nat} {ws : List Ver} {t k : Nat} {acc : List Ver} {rs : List Int} {a : Option Addr} {cap : Nat}
theorem WlI.own1 (h : WlI R B w wb H md y f n ws t k acc rs a cap wr Hk) (hk : Kp Hk wr w1) : w1.ownsRow w.heap.size 98 3 (.slice a acc.length cap) acc.length (aw acc) := dt h.own hk h.far
theorem WlI.far1 (h : WlI R B w wb H md y f n ws t k acc rs a cap wr Hk) (hs : ∀ x, x ∈ H1 → x ∈ Hk ∨ wr.heap.size ≤ x) : ∀ g, (Value.slice a acc.length cap).ownBlock = some g → g ∉ H1 := by
 intro g hg hm
 rcases hs g hm with e | e
 ·exact h.far g hg e
 ·have := ye h.own hg; omega
theorem WlI.sub1 (h : WlI R B w wb H md y f n ws t k acc rs a cap wr Hk) (hs : ∀ x, x ∈ H1 → x ∈ Hk ∨ wr.heap.size ≤ x) : ∀ x, x ∈ H1 → x ∈ H ∨ w.heap.size ≤ x := by
 intro x hx
 rcases hs x hx with e | e
 ·exact h.sub x e
 ·right; have := h.kp.size; omega
theorem WlI.skip (h : WlI R B w wb H md y f n ws t k acc rs a cap wr Hk) (hk : k ≤ t) (hw : Kp Hk wr w1) (hd : Wrk B w1 wb H1 md y (dr f n y rs ws k) ws) (hs : ∀ x, x ∈ H1 → x ∈ Hk ∨ wr.heap.size ≤ x)
 (h0 : (dg f n y ws k).a = 0) (ht : ¬ (dg f n y ws k).t = true) : WlI R B w wb H md y f n ws t (k + 1) acc (dr f n y rs ws k) a cap w1 H1 :=
 ⟨by have := h.goes; rw [show t + 1 - k = (t + 1 - (k + 1)) + 1 by omega] at this; exact mG this h0 ht, h.own1 hw, hd, h.kp.trans hw h.sub, h.sub1 hs, h.far1 hs, by have := h.len; omega⟩
theorem WlI.more (h : WlI R B w wb H md y f n ws t k acc rs a cap wr Hk) (hk : k ≤ t) (hw : Kp Hk wr W) (hd : Wrk B W wb H1 md y (dr f n y rs ws k) ws) (hs : ∀ x, x ∈ H1 → x ∈ Hk ∨ wr.heap.size ≤ x)
 (h0 : (dg f n y ws k).a = 0) (ht : (dg f n y ws k).t = true) {g2 cap2 : Nat} (hown : w2.ownsRow w.heap.size 98 3 (.slice (some ⟨g2, 0, none⟩) (acc.length + 1) cap2) (acc.length + 1) (aw acc ++ [.int .i64 k, .bool true, .string (dg f n y ws k).s]))
 (hgrow : W.grownBy w2 (Value.slice a acc.length cap).ownBlock) (hat : (Value.slice a acc.length cap).ownBlock = some g2 ∨ g2 = W.heap.size) : WlI R B w wb H md y f n ws t (k + 1) (acc ++ [⟨k, (dg f n y ws k).t, (dg f n y ws k).s⟩]) (dr f n y rs ws k) (some ⟨g2, 0, none⟩) cap2 w2 H1 := by
 have hk1 : Kp (Value.slice a acc.length cap).ownBlock.toList W w2 := (Kp.refl _ W).grown hgrow (fun g hg => .inl (by simp [hg]))
 refine ⟨by have := h.goes; rw [show t + 1 - k = (t + 1 - (k + 1)) + 1 by omega] at this; exact mH this h0 ht, ?_, hd.kp hk1 (fun x hx hm => h.far1 hs x (by simpa using hm) hx), ?_, h.sub1 hs, ?_, by have := h.len; simp; omega⟩
 ·have hv : aw acc ++ [.int .i64 k, .bool true, .string (dg f n y ws k).s] = aw (acc ++ [⟨k, (dg f n y ws k).t, (dg f n y ws k).s⟩]) := by rw [bk, ht]; rfl
  rw [hv] at hown
  simpa using hown
 ·exact (h.kp.trans hw h.sub).grown hgrow (fun g hg => .inr (es h.own hg))
 ·intro g hg hm
  have e : g2 = g := by simpa [Value.ownBlock] using hg
  subst e
  rcases hat with e | e
  ·exact h.far1 hs g2 e hm
  ·have := (hd.lo g2 hm).2; omega
end
theorem lN {B sb n wb : Nat} {G H : List Nat} {f : Nat → List Ver} {md y : Int} {rs : List Int} {ws : List Ver} (fr to_ : Int) (w : World) (h : Sht B w sb G f n) (hd : Wrk B w wb H md y rs ws) (hF : ∀ x, x ∈ G → x ∉ H) (hrl : rs.length ≤ 2900) (hwl : ws.length ≤ 900) :
 Calls Tryz.prog 61 #[.pointer (some ⟨wb, 0, none⟩), .pointer (some ⟨sb, 0, none⟩), .int .i64 fr, .int .i64 to_] w fun e w' => xf (dls f n y ws rs fr to_) B w wb H md y ws e w' := by
 obtain ⟨in0, hi0, hz0, hz1, hz2⟩ := info_parts Tryz.info98
 have HT := ag h
 have HD := ag hd
 have HF := ag hF
 clear h hd hF
 by_cases hf : aN fr = true
 ·by_cases ht : aN to_ = true
  ·obtain ⟨p, hp, rfl⟩ := dw hf
   obtain ⟨t, ht8, rfl⟩ := dw ht
   have H0 : Hid (WlI (dls f n y ws rs p t) B w wb H md y f n ws t p [] rs none 0 w H) := ⟨(td hf ht).symm, World.ownsRow_nil _ _ _ _, ae HD, Kp.refl _ _, fun _ hx => .inl hx, fun g hg => by simp [Value.ownBlock] at hg, by simp⟩
   generalize dls f n y ws rs p t = R at *
   go_enter Tryz.func61, Tryz.ntmps61
   go_wp2_with fail
   refine (cJ _ _).mono ?_
   rintro e w' ⟨rfl, hw'⟩
   subst w'
   rw [hf]
   go_wp2_with fail
   refine (cJ _ _).mono ?_
   rintro e w' ⟨rfl, hw'⟩
   subst w'
   rw [ht]
   clear hf ht
   go_wp2_with fail
   go_loopw [10, 11] (fun s i wr => ∃ (k : Nat) (acc : List Ver) (rk : List Int) (a : Option Addr) (cap : Nat) (Hk : List Nat), k ≤ 8 ∧ s = .slice a acc.length cap ∧ i = .int .i64 k ∧ rk.length ≤ 2900 + k ∧ Hid (WlI R B w wb H md y f n ws t k acc rk a cap wr Hk)) (fun _ i _ => 8 - (intOf i).toNat)
   case atStart => exact ⟨p, [], rs, none, 0, H, by omega, rfl, rfl, by omega, H0⟩
   case round =>
    obtain ⟨k, acc, rk, a, cap, Hk, hk, rfl, rfl, hrk, HL⟩ := hrel
    by_cases hlt : k ≤ t
    ·have j0 : (k : Int) ≤ (t : Int) := by omega
     have hdl := nF f n y rk ws k
     go_wp2_with fail
     refine (nZ k _ ((ae HT).kp (ae HL).kp (ae HF)) (ae HL).wrk (by omega) hwl).mono ?_
     rintro e w1 ⟨rfl, H1, hd1, hk1, hs1⟩
     have HK1 := ag hk1
     have HD1 := ag hd1
     have HS1 := ag hs1
     clear hk1 hd1 hs1
     by_cases h0 : (dg f n y ws k).a = 0
     ·have H00 := ag h0
      rw [h0]
      clear h0
      by_cases h1 : (dg f n y ws k).t = true
      ·have H1T := ag h1
       rw [h1]
       have hOW := ag ((ae HL).own1 (((ae HK1).alloc (.cells #[.bool true, .string (dg f n y ws k).s] 24)).alloc (.cells #[.int .i64 k, .bool true, .string (dg f n y ws k).s] 98)))
       have hal := (ae HL).len
       have hwl2 := Nat.le_trans (ae HL).kp.size (ae HK1).size
       go_wp2_with (at_builtin; refine wpList_append_lies _ rfl _ _ 41 rfl w.heap.size 98 in0 _ 3 32 Tryz.underlying41 hi0 hz0 hz1 hz2 rfl (by omega) (.slice a acc.length cap) acc.length (aw acc) rfl (ae hOW) ⟨w1.heap.size + 1, 0, none⟩ 1 1 [.int .i64 k, .bool true, .string (dg f n y ws k).s] (by rfl) (by rfl) (World.news_of_block (cs := #[.int .i64 k, .bool true, .string (dg f n y ws k).s]) (t := 98) (fr := (0, 0)) (by have := heap_alloc_new (w1.alloc (.cells #[.bool true, .string (dg f n y ws k).s] 24)) (.cells #[.int .i64 k, .bool true, .string (dg f n y ws k).s] 98); simpa using this)) (by simp [Value.oneCell']) (by omega) (by unfold maxLen; omega) (by omega) (by simp; omega) _ rfl ?_; intro g2 cap2 w2 hown hgrow hat hlt2)
       have HL2 := ag ((ae HL).more hlt (((ae HK1).alloc _).alloc _) ((ae HD1).kp0 (((Kp.refl [] w1).alloc _).alloc _)) (ae HS1) (ae H00) (ae H1T) hown hgrow hat)
       clear hown hgrow hat
       go_wp2_with fail
       exact ⟨⟨k + 1, _, _, _, _, _, by omega, by simp, by go_num, by omega, HL2⟩, by simp [intOf]; omega⟩
      ·have HL2 := ag ((ae HL).skip hlt ((ae HK1).alloc (.cells #[.bool (dg f n y ws k).t, .string (dg f n y ws k).s] 24)) ((ae HD1).kp0 ((Kp.refl [] w1).alloc _)) (ae HS1) (ae H00) h1)
       have h1' : (dg f n y ws k).t = false := by simpa using h1
       rw [h1'] at HL2 ⊢
       clear h1 h1'
       go_wp2_with fail
       exact ⟨⟨k + 1, acc, _, a, cap, _, by omega, rfl, by go_num, by omega, HL2⟩, by simp [intOf]; omega⟩
     ·have hg := (ae HL).goes
      rw [show t + 1 - k = (t - k) + 1 by omega] at hg
      have hst := mF hg h0
      clear hg
      have HST := ag hst
      have HK2 := ag (((ae HL).kp.trans (ae HK1) (ae HL).sub).alloc (.cells #[.bool (dg f n y ws k).t, .string (dg f n y ws k).s] 24))
      have HD2 := ag ((ae HD1).kp0 ((Kp.refl [] w1).alloc (.cells #[.bool (dg f n y ws k).t, .string (dg f n y ws k).s] 24)))
      have HS2 := ag ((ae HL).sub1 (ae HS1))
      clear hst
      generalize (dg f n y ws k).a = q at *
      generalize (dg f n y ws k).t = qt at *
      generalize (dg f n y ws k).s = qs at *
      go_wp2_with fail
      go_ret2
      exact gq [] _ _ none 0 (ae HST) (World.ownsRow_nil _ _ _ _) (ae HD2) (ae HK2) (ae HS2) (fun g hg => by simp [Value.ownBlock] at hg)
    ·have j0 : ¬ (k : Int) ≤ (t : Int) := by omega
     have hst := pk (ae HL).goes (by omega)
     have HST := ag hst
     clear hst
     go_wp2_with fail
     go_ret2
     exact gq acc 0 _ a cap (ae HST) (ae HL).own (ae HL).wrk (ae HL).kp (ae HL).sub (ae HL).far
  ·have HE1 := ag (iH (f := f) (n := n) (y := y) (ws := ws) (rs := rs) (p := fr) (t := to_) (fun h => ht h.2))
   have ht2 : aN to_ = false := by simpa using ht
   clear ht
   go_enter Tryz.func61, Tryz.ntmps61
   go_wp2_with fail
   refine (cJ _ _).mono ?_
   rintro e w' ⟨rfl, rfl⟩
   rw [hf]
   go_wp2_with fail
   refine (cJ _ _).mono ?_
   rintro e w' ⟨rfl, rfl⟩
   rw [ht2]
   go_wp2_with fail
   go_ret2
   exact gq [] 1 _ none 0 (ae HE1) (World.ownsRow_nil _ _ _ _) (ae HD) (Kp.refl _ _) (fun _ hx => .inl hx) (fun g hg => by simp [Value.ownBlock] at hg)
 ·have HE1 := ag (iH (f := f) (n := n) (y := y) (ws := ws) (rs := rs) (p := fr) (t := to_) (fun h => hf h.1))
  have hf2 : aN fr = false := by simpa using hf
  clear hf
  go_enter Tryz.func61, Tryz.ntmps61
  go_wp2_with fail
  refine (cJ _ _).mono ?_
  rintro e w' ⟨rfl, rfl⟩
  rw [hf2]
  go_wp2_with fail
  go_ret2
  exact gq [] 1 _ none 0 (ae HE1) (World.ownsRow_nil _ _ _ _) (ae HD) (Kp.refl _ _) (fun _ hx => .inl hx) (fun g hg => by simp [Value.ownBlock] at hg)
theorem nV {B sb n wb : Nat} {G H : List Nat} {f : Nat → List Ver} {md y : Int} {rs : List Int} {ws : List Ver} (w : World) (h : Sht B w sb G f n) (hd : Wrk B w wb H md y rs ws) (hrl : rs.length ≤ 3000) (hwl : ws.length ≤ 900) :
 Calls Tryz.prog 63 #[.pointer (some ⟨wb, 0, none⟩), .pointer (some ⟨sb, 0, none⟩)] w fun e w' => e = .returned (.int .i64 (dm f md y rs ws)) ∧ Kp [] w w' := by
 obtain ⟨g, o, cap, h⟩ := h
 have HT := ag h
 have HD := ag hd
 clear h hd
 have HC0 : Hid (cls f y ws 0 = false) := rfl
 go_enter Tryz.func63, Tryz.ntmps63
 go_wp2_with fail
 go_loopw [5] (fun i wr => ∃ k : Nat, k ≤ 8 ∧ i = .int .i64 k ∧ Hid (cls f y ws k = false) ∧ Hid (Kp [] w wr)) (fun i _ => 8 - (intOf i).toNat)
 case atStart => exact ⟨0, by omega, rfl, HC0, Kp.refl _ _⟩
 case round =>
  obtain ⟨k, hk, rfl, HC, HK⟩ := hrel
  by_cases hlt8 : k < 8
  ·have i0 : (0 : Int) ≤ (k : Int) := by omega
   have i1 : (k : Int) < 8 := by omega
   go_wp2_with fail
   refine (gp k _ ((ae HD).kp0 (ae HK)) (by omega)).mono ?_
   rintro e w1 ⟨rfl, hkp⟩
   have hk1 := (ae HK).trans0 hkp
   generalize hsn : snc f k = sn at *
   have HSN := ag hsn
   clear hsn
   cases hv : lwr ws k with
   | some v =>
     simp only [Option.isSome_some, Option.getD_some]
     have hk2 := hk1.alloc (.cells #[.bool v.t, .string v.s] 24)
     obtain ⟨ra, rc, wa, wc, hw1⟩ := (ae HD).kp0 hk1
     have ht1 := (ae HT).kp hk1 (fun _ _ => by simp)
     have qL := ht1.kcell hlt8
     have qy := hw1.c1
     have hlb := ah hw1.box
     have hls := (ht1.lo sb ht1.sG).2
     have HK2 := ag hk2
     have HV := ag hv
     clear hkp hk1 hk2 hw1 ht1 hv
     by_cases hgt : y < sn
     ·have HN := ag (mD (md := md) (rs := rs) (mK (pq (ae HV) (by rw [ae HSN]; exact hgt)) 8 (by omega)))
      go_wp2_with fail
      go_quiet ((go_at_call 95; exact Calls.quiet_of_same (iz _ (ae HT) ((ae HK2).drewN _) hlt8 sn (ae HSN))))
      go_wp2
      go_ret
      exact ⟨bu (ae HN).symm, (ae HK2).drewN _⟩
     ·have HN := ag (pr (ws := ws) (f := f) (y := y) (k := k) (by rw [ae HSN]; omega))
      have hle : sn ≤ y := by omega
      go_wp2_with fail
      go_quiet ((go_at_call 95; exact Calls.quiet_of_same (iz _ (ae HT) ((ae HK2).drewN _) hlt8 sn (ae HSN))))
      go_wp2
      exact ⟨⟨k + 1, by omega, by go_num, by rw [ae HN]; exact HC, (ae HK2).drewN _⟩, by simp [intOf]; omega⟩
   | none =>
     simp only [Option.isSome_none, Option.getD_none]
     have HK2 := ag (hk1.alloc (.cells #[.bool dv.t, .string dv.s] 24))
     have HN := ag (tB (f := f) (y := y) hv)
     clear hkp hk1 hv
     go_wp2_with fail
     go_quiet (fail)
     go_wp2
     exact ⟨⟨k + 1, by omega, by go_num, by rw [ae HN]; exact HC, (ae HK2).drewN _⟩, by simp [intOf]; omega⟩
  ·have e : k = 8 := by omega
   subst e
   have HE := ag (tc (md := md) (rs := rs) (ae HC))
   have HM0 : Hid (mcd f md y rs 0 = 0) := by simp [mcd, stl]; exact trivial
   have HK0 := HK
   clear HC
   go_wp2_with fail
   go_loopw [8] (fun i wr => ∃ k : Nat, k ≤ 8 ∧ i = .int .i64 k ∧ Hid (mcd f md y rs k = 0) ∧ Hid (Kp [] w wr)) (fun i _ => 8 - (intOf i).toNat)
   case atStart => exact ⟨0, by omega, rfl, HM0, HK0⟩
   case round =>
    obtain ⟨k, hk, rfl, HC, HK⟩ := hrel
    by_cases hlt8 : k < 8
    ·have i0 : (0 : Int) ≤ (k : Int) := by omega
     have i1 : (k : Int) < 8 := by omega
     obtain ⟨ra, rc, wa, wc, hw1⟩ := (ae HD).kp0 (ae HK)
     have ht1 := (ae HT).kp (ae HK) (fun _ _ => by simp)
     have qL := ht1.kcell hlt8
     have qm := hw1.c0
     have qy := hw1.c1
     have qr := hw1.c2
     have HS := ag hw1.rsl
     clear hw1 ht1
     generalize hsn : snc f k = sn at *
     have HSN := ag hsn
     clear hsn
     by_cases hm : md = 2
     ·by_cases hr : (k : Int) ∈ rs
      ·have hd : decide ((k : Int) ∈ rs) = true := by simp [hr]
       have HD2 := ag hd
       by_cases hgt : y < sn
       ·have HN : Hid (dm f md y rs ws = 11) := (ae HE).trans (oN hm (rx (ov hr (by rw [ae HSN]; exact hgt)) 8 (by omega)))
        subst hm
        clear hr hd
        go_wp2_with fail
        go_quiet ((first | (go_at_call 96; exact Calls.quiet_of_same ((su ra rc k _ ((ae HS).kp0 ((Kp.refl [] _).drewN _)) (by omega)).mono (fun e w' q => ⟨by rw [q.1, ae HD2], q.2⟩))) | (go_at_call 95; exact Calls.quiet_of_same (iz _ (ae HT) ((ae HK).drewN _) hlt8 sn (ae HSN)))))
        go_wp2
        go_ret
        exact ⟨bu (ae HN).symm, (ae HK).drewN _⟩
       ·have HN := ag ((ld (md := md) (ow (rs := rs) (f := f) (y := y) (k := k) (by rw [ae HSN]; omega))).trans (ae HC))
        have hle : sn ≤ y := by omega
        subst hm
        clear hr hd
        go_wp2_with fail
        go_quiet ((first | (go_at_call 96; exact Calls.quiet_of_same ((su ra rc k _ ((ae HS).kp0 ((Kp.refl [] _).drewN _)) (by omega)).mono (fun e w' q => ⟨by rw [q.1, ae HD2], q.2⟩))) | (go_at_call 95; exact Calls.quiet_of_same (iz _ (ae HT) ((ae HK).drewN _) hlt8 sn (ae HSN)))))
        go_wp2
        refine ⟨⟨_, _, _, _, _, _, _, _, _, _, _, _, _, _, _, _, _, _, _, _, _, _, _, _, _, _, _, _, _, _, _, _, _, ?_, rfl⟩, by simp [intOf]; omega⟩
        exact ⟨k + 1, by omega, by go_num, HN, (ae HK).drewN _⟩
      ·have hd : decide ((k : Int) ∈ rs) = false := by simp [hr]
       have HD2 := ag hd
       have HN := ag ((ld (md := md) (rv (f := f) (y := y) hr)).trans (ae HC))
       subst hm
       clear hr hd
       go_wp2_with fail
       go_quiet ((go_at_call 96; exact Calls.quiet_of_same ((su ra rc k _ ((ae HS).kp0 ((Kp.refl [] _).drewN _)) (by omega)).mono (fun e w' q => ⟨by rw [q.1, ae HD2], q.2⟩))))
       go_wp2
       exact ⟨⟨k + 1, by omega, by go_num, HN, (ae HK).drewN _⟩, by simp [intOf]; omega⟩
     ·have HN := ag (kZ (f := f) (y := y) (rs := rs) (k := k + 1) hm)
      have em : (md == 2) = false := beq_eq_false_iff_ne.2 hm
      clear hm
      go_wp2_with fail
      go_quiet (fail)
      go_wp2
      exact ⟨⟨k + 1, by omega, by go_num, HN, (ae HK).drewN _⟩, by simp [intOf]; omega⟩
    ·have e : k = 8 := by omega
     subst e
     have HN := ag ((ae HE).trans (ae HC))
     go_wp2_with fail
     go_ret
     exact ⟨bu (ae HN).symm, ae HK⟩
theorem tO {B cb sb n wb : Nat} {G Gr Gs H : List Nat} {bx : Array Value} {f : Nat → List Ver} {cs : List (List Ver)} {st : Nat → Option Addr} {md y : Int} {rs : List Int} {ws : List Ver} (w : World) (h : Crt B w cb sb G Gr Gs bx f n cs [] st) (hv : VI f n cs) (hd : Wrk B w wb H md y rs ws) (hw : WOk ws) (hrl : rs.length ≤ 3000) (hwl : ws.length ≤ 900) :
 Calls Tryz.prog 62 #[.pointer (some ⟨cb, 0, none⟩), .pointer (some ⟨wb, 0, none⟩)] w fun e w' => e = .returned (.tuple #[.int .i64 (fV f n cs md y rs ws), .int .i64 (bl f cs md y rs ws)]) ∧ Ch (cf cb sb (vf f n cs md y rs ws) (vn f n cs md y rs ws) (vcs f cs md y rs ws) [] st) B w G w' := by
 have HM := ag (nV w h.s hd hrl hwl)
 have HD := ag hd
 have HV := ag h
 have c0 := h.c0
 have hpl := eN ws 8
 have HP := ag hw.pf
 have HR := ag hv
 have hn40 := h.s.inv.n40
 clear h hd hw hv
 by_cases hz : dm f md y rs ws = 0
 ·rw [hz] at HM
  by_cases hl : (wk ws 8).length = 0
  ·obtain ⟨e1, e2⟩ := kB (cs := cs) hz hl
   obtain ⟨e3, e4, e5, e6⟩ := ii (n := n) e2
   rw [e1, e3, e4, e5, e6]
   clear e1 e2 e3 e4 e5 e6 HR HP
   go_enter Tryz.func62, Tryz.ntmps62
   go_wp2_with fail
   refine (ae HM).mono ?_
   rintro e w0 ⟨rfl, hk0⟩
   have HK0 := ag hk0
   clear hk0 HM
   go_wp2_with fail
   refine (fE w0 ((ae HD).kp0 (ae HK0)) hwl).mono ?_
   rintro e w1 ⟨a, cap, rfl, _, hk⟩
   rw [hl]
   have HK := ag ((ae HK0).trans0 hk)
   clear hk hl
   go_wp2_with fail
   go_ret2
   exact ⟨rfl, Ch.same ⟨Gr, Gs, bx, ae HV⟩ (ae HK)⟩
  ·have HL := ag hl
   by_cases hc : bc cs (wk ws 8) = 0
   ·obtain ⟨e1, e2⟩ := ol hz hl hc
    obtain ⟨e3, e4, e5, e6⟩ := oq (n := n) e2
    rw [e1, e3, e4, e5, e6]
    clear e1 e2 e3 e4 e5 e6
    obtain ⟨q1, q2, q3⟩ := (ae HR).room hc
    have hlp : dH cs (wk ws 8) = cs ++ [wk ws 8] := by unfold dH; rw [if_pos hc]
    have HLP := ag hlp
    have HC := ag hc
    have HQ := ag (And.intro q1 (And.intro q2 q3))
    clear q1 q2 q3 hlp hc hz
    have HWW := ag (fun w0 (hk0 : Kp [] w w0) => fE w0 ((ae HD).kp0 hk0) hwl)
    generalize wk ws 8 = ps at *
    go_enter Tryz.func62, Tryz.ntmps62
    go_wp2_with fail
    refine (ae HM).mono ?_
    rintro e w0 ⟨rfl, hk0⟩
    have HK0 := ag hk0
    clear hk0 HM
    go_wp2_with fail
    refine (ae HWW w0 (ae HK0)).mono ?_
    rintro e w1 ⟨a, cap, rfl, ho0, hk1⟩
    have ho := cE ho0 (ae HK0).size
    have hk := (ae HK0).trans0 hk1
    have h1 := (ae HV).kp0 hk
    have HPR := ag (dZ (dE ho rfl) (ae HP))
    have HO := ag ho
    have H1 := ag h1
    have HK := ag hk
    clear ho ho0 h1 hk hk1 HWW HK0
    go_wp2_with fail
    refine (rM a cap ps w1 (ae H1).r (ae HPR) (by omega)).mono ?_
    rintro e w2 ⟨rfl, hL⟩
    rw [ae HC]
    rw [ae HLP] at hL
    obtain ⟨G2, ⟨Gr2, Gs2, bx2, h2⟩, k2, s2⟩ := (ae H1).roll hL
    have hfar : ∀ g o, a = some ⟨g, o, none⟩ → g ∉ G := fun g o ea hm => by
     have h3 := (fP (ae HO) g o ea).1
     have h4 := ((ae HV).lo g hm).2
     omega
    have hfar2 : ∀ g o, a = some ⟨g, o, none⟩ → g ∉ Gs2 := fun g o ea hm => by
     rcases s2 g (h2.sG g hm) with e | e
     ·exact hfar g o ea e
     ·have h3 := (fP (ae HO) g o ea).2
      omega
    have HPR2 := ag ((ae HPR).kp k2 hfar)
    have HFAR := ag hfar2
    have d0 := h2.c0
    have H2 := ag h2
    have K2 := ag k2
    have S2 := ag s2
    clear h2 k2 s2 hL hfar hfar2 c0
    go_wp2_with fail
    refine (lW a cap ps w2 (ae H2).s (ae HPR2) (fun _ => ae HFAR) (by omega)).mono ?_
    rintro e w3 ⟨rfl, Gs3, hT, hk3, hs3⟩
    rw [(ae HQ).1, (ae HQ).2.2]
    rw [(ae HQ).2.1] at hT
    have HZ := ag (Ch.after (ae HK) (Ch.trans (ae K2) (ae S2) ((ae H2).sheet hT hk3 hs3)))
    clear hT hk3 hs3
    go_wp2_with fail
    go_ret2
    exact ⟨rfl, ae HZ⟩
   ·obtain ⟨e1, e2⟩ := qZ hz hl hc
    obtain ⟨e3, e4, e5, e6⟩ := ii (n := n) e2
    rw [e1, e3, e4, e5, e6]
    clear e1 e2 e3 e4 e5 e6
    have hlp : dH cs (wk ws 8) = cs := by unfold dH; rw [if_neg hc]
    have HLP := ag hlp
    clear hlp hz
    generalize hzz : bc cs (wk ws 8) = z at *
    have HZZ := ag hzz
    clear hzz
    have HWW := ag (fun w0 (hk0 : Kp [] w w0) => fE w0 ((ae HD).kp0 hk0) hwl)
    generalize wk ws 8 = ps at *
    go_enter Tryz.func62, Tryz.ntmps62
    go_wp2_with fail
    refine (ae HM).mono ?_
    rintro e w0 ⟨rfl, hk0⟩
    have HK0 := ag hk0
    clear hk0 HM
    go_wp2_with fail
    refine (ae HWW w0 (ae HK0)).mono ?_
    rintro e w1 ⟨a, cap, rfl, ho, hk1⟩
    have hk := (ae HK0).trans0 hk1
    have h1 := (ae HV).kp0 hk
    have HPR := ag (dZ (dE ho rfl) (ae HP))
    have H1 := ag h1
    have HK := ag hk
    clear ho h1 hk hk1 HWW HK0
    go_wp2_with fail
    refine (rM a cap ps w1 (ae H1).r (ae HPR) (by omega)).mono ?_
    rintro e w2 ⟨rfl, hL⟩
    rw [ae HZZ]
    rw [ae HLP] at hL
    have HX := ag (Ch.after (ae HK) ((ae H1).roll hL))
    clear hL c0
    go_wp2_with fail
    go_ret2
    exact ⟨rfl, ae HX⟩
 ·obtain ⟨e1, e2⟩ := oo (cs := cs) hz
  obtain ⟨e3, e4, e5, e6⟩ := ii (n := n) e2
  rw [e1, e3, e4, e5, e6]
  clear e1 e2 e3 e4 e5 e6 HR HP
  generalize dm f md y rs ws = z at *
  go_enter Tryz.func62, Tryz.ntmps62
  go_wp2_with fail
  refine (ae HM).mono ?_
  rintro e w1 ⟨rfl, hk⟩
  have HK := ag hk
  clear hk HM
  go_wp2_with fail
  go_ret2
  exact ⟨rfl, Ch.same ⟨Gr, Gs, bx, ae HV⟩ (ae HK)⟩
end
section
open Go.RowKit
def bQ : Sd → ao
 | none => aJ []
 | some x => WkT x.1 x.2.md x.2.y x.2.rs x.2.ws
def ad (o : Sd) : Option Addr := o.map fun x => ⟨x.1, 0, none⟩
def ads (st : Nat → Sd) : Nat → Option Addr := fun s => ad (st s)
theorem lH (st : Nat → Sd) (s : Nat) (d : Sd) : ads (upd st s d) = upd (ads st) s (ad d) := by
 funext j
 simp only [ads, upd]
 split <;> rfl
theorem tY {st : Nat → Sd} {s : Nat} {d : Sd} (h : ad d = ad (st s)) : ads (upd st s d) = ads st := by
 rw [lH, h]
 funext j
 simp only [ads, upd]
 split
 ·rename_i e; rw [e]
 ·rfl
def bo (st : Nat → Sd) : List ao := [bQ (st 0), bQ (st 1), bQ (st 2), bQ (st 3), bQ (st 4)]
def Cou (w0 w : World) (cb sb : Nat) (h : HSt) (st : Nat → Sd) (r : List ao) : Prop := Zoo w0 w (cf cb sb h.f h.n h.cs [] (ads st) :: (bo st ++ r))
def bG (cb : Nat) (h : HSt) : ao where
 holds B w F := ∃ sb st, Sts st h.seat ∧ bT h ∧ ce B w (cf cb sb h.f h.n h.cs [] (ads st) :: bo st) F
 kp := fun ⟨sb, st, h1, h2, h3⟩ hk hS => ⟨sb, st, h1, h2, ce.kp hk h3 hS⟩
 lo := fun ⟨_, _, _, _, h⟩ => h.lo
 base := fun ⟨sb, st, h1, h2, h3⟩ hC => ⟨sb, st, h1, h2, ce.base hC h3⟩
section
variable {w0 w w' : World} {cb sb : Nat} {h h' : HSt} {st : Nat → Sd} {r : List ao}
theorem gK (hz : Zoo w0 w (bG cb h :: r)) : ∃ sb st, Sts st h.seat ∧ bT h ∧ Cou w0 w cb sb h st r := by
 obtain ⟨X, ⟨F, Y, ⟨sb, st, h1, h2, k⟩, h4, h5, rfl⟩, hk⟩ := hz
 exact ⟨sb, st, h1, h2, F ++ Y, ew k h4 h5, hk⟩
theorem ia (hs : Sts st h.seat) (hi : bT h) (hz : Cou w0 w cb sb h st r) : Zoo w0 w (bG cb h :: r) := by
 obtain ⟨X, h1, hk⟩ := hz
 obtain ⟨F, Y, k1, k2, k3, rfl⟩ := dQ (us := cf cb sb h.f h.n h.cs [] (ads st) :: bo st) (vs := r) h1
 exact ⟨F ++ Y, ⟨F, Y, ⟨sb, st, hs, hi, k1⟩, k2, k3, rfl⟩, hk⟩
theorem Cou.kp0 (hz : Cou w0 w cb sb h st r) (hk : Kp [] w w') : Cou w0 w' cb sb h st r := Zoo.kp0 hz hk
theorem Cou.as {h' : HSt} (hz : Cou w0 w cb sb h st r) (e1 : h'.f = h.f) (e2 : h'.n = h.n) (e3 : h'.cs = h.cs) : Cou w0 w cb sb h' st r := by
 unfold Cou at hz ⊢
 rw [e1, e2, e3]
 exact hz
theorem Cou.crt (hz : Cou w0 w cb sb h st r) : ∃ G Gr Gs bx, Crt w0.heap.size w cb sb G Gr Gs bx h.f h.n h.cs [] (ads st) ∧ ∀ (sb' : Nat) (f : Nat → List Ver) (n : Nat) (cs : List (List Ver)) (seat : Nat → Option Dp) (w' : World), Ch (cf cb sb' f n cs [] (ads st)) w0.heap.size w G w' → Cou w0 w' cb sb' ⟨f, n, cs, seat⟩ st r := by
 obtain ⟨G, ⟨Gr, Gs, bx, k⟩, k2⟩ := bi hz
 exact ⟨G, Gr, Gs, bx, k, fun sb' f n cs seat w' hc => k2 _ _ hc⟩
theorem Cou.c0 (hz : Cou w0 w cb sb h st r) : w.cell? ⟨cb, 0, none⟩ = some (.pointer (some ⟨sb, 0, none⟩)) := by
 obtain ⟨G, Gr, Gs, bx, k, _⟩ := hz.crt
 exact k.c0
theorem Cou.cs_ (hz : Cou w0 w cb sb h st r) {s : Nat} (hs : s < 5) : w.cell? ⟨cb, 3 + s, none⟩ = some (.pointer (ad (st s))) := by
 obtain ⟨G, Gr, Gs, bx, k, _⟩ := hz.crt
 exact k.seat hs
theorem Cou.fz (hz : Cou w0 w cb sb h st r) (i : Nat) : w.frozen? ⟨cb, i, none⟩ = false := by
 obtain ⟨G, Gr, Gs, bx, k, _⟩ := hz.crt
 exact k.fz i
theorem Cou.n0 (hz : Cou w0 w cb sb h st r) : w.cell? ⟨sb, 8, none⟩ = some (.int .i64 h.n) := by
 obtain ⟨G, Gr, Gs, bx, k, _⟩ := hz.crt
 exact k.s.ncell
theorem Cou.sl (hz : Cou w0 w cb sb h st r) : sb < w.heap.size := cH hz.n0
theorem Cou.new (hz : Cou w0 w cb sb h st r) (c : Array Value) (T : TypeId) : Cou w0 (w.alloc (.cells c T)) cb sb h st (au w.heap.size c T :: r) := by
 have h1 := Zoo.box hz c T
 exact h1.perm (List.perm_middle (l₁ := cf cb sb h.f h.n h.cs [] (ads st) :: bo st)).symm
theorem Cou.two (hz : Cou w0 w cb sb h st r) (c : Array Value) (T : TypeId) (c2 : Array Value) (T2 : TypeId) : Cou w0 ((w.alloc (.cells c T)).alloc (.cells c2 T2)) cb sb h st (au (w.heap.size + 1) c2 T2 :: au w.heap.size c T :: r) := by
 have h1 := (hz.new c T).new c2 T2
 rw [show (w.alloc (.cells c T)).heap.size = w.heap.size + 1 by simp] at h1
 exact h1
theorem Cou.perm {r' : List ao} (hz : Cou w0 w cb sb h st r) (hp : r.Perm r') : Cou w0 w cb sb h st r' := Zoo.perm hz (List.Perm.cons _ (List.Perm.append_left _ hp))
theorem Cou.var {p : Nat} {c : Array Value} {T : TypeId} (hz : Cou w0 w cb sb h st r) (hm : au p c T ∈ r) : w.heap[p]? = some (.cells c T (0, 0)) := ai hz (by simp [hm])
theorem Cou.at_ {l1 l2 : List ao} {o : ao} (hz : Cou w0 w cb sb h st (l1 ++ o :: l2)) : ∃ F, o.holds w0.heap.size w F ∧ ∀ (o' : ao) (w' : World), Ch o' w0.heap.size w F w' → Cou w0 w' cb sb h st (l1 ++ o' :: l2) := by
 have hz' : Zoo w0 w ((cf cb sb h.f h.n h.cs [] (ads st) :: (bo st ++ l1)) ++ o :: l2) := by
  have := hz
  unfold Cou at this
  rw [← List.append_assoc] at this
  exact this
 obtain ⟨F, h1, h2⟩ := hz'.at_
 refine ⟨F, h1, fun o' w' hc => ?_⟩
 have := h2 o' w' hc
 unfold Cou
 rw [← List.append_assoc]
 exact this
theorem Cou.tail {o : ao} (hz : Cou w0 w cb sb h st (o :: r)) : Cou w0 w cb sb h st r := Zoo.drop_ (l1 := cf cb sb h.f h.n h.cs [] (ads st) :: bo st) hz
theorem Cou.set0 {p : Nat} {c : Array Value} {T : TypeId} (hz : Cou w0 w cb sb h st (au p c T :: r)) (i : Nat) (v : Value) : Cou w0 (w.setCell ⟨p, i, none⟩ v) cb sb h st (au p (c.setIfInBounds i v) T :: r) := by
 obtain ⟨F, ⟨hbx, h2, h3⟩, k2⟩ := Cou.at_ (l1 := []) hz
 exact k2 _ _ ⟨F, ⟨an _ _ hbx, h2, h3⟩, by rw [h2]; exact (Kp.refl [p] w).setCell (.inl (by simp)) _, fun x hx => .inl hx⟩
theorem Cou.fin {W : World} {p q : Nat} {c xc : Array Value} {T U : TypeId} (hz : Cou w0 W cb sb h st (au p c T :: au q xc U :: r)) (a b c' d e : Value) : Cou w0 (((((W.setCell ⟨p, 0, none⟩ a).setCell ⟨p, 1, none⟩ b).setCell ⟨p, 2, none⟩ c').setCell ⟨p, 3, none⟩ d).setCell ⟨p, 4, none⟩ e) cb sb h st r := (((((hz.set0 0 a).set0 1 b).set0 2 c').set0 3 d).set0 4 e).tail.tail
theorem fF (st : Nat → Sd) {s : Nat} (hs : s < 5) : ∃ l1 l2, bo st = l1 ++ bQ (st s) :: l2 ∧ ∀ d, bo (upd st s d) = l1 ++ bQ d :: l2 := by
 rcases (show s = 0 ∨ s = 1 ∨ s = 2 ∨ s = 3 ∨ s = 4 by omega) with e | e | e | e | e <;> subst e
 ·exact ⟨[], [bQ (st 1), bQ (st 2), bQ (st 3), bQ (st 4)], rfl, fun d => by simp [bo, upd]⟩
 ·exact ⟨[bQ (st 0)], [bQ (st 2), bQ (st 3), bQ (st 4)], rfl, fun d => by simp [bo, upd]⟩
 ·exact ⟨[bQ (st 0), bQ (st 1)], [bQ (st 3), bQ (st 4)], rfl, fun d => by simp [bo, upd]⟩
 ·exact ⟨[bQ (st 0), bQ (st 1), bQ (st 2)], [bQ (st 4)], rfl, fun d => by simp [bo, upd]⟩
 ·exact ⟨[bQ (st 0), bQ (st 1), bQ (st 2), bQ (st 3)], [], rfl, fun d => by simp [bo, upd]⟩
theorem Cou.out (hz : Cou w0 w cb sb h st r) {s : Nat} (hs : s < 5) : ∃ rest, Zoo w0 w (cf cb sb h.f h.n h.cs [] (ads st) :: bQ (st s) :: rest) ∧
 ∀ (w' : World) (d : Sd) (P : List ao), ad d = ad (st s) → Zoo w0 w' (cf cb sb h.f h.n h.cs [] (ads st) :: bQ d :: (P ++ rest)) → Cou w0 w' cb sb h (upd st s d) (P ++ r) := by
 obtain ⟨l1, l2, e1, e2⟩ := fF st hs
 refine ⟨l1 ++ (l2 ++ r), ?_, fun w' d P hd hz' => ?_⟩
 ·have h1 := hz
  unfold Cou at h1
  rw [e1, List.append_assoc] at h1
  exact h1.perm (List.Perm.cons _ List.perm_middle)
 ·unfold Cou
  rw [e2, tY hd, List.append_assoc]
  refine hz'.perm (List.Perm.cons _ ?_)
  have p1 := (List.perm_middle (l₁ := l1) (a := bQ d) (l₂ := l2 ++ (P ++ r))).symm
  refine List.Perm.trans (List.Perm.cons _ ?_) p1
  have p2 : (P ++ (l1 ++ l2 ++ r)).Perm (l1 ++ l2 ++ (P ++ r)) := by
   rw [← List.append_assoc, ← List.append_assoc (l1 ++ l2)]
   exact List.perm_append_comm.append_right r
  have e3 : ∀ q : List ao, l1 ++ (l2 ++ q) = l1 ++ l2 ++ q := fun q => by simp
  rw [e3, e3]
  exact p2
theorem Cou.sitP {s : Nat} (hs : s < 5) (d : Sd) (k : Zoo w0 w (cf cb sb h.f h.n h.cs [] (ads st) :: (bo (upd st s d) ++ r))) : Cou w0 (w.setCell ⟨cb, 3 + s, none⟩ (.pointer (ad d))) cb sb h (upd st s d) r := by
 obtain ⟨G, ⟨Gr, Gs, bx, k1⟩, k2⟩ := bi k
 have := k2 _ _ (k1.sit hs (ad d))
 unfold Cou
 rw [lH]
 exact this
theorem bO (hz : Zoo w0 w r) : Zoo w0 w (bQ none :: r) := bR (os := []) hz
theorem Cou.leave (hz : Cou w0 w cb sb h st r) {s : Nat} (hs : s < 5) : Cou w0 (w.setCell ⟨cb, 3 + s, none⟩ (.pointer none)) cb sb h (upd st s none) (bQ (st s) :: r) := by
 obtain ⟨l1, l2, e1, e2⟩ := fF st hs
 generalize hA : cf cb sb h.f h.n h.cs [] (ads st) :: l1 = A
 have h1 : Zoo w0 w (A ++ bQ (st s) :: (l2 ++ r)) := by
  have := hz
  unfold Cou at this
  rw [e1, List.append_assoc] at this
  rw [← hA]
  exact this
 have h2 := (bO h1).perm ((List.Perm.cons _ List.perm_middle).trans (List.Perm.swap _ _ _))
 have h3 := h2.perm (List.Perm.cons _ (List.perm_middle (l₁ := A)).symm)
 have h4 : Zoo w0 w (bQ (st s) :: ((A ++ bQ none :: l2) ++ r)) := by rw [List.append_assoc]; exact h3
 have h5 := h4.perm (List.perm_middle (l₁ := A ++ bQ none :: l2)).symm
 have h6 : Zoo w0 w (cf cb sb h.f h.n h.cs [] (ads st) :: (bo (upd st s none) ++ (bQ (st s) :: r))) := by
  rw [e2]
  rw [← hA] at h5
  exact h5
 exact Cou.sitP hs none h6
theorem Cou.sitNew {D : Nat} {d : Dp} {l1 l2 : List ao} (hz : Cou w0 w cb sb h st (l1 ++ bQ (some (D, d)) :: l2)) {s : Nat} (hs : s < 5) (hn : st s = none) : Cou w0 (w.setCell ⟨cb, 3 + s, none⟩ (.pointer (some ⟨D, 0, none⟩))) cb sb h (upd st s (some (D, d))) (l1 ++ l2) := by
 have h1 := hz.perm (List.perm_middle (l₁ := l1))
 obtain ⟨m1, m2, e1, e2⟩ := fF st hs
 refine Cou.sitP (h := h) (st := st) hs (some (D, d)) ?_
 unfold Cou at h1
 rw [e1, hn, List.append_assoc] at h1
 have h2 : Zoo w0 w ((cf cb sb h.f h.n h.cs [] (ads st) :: m1) ++ bQ none :: (m2 ++ (bQ (some (D, d)) :: (l1 ++ l2)))) := h1
 have h3 := h2.drop_
 rw [e2, List.append_assoc]
 have h4 : Zoo w0 w ((cf cb sb h.f h.n h.cs [] (ads st) :: (m1 ++ m2)) ++ bQ (some (D, d)) :: (l1 ++ l2)) := by
  have := h3
  simp only [List.cons_append, List.append_assoc] at this ⊢
  exact this
 have h5 := h4.perm List.perm_middle
 have h6 : Zoo w0 w (bQ (some (D, d)) :: ((cf cb sb h.f h.n h.cs [] (ads st) :: m1) ++ (m2 ++ (l1 ++ l2)))) := by
  have := h5
  simp only [List.cons_append, List.append_assoc] at this ⊢
  exact this
 exact h6.perm (List.perm_middle (l₁ := cf cb sb h.f h.n h.cs [] (ads st) :: m1)).symm
theorem Cou.stand {f : Nat → List Ver} {n : Nat} {cs : List (List Ver)} {sb' : Nat} (hz : Zoo w0 w (cf cb sb' f n cs [] (fun _ => none) :: (bo st ++ r))) : Cou w0 w cb sb' ⟨f, n, cs, fun _ => none⟩ (fun _ => none) r := by
 have h1 : Zoo w0 w (bo st ++ (cf cb sb' f n cs [] (fun _ => none) :: r)) := hz.perm (List.perm_middle (l₁ := bo st)).symm
 have h2 := (bR h1).tail
 have h3 := bO (bO (bO (bO (bO h2))))
 exact h3.perm (List.perm_middle (l₁ := bo (fun _ => none)))
theorem Cou.wrk (hz : Cou w0 w cb sb h st r) {s D : Nat} {d : Dp} (hs : s < 5) (hd : st s = some (D, d)) : ∃ H, Wrk w0.heap.size w D H d.md d.y d.rs d.ws := by
 obtain ⟨rest, h1, _⟩ := hz.out hs
 rw [hd] at h1
 obtain ⟨F, h2, _⟩ := bW h1
 exact ⟨F, h2⟩
end
end
section
open Go.RowKit
attribute [local go_sem ↓] Go.wp_at_zero Go.wp_at_succ
section
variable {w0 w : World} {cb sb : Nat} {h : HSt} {st : Nat → Sd} {r : List ao} {s D : Nat} {d : Dp}
theorem wD {md at_ : Int} (hb0 : ba h.f h.n md at_ = 0) (hz : Cou w0 w cb sb h st r) :
 Calls Tryz.prog 58 #[.pointer (some ⟨cb, 0, none⟩), .int .i64 md, .int .i64 at_] w fun e w' => ∃ D, e = .returned (.tuple #[.pointer (some ⟨D, 0, none⟩), .int .i64 0]) ∧ Hid (Cou w0 w' cb sb h st (bQ (some (D, ⟨md, bat h.n md at_, [], []⟩)) :: r)) := by
 obtain ⟨G, Gr, Gs, bx, k, _⟩ := hz.crt
 refine (tP md at_ w k).mono ?_
 rintro e w' (⟨_, D, H, rfl, hd, hk⟩ | ⟨h, _⟩)
 ·refine ⟨D, rfl, ?_⟩
  have h1 : Zoo w0 w' (WkT D md (bat h.n md at_) [] [] :: (cf cb sb h.f h.n h.cs [] (ads st) :: (bo st ++ r))) := Zoo.cons hz (F := H) hd hk
  exact h1.perm (List.perm_middle (l₁ := cf cb sb h.f h.n h.cs [] (ads st) :: bo st)).symm
 ·exact absurd hb0 h
theorem yV {md at_ z : Int} (hb0 : ba h.f h.n md at_ = z) (h0 : z ≠ 0) (hz : Cou w0 w cb sb h st r) :
 Calls Tryz.prog 58 #[.pointer (some ⟨cb, 0, none⟩), .int .i64 md, .int .i64 at_] w fun e w' => e = .returned (.tuple #[.pointer none, .int .i64 z]) ∧ Hid (Cou w0 w' cb sb h st r) := by
 obtain ⟨G, Gr, Gs, bx, k, _⟩ := hz.crt
 refine (tP md at_ w k).mono ?_
 rintro e w' (⟨h, _⟩ | ⟨_, rfl, hk⟩)
 ·exact absurd (hb0.symm.trans h) h0
 ·exact ⟨by rw [hb0], hz.kp0 hk⟩
theorem xe (k : Int) (hs : s < 5) (hd : st s = some (D, d)) (hrl : d.rs.length ≤ 2000) (hwl : d.ws.length ≤ 900) (hz : Cou w0 w cb sb h st r) :
 Calls Tryz.prog 59 #[.pointer (some ⟨D, 0, none⟩), .pointer (some ⟨sb, 0, none⟩), .int .i64 k] w fun e w' => e = .returned (.tuple #[.agg #[.bool (dg h.f h.n d.y d.ws k).t, .string (dg h.f h.n d.y d.ws k).s], .int .i64 (dg h.f h.n d.y d.ws k).a]) ∧ Hid (Cou w0 w' cb sb h (upd st s (some (D, { d with rs := dr h.f h.n d.y d.rs d.ws k }))) r) := by
 obtain ⟨G, Gr, Gs, bx, kc, _⟩ := hz.crt
 obtain ⟨rest, h1, h2⟩ := hz.out hs
 rw [hd] at h1 h2
 obtain ⟨H, hw, k2⟩ := bW h1
 refine (nZ k w kc.s hw (Nat.le_trans hrl (by omega)) hwl).mono ?_
 rintro e w' ⟨rfl, hc⟩
 exact ⟨rfl, h2 w' (some (D, { d with rs := dr h.f h.n d.y d.rs d.ws k })) [] rfl (k2 _ _ hc)⟩
theorem yW (fr to_ : Int) (hs : s < 5) (hd : st s = some (D, d)) (hrl : d.rs.length ≤ 2000) (hwl : d.ws.length ≤ 900) (hz : Cou w0 w cb sb h st r) :
 Calls Tryz.prog 61 #[.pointer (some ⟨D, 0, none⟩), .pointer (some ⟨sb, 0, none⟩), .int .i64 fr, .int .i64 to_] w fun e w' => ∃ a cap, e = .returned (.tuple #[.slice a (dls h.f h.n d.y d.ws d.rs fr to_).1.length cap, .int .i64 (dls h.f h.n d.y d.ws d.rs fr to_).2.1]) ∧ Hid (SlO w' a (dls h.f h.n d.y d.ws d.rs fr to_).1) ∧ Hid (∀ x ∈ ob a, w.heap.size ≤ x) ∧ Hid (Cou w0 w' cb sb h (upd st s (some (D, { d with rs := (dls h.f h.n d.y d.ws d.rs fr to_).2.2 }))) r) := by
 obtain ⟨rest, h1, h2⟩ := hz.out hs
 rw [hd] at h1 h2
 have h1' := h1
 obtain ⟨X, ⟨Fv, Y, ⟨Gr, Gs, bx, kc⟩, ⟨H0, Z, hw0, hZ, hdZ, e2⟩, hdj, eX⟩, hkX⟩ := h1'
 have hF : ∀ x, x ∈ Gs → x ∉ H0 := fun x hx hm => hdj x (kc.sG x hx) (by rw [e2]; simp [hm])
 refine (lN fr to_ w kc.s hw0 hF (Nat.le_trans hrl (by omega)) hwl).mono ?_
 rintro e w' ⟨a, cap, rfl, ho, H', hw', hk, hH, _⟩
 refine ⟨a, cap, rfl, dE ho rfl, fun x hx => ?_, ?_⟩
 ·cases a with
  | none => simp [ob] at hx
  | some ad =>
    simp only [ob, List.mem_singleton] at hx
    subst hx
    exact es ho rfl
 ·refine h2 w' (some (D, { d with rs := (dls h.f h.n d.y d.ws d.rs fr to_).2.2 })) [] rfl ?_
  have hn : ∀ x, x ∈ H' → x ∉ Fv ++ Z := fun x hx hm => by
   rcases hH x hx with q | q
   ·rcases List.mem_append.1 hm with q2 | q2
    ·exact hdj x q2 (by rw [e2]; simp [q])
    ·exact hdZ x q q2
   ·rcases List.mem_append.1 hm with q2 | q2
    ·have := (kc.lo x q2).2; omega
    ·have := (ce.lo hZ x q2).2; omega
  refine ⟨Fv ++ (H' ++ Z), ⟨Fv, H' ++ Z, ⟨Gr, Gs, bx, kc.kp hk (fun x hx hm => hdj x hx (by rw [e2]; simp [hm]))⟩, ⟨H', Z, hw', ce.kp hk hZ (fun x hx hm => hdZ x hm hx), fun x hx hz' => hn x hx (by simp [hz']), rfl⟩, fun x hx hm => ?_, rfl⟩, hkX.trans hk (fun x hx => .inr (by have := (hw0.lo x hx).1; exact this))⟩
  rcases List.mem_append.1 hm with q | q
  ·exact hn x q (by simp [hx])
  ·exact hdj x hx (by rw [e2]; simp [q])
theorem wA {A C : ao} {r0 : List ao} (fr to_ : Int) (hs : s < 5) (hd : st s = some (D, d)) (hrl : d.rs.length ≤ 2000) (hwl : d.ws.length ≤ 900) (hz : Cou w0 w cb sb h st (A :: C :: r0)) :
 Calls Tryz.prog 61 #[.pointer (some ⟨D, 0, none⟩), .pointer (some ⟨sb, 0, none⟩), .int .i64 fr, .int .i64 to_] w fun e w' => ∃ a cap, e = .returned (.tuple #[.slice a (dls h.f h.n d.y d.ws d.rs fr to_).1.length cap, .int .i64 (dls h.f h.n d.y d.ws d.rs fr to_).2.1]) ∧ Hid (Cou w0 w' cb sb h (upd st s (some (D, { d with rs := (dls h.f h.n d.y d.ws d.rs fr to_).2.2 }))) (A :: C :: PsT a cap (dls h.f h.n d.y d.ws d.rs fr to_).1 :: r0)) := by
 obtain ⟨rest, h1, h2⟩ := hz.out hs
 rw [hd] at h1 h2
 have h1' := h1
 obtain ⟨X, ⟨Fv, Y, ⟨Gr, Gs, bx, kc⟩, ⟨H0, Z, hw0, hZ, hdZ, e2⟩, hdj, eX⟩, hkX⟩ := h1'
 have hF : ∀ x, x ∈ Gs → x ∉ H0 := fun x hx hm => hdj x (kc.sG x hx) (by rw [e2]; simp [hm])
 refine (lN fr to_ w kc.s hw0 hF (Nat.le_trans hrl (by omega)) hwl).mono ?_
 rintro e w' ⟨a, cap, rfl, ho, H', hw', hk, hH, hfar⟩
 refine ⟨a, cap, rfl, ?_⟩
 have hob : ∀ x, x ∈ ob a → w.heap.size ≤ x ∧ x ∉ H' := fun x hx => by
  cases a with
  | none => simp [ob] at hx
  | some ad =>
    simp only [ob, List.mem_singleton] at hx
    subst hx
    exact ⟨es ho rfl, hfar _ rfl⟩
 have hn : ∀ x, x ∈ H' → x ∉ Fv ++ Z := fun x hx hm => by
  rcases hH x hx with q | q
  ·rcases List.mem_append.1 hm with q2 | q2
   ·exact hdj x q2 (by rw [e2]; simp [q])
   ·exact hdZ x q q2
  ·rcases List.mem_append.1 hm with q2 | q2
   ·have := (kc.lo x q2).2; omega
   ·have := (ce.lo hZ x q2).2; omega
 have hn2 : ∀ x, x ∈ ob a → x ∉ Fv ++ Z := fun x hx hm => by
  have q := (hob x hx).1
  rcases List.mem_append.1 hm with q2 | q2
  ·have := (kc.lo x q2).2; omega
  ·have := (ce.lo hZ x q2).2; omega
 have hz2 := h2 w' (some (D, { d with rs := (dls h.f h.n d.y d.ws d.rs fr to_).2.2 })) [PsT a cap (dls h.f h.n d.y d.ws d.rs fr to_).1] rfl (by
  refine ⟨Fv ++ (H' ++ (ob a ++ Z)), ⟨Fv, H' ++ (ob a ++ Z), ⟨Gr, Gs, bx, kc.kp hk (fun x hx hm => hdj x hx (by rw [e2]; simp [hm]))⟩, ⟨H', ob a ++ Z, hw', ⟨ob a, Z, ⟨cE ho hkX.size, rfl⟩, ce.kp hk hZ (fun x hx hm => hdZ x hm hx), fun x hx hz' => hn2 x hx (by simp [hz']), rfl⟩, fun x hx hz' => ?_, rfl⟩, fun x hx hm => ?_, rfl⟩, hkX.trans hk (fun x hx => .inr (by have := (hw0.lo x hx).1; exact this))⟩
  ·rcases List.mem_append.1 hz' with q | q
   ·exact (hob x q).2 hx
   ·exact hn x hx (by simp [q])
  ·rcases List.mem_append.1 hm with q | q
   ·exact hn x q (by simp [hx])
   ·rcases List.mem_append.1 q with q2 | q2
    ·exact hn2 x q2 (by simp [hx])
    ·exact hdj x hx (by rw [e2]; simp [q2]))
 exact hz2.perm ((List.Perm.swap _ _ _).trans (List.Perm.cons _ (List.Perm.swap _ _ _)))
theorem tQ (hi : bT h) (hs : s < 5) (hd : st s = some (D, d)) (hw : WOk d.ws) (hrl : d.rs.length ≤ 2000) (hwl : d.ws.length ≤ 900) (hz : Cou w0 w cb sb h st r) :
 Calls Tryz.prog 62 #[.pointer (some ⟨cb, 0, none⟩), .pointer (some ⟨D, 0, none⟩)] w fun e w' => e = .returned (.tuple #[.int .i64 (fV h.f h.n h.cs d.md d.y d.rs d.ws), .int .i64 (bl h.f h.cs d.md d.y d.rs d.ws)]) ∧ Hid (Cou w0 w' cb sb ⟨vf h.f h.n h.cs d.md d.y d.rs d.ws, vn h.f h.n h.cs d.md d.y d.rs d.ws, vcs h.f h.cs d.md d.y d.rs d.ws, h.seat⟩ st r) := by
 obtain ⟨G, Gr, Gs, bx, k, k2⟩ := hz.crt
 obtain ⟨H, hW⟩ := hz.wrk hs hd
 refine (tO w k hi.vi hW hw (Nat.le_trans hrl (by omega)) hwl).mono ?_
 rintro e w' ⟨rfl, hc⟩
 exact ⟨rfl, k2 _ _ _ _ _ _ hc⟩
theorem gO {torn : List UInt8} {f : Nat → List Ver} {n : Nat} {cs : List (List Ver)} (hz : Zoo w0 w (cf cb sb f n cs torn (ads st) :: (bo st ++ r))) :
 Calls Tryz.prog 57 #[.pointer (some ⟨cb, 0, none⟩)] w fun e w' => e = .returned (.tuple #[]) ∧ ∃ sb', Hid (Cou w0 w' cb sb' ⟨cw cs, cs.length, cs, fun _ => none⟩ (fun _ => none) r) := by
 obtain ⟨G, ⟨Gr, Gs, bx, k⟩, k2⟩ := bi hz
 refine (yU w k).mono ?_
 rintro e w' ⟨rfl, sb', hc⟩
 exact ⟨rfl, sb', Cou.stand (k2 _ _ hc)⟩
theorem wC (y : Int) (hz : Cou w0 w cb sb h st r) :
 Calls Tryz.prog 55 #[.pointer (some ⟨sb, 0, none⟩), .int .i64 y] w fun e w' => e = .returned (.int .i64 (cln h.f y 8 : Nat)) ∧ Hid (Cou w0 w' cb sb ⟨clm h.f y 8, h.n, h.cs, h.seat⟩ st r) := by
 obtain ⟨G, Gr, Gs, bx, k, k2⟩ := hz.crt
 refine (rK y w k.s).mono ?_
 rintro e w' ⟨rfl, G', h1, h2, h3⟩
 exact ⟨rfl, k2 _ _ _ _ _ _ (k.sheet h1 h2 h3)⟩
theorem wB (hs : Sts st h.seat) (hz : Cou w0 w cb sb h st r) : Calls Tryz.prog 56 #[.pointer (some ⟨cb, 0, none⟩)] w fun e w' => e = .returned (.int .i64 (bm h.n h.seat 5)) ∧ w' = w := by
 have c0 := hz.c0
 have n0 := hz.n0
 have HZ := ag hz
 clear hz
 go_enter Tryz.func56, Tryz.ntmps56
 go_wp2_with fail
 clear c0 n0
 go_loop [3, 4] (fun x i => ∃ k : Nat, k ≤ 5 ∧ x = .int .i64 (bm h.n h.seat k) ∧ i = .int .i64 k) (fun _ i => 5 - (intOf i).toNat)
 case atStart => exact ⟨0, by omega, rfl, rfl⟩
 case round =>
  obtain ⟨k, hk, rfl, rfl⟩ := hrel
  by_cases hlt : k < 5
  ·have i0 : (0 : Int) ≤ (k : Int) := by omega
   have i1 : (k : Int) < 5 := by omega
   have hk1 := hs k
   have s0 := (ae HZ).cs_ hlt
   have HLS := ag (show bm h.n h.seat (k + 1) = match h.seat k with | some d => if d.y < bm h.n h.seat k then d.y else bm h.n h.seat k | none => bm h.n h.seat k from rfl)
   cases ho : st k with
   | none =>
     rw [ho] at s0 hk1
     rw [show ad none = none from rfl] at s0
     have E1 := ag (show bm h.n h.seat (k + 1) = bm h.n h.seat k by rw [ae HLS, ← hk1]; rfl)
     clear HLS hk1
     go_wp2_with fail
     exact ⟨⟨k + 1, by omega, by rw [ae E1], by go_num⟩, by simp [intOf]; omega⟩
   | some xx =>
     obtain ⟨D, d⟩ := xx
     rw [ho] at s0 hk1
     rw [show ad (some (D, d)) = some ⟨D, 0, none⟩ from rfl] at s0
     have E1 := ag (show bm h.n h.seat (k + 1) = if d.y < bm h.n h.seat k then d.y else bm h.n h.seat k by rw [ae HLS, ← hk1]; rfl)
     obtain ⟨H, ra, rc, wa, wc, hw⟩ := (ae HZ).wrk hlt ho
     have y1 := af (i := 1) (v := .int .i64 d.y) hw.box rfl
     clear HLS hk1 hw
     generalize bm h.n h.seat k = z at *
     by_cases hlt2 : d.y < z
     ·rw [if_pos hlt2] at E1
      go_wp2_with fail
      exact ⟨⟨k + 1, by omega, by rw [ae E1], by go_num⟩, by simp [intOf]; omega⟩
     ·rw [if_neg hlt2] at E1
      go_wp2_with fail
      exact ⟨⟨k + 1, by omega, by rw [ae E1], by go_num⟩, by simp [intOf]; omega⟩
  ·have e : k = 5 := by omega
   subst e
   go_wp2
   go_ret
   exact ⟨rfl, rfl⟩
end
def dC (w0 : World) (cb : Nat) (r : List ao) (h' : HSt) (v : Ev) (e : Ending) (w' : World) : Prop := ∃ sb' st' a cap, e = .returned (.agg #[.int .i64 v.c, .int .i64 v.n, .bool v.t, .string v.s, .slice a v.l.length cap]) ∧ Sts st' h'.seat ∧ Hid (SlO w' a v.l) ∧ Hid (Cou w0 w' cb sb' h' st' r)
theorem bY (w : World) (a : Option Addr) : SlO w a [] := fun h => by simp at h
theorem xG {w w' : World} {a : Option Addr} {l : List Ver} {S : List Nat} (h : SlO w a l) (hk : Kp S w w') (hS : ∀ x ∈ ob a, x ∉ S) : SlO w' a l := fun hp => by
 obtain ⟨g, o, e, hs⟩ := h hp
 subst e
 exact ⟨g, o, rfl, hs.kp hk (hS g (by simp [ob]))⟩
section
variable {w0 w : World} {cb sb : Nat} {h : HSt} {st : Nat → Sd} {r : List ao}
theorem qE (x : ax) (hx : x.d = 1) {j : Nat} (hj : x.s = (j : Int)) (h5 : j < 5) (hsd : st j = none) (hb0 : ba h.f h.n x.md x.at_ = 0) (hs : Sts st h.seat) (hz : Cou w0 w cb sb h st r) :
 Calls Tryz.prog 26 #[.pointer (some ⟨cb, 0, none⟩), .agg #[.int .i64 x.d, .int .i64 x.s, .int .i64 x.md, .int .i64 x.at_, .int .i64 x.key, .int .i64 x.to_, .int .i64 x.keep, .string x.b]] w fun e w' => dC w0 cb r (hdo h x) (hev h x) e w' := by
 have HS := ag hs
 have HX := ag (hz.two (xcs x) 55 #[.int .i64 0, .int .i64 0, .bool false, .string ⟨#[]⟩, .slice none 0 0] 74)
 have hjs : x.s.toNat = j := by omega
 have hsj : h.seat j = none := by rw [← hs j, hsd]; rfl
 have heq := (aW.began (h := h) (x := x) hx ⟨by omega, by omega⟩ (by rw [hjs]; exact hsj) hb0).eq
 rw [heq.1, heq.2]
 clear heq hz hs hsj
 have HB0 := ag hb0
 clear hb0
 obtain ⟨xd, xs, xm, xa, xk, xt, xp, xb⟩ := x
 dsimp only [xcs] at *
 subst hx hj
 have hsb : bE (j : Int) = true := decide_eq_true (by omega)
 have i0 : (0 : Int) ≤ (j : Int) := by omega
 have i5 : (j : Int) < 5 := by omega
 go_enter Tryz.func26, Tryz.ntmps26
 go_wp2_with fail
 generalize (w.alloc (.cells #[.int .i64 1, .int .i64 (j : Int), .int .i64 xm, .int .i64 xa, .int .i64 xk, .int .i64 xt, .int .i64 xp, .string xb] 55)).alloc (.cells #[.int .i64 0, .int .i64 0, .bool false, .string ⟨#[]⟩, .slice none 0 0] 74) = W at HX ⊢
 generalize w.heap.size = q at HX ⊢
 generalize q + 1 = p at HX ⊢
 have hq := (ae HX).var (mt (mh))
 have x0 : W.cell? ⟨q, 0, none⟩ = some (.int .i64 1) := af hq rfl
 have x1 : W.cell? ⟨q, 1, none⟩ = some (.int .i64 (j : Int)) := af hq rfl
 clear hq
 have s1 := (ae HX).cs_ h5
 rw [hsd] at s1
 rw [show ad none = none from rfl] at s1
 refine (ck (j : Int) _).mono ?_
 rintro e w' ⟨rfl, hw'⟩
 subst w'
 rw [hsb]
 go_wp2_with fail
 go_quiet (fail)
 have HX2 := ag ((ae HX).kp0 ((Kp.refl [] W).drewN nq))
 clear HX x0 x1 s1
 generalize W.drewN nq = W2 at HX2 ⊢
 have hq := (ae HX2).var (mt (mh))
 have x0 : W2.cell? ⟨q, 0, none⟩ = some (.int .i64 1) := af hq rfl
 have x1 : W2.cell? ⟨q, 1, none⟩ = some (.int .i64 (j : Int)) := af hq rfl
 have x2 : W2.cell? ⟨q, 2, none⟩ = some (.int .i64 xm) := af hq rfl
 have x3 : W2.cell? ⟨q, 3, none⟩ = some (.int .i64 xa) := af hq rfl
 have x4 : W2.cell? ⟨q, 4, none⟩ = some (.int .i64 xk) := af hq rfl
 have x5 : W2.cell? ⟨q, 5, none⟩ = some (.int .i64 xt) := af hq rfl
 have x6 : W2.cell? ⟨q, 6, none⟩ = some (.int .i64 xp) := af hq rfl
 have x7 : W2.cell? ⟨q, 7, none⟩ = some (.string xb) := af hq rfl
 have ql := ah hq
 clear hq
 go_wp2_with fail
 refine (wD (ae HB0) (ae HX2)).mono ?_
 rintro e w3 ⟨D, rfl, HY⟩
 clear x0 x1 x2 x3 x4 x5 x6 x7 ql HX2
 have hq := (ae HY).var (p := q) (mt (mt (mh)))
 have x1 : w3.cell? ⟨q, 1, none⟩ = some (.int .i64 (j : Int)) := af hq rfl
 clear hq
 have c2 := (ae HY).cs_ h5
 have f2 := (ae HY).fz (3 + j)
 rw [hsd] at c2
 rw [show ad none = none from rfl] at c2
 have HN := ag (((ae HY).sitNew (l1 := []) h5 hsd).kp0 (Kp.refl [] _).drew)
 go_wp2_with fail
 go_region
 clear x1 c2 f2 HY
 generalize World.drew _ = W4 at HN ⊢
 have HY := HN
 obtain ⟨e0, e1, e2, e3, e4, g0, g1, g2, g3, g4⟩ := evF ((ae HY).var (mh))
 go_wp2_with fail
 refine bodyPost_ret (v := .agg #[.int .i64 0, .int .i64 0, .bool false, .string ⟨#[]⟩, .slice none 0 0]) (by simp [results, Tryz.results26, go_sem, e0, e1, e2, e3, e4]) rfl ?_
 exact ⟨sb, upd st j (some (D, _)), none, 0, rfl, by show Sts _ (upd h.seat ((j : Int).toNat) _); rw [hjs]; exact (ae HS).put j (some (D, _)), bY _ _, ((ae HY).fin _ _ _ _ _).as rfl rfl rfl⟩
theorem lB (x : ax) (hx : x.d = 1) {j : Nat} (hj : x.s = (j : Int)) (h5 : j < 5) (hsd : st j = none) (hb0 : ¬ ba h.f h.n x.md x.at_ = 0) (hs : Sts st h.seat) (hz : Cou w0 w cb sb h st r) :
 Calls Tryz.prog 26 #[.pointer (some ⟨cb, 0, none⟩), .agg #[.int .i64 x.d, .int .i64 x.s, .int .i64 x.md, .int .i64 x.at_, .int .i64 x.key, .int .i64 x.to_, .int .i64 x.keep, .string x.b]] w fun e w' => dC w0 cb r (hdo h x) (hev h x) e w' := by
 have HS := ag hs
 have HX := ag (hz.two (xcs x) 55 #[.int .i64 0, .int .i64 0, .bool false, .string ⟨#[]⟩, .slice none 0 0] 74)
 have hjs : x.s.toNat = j := by omega
 have hsj : h.seat j = none := by rw [← hs j, hsd]; rfl
 have heq := (aW.beganNot (h := h) (x := x) hx ⟨by omega, by omega⟩ (by rw [hjs]; exact hsj) hb0).eq
 rw [heq.1, heq.2]
 clear heq hz hs hsj
 have HB0 := ag hb0
 clear hb0
 generalize hzz : ba h.f h.n x.md x.at_ = z at HB0 ⊢
 have HZ0 := ag hzz
 clear hzz
 obtain ⟨xd, xs, xm, xa, xk, xt, xp, xb⟩ := x
 dsimp only [xcs] at *
 subst hx hj
 have hsb : bE (j : Int) = true := decide_eq_true (by omega)
 have i0 : (0 : Int) ≤ (j : Int) := by omega
 have i5 : (j : Int) < 5 := by omega
 go_enter Tryz.func26, Tryz.ntmps26
 go_wp2_with fail
 generalize (w.alloc (.cells #[.int .i64 1, .int .i64 (j : Int), .int .i64 xm, .int .i64 xa, .int .i64 xk, .int .i64 xt, .int .i64 xp, .string xb] 55)).alloc (.cells #[.int .i64 0, .int .i64 0, .bool false, .string ⟨#[]⟩, .slice none 0 0] 74) = W at HX ⊢
 generalize w.heap.size = q at HX ⊢
 generalize q + 1 = p at HX ⊢
 have hq := (ae HX).var (mt (mh))
 have x0 : W.cell? ⟨q, 0, none⟩ = some (.int .i64 1) := af hq rfl
 have x1 : W.cell? ⟨q, 1, none⟩ = some (.int .i64 (j : Int)) := af hq rfl
 clear hq
 have s1 := (ae HX).cs_ h5
 rw [hsd] at s1
 rw [show ad none = none from rfl] at s1
 refine (ck (j : Int) _).mono ?_
 rintro e w' ⟨rfl, hw'⟩
 subst w'
 rw [hsb]
 go_wp2_with fail
 go_quiet (fail)
 have HX2 := ag ((ae HX).kp0 ((Kp.refl [] W).drewN nq))
 clear HX x0 x1 s1
 generalize W.drewN nq = W2 at HX2 ⊢
 have hq := (ae HX2).var (mt (mh))
 have x0 : W2.cell? ⟨q, 0, none⟩ = some (.int .i64 1) := af hq rfl
 have x1 : W2.cell? ⟨q, 1, none⟩ = some (.int .i64 (j : Int)) := af hq rfl
 have x2 : W2.cell? ⟨q, 2, none⟩ = some (.int .i64 xm) := af hq rfl
 have x3 : W2.cell? ⟨q, 3, none⟩ = some (.int .i64 xa) := af hq rfl
 have x4 : W2.cell? ⟨q, 4, none⟩ = some (.int .i64 xk) := af hq rfl
 have x5 : W2.cell? ⟨q, 5, none⟩ = some (.int .i64 xt) := af hq rfl
 have x6 : W2.cell? ⟨q, 6, none⟩ = some (.int .i64 xp) := af hq rfl
 have x7 : W2.cell? ⟨q, 7, none⟩ = some (.string xb) := af hq rfl
 have ql := ah hq
 clear hq
 go_wp2_with fail
 refine (yV (ae HZ0) (ae HB0) (ae HX2)).mono ?_
 rintro e w3 ⟨rfl, HY⟩
 clear x0 x1 x2 x3 x4 x5 x6 x7 ql HX2
 have hq := (ae HY).var (p := q) (mt (mh))
 have x1 : w3.cell? ⟨q, 1, none⟩ = some (.int .i64 (j : Int)) := af hq rfl
 clear hq
 have c2 := (ae HY).cs_ h5
 have f2 := (ae HY).fz (3 + j)
 rw [hsd] at c2
 rw [show ad none = none from rfl] at c2
 have HN := ag ((by have h9 := (ae HY).leave h5; rw [rg hsd] at h9; exact (h9.tail).kp0 (Kp.refl [] _).drew : Cou w0 _ cb sb h st _))
 go_wp2_with fail
 go_region
 clear x1 c2 f2 HY
 generalize World.drew _ = W4 at HN ⊢
 have HY := HN
 obtain ⟨e0, e1, e2, e3, e4, g0, g1, g2, g3, g4⟩ := evF ((ae HY).var (mh))
 go_wp2_with fail
 refine bodyPost_ret (v := .agg #[.int .i64 z, .int .i64 0, .bool false, .string ⟨#[]⟩, .slice none 0 0]) (by simp [results, Tryz.results26, go_sem, e0, e1, e2, e3, e4]) rfl ?_
 exact ⟨sb, st, none, 0, rfl, ae HS, bY _ _, (ae HY).fin _ _ _ _ _⟩
theorem nJ (x : ax) (hx : x.d = 6) {j D : Nat} {d : Dp} (hj : x.s = (j : Int)) (h5 : j < 5) (hsd : st j = some (D, d)) (hs : Sts st h.seat) (hz : Cou w0 w cb sb h st r) (hi : bT h) (hrl : d.rs.length ≤ 2000) (hwl : d.ws.length ≤ 900) :
 Calls Tryz.prog 26 #[.pointer (some ⟨cb, 0, none⟩), .agg #[.int .i64 x.d, .int .i64 x.s, .int .i64 x.md, .int .i64 x.at_, .int .i64 x.key, .int .i64 x.to_, .int .i64 x.keep, .string x.b]] w fun e w' => dC w0 cb r (hdo h x) (hev h x) e w' := by
 have HS := ag hs
 have HX := ag (hz.two (xcs x) 55 #[.int .i64 0, .int .i64 0, .bool false, .string ⟨#[]⟩, .slice none 0 0] 74)
 have hjs : x.s.toNat = j := by omega
 have hsj : h.seat j = some d := by rw [← hs j, hsd]; rfl
 have heq := (aW.commit (h := h) (x := x) d hx ⟨by omega, by omega⟩ (by rw [hjs]; exact hsj)).eq
 rw [heq.1, heq.2]
 clear heq hz hs hsj
 have HI := ag hi
 have HW := ag (hi.ok j d (by rw [← ae HS j, hsd]; rfl))
 clear hi
 obtain ⟨xd, xs, xm, xa, xk, xt, xp, xb⟩ := x
 dsimp only [xcs] at *
 subst hx hj
 have hsb : bE (j : Int) = true := decide_eq_true (by omega)
 have i0 : (0 : Int) ≤ (j : Int) := by omega
 have i5 : (j : Int) < 5 := by omega
 go_enter Tryz.func26, Tryz.ntmps26
 go_wp2_with fail
 generalize (w.alloc (.cells #[.int .i64 6, .int .i64 (j : Int), .int .i64 xm, .int .i64 xa, .int .i64 xk, .int .i64 xt, .int .i64 xp, .string xb] 55)).alloc (.cells #[.int .i64 0, .int .i64 0, .bool false, .string ⟨#[]⟩, .slice none 0 0] 74) = W at HX ⊢
 generalize w.heap.size = q at HX ⊢
 generalize q + 1 = p at HX ⊢
 have hq := (ae HX).var (mt (mh))
 have x0 : W.cell? ⟨q, 0, none⟩ = some (.int .i64 6) := af hq rfl
 have x1 : W.cell? ⟨q, 1, none⟩ = some (.int .i64 (j : Int)) := af hq rfl
 clear hq
 have s1 := (ae HX).cs_ h5
 rw [hsd] at s1
 rw [show ad (some (D, d)) = some ⟨D, 0, none⟩ from rfl] at s1
 refine (ck (j : Int) _).mono ?_
 rintro e w' ⟨rfl, hw'⟩
 subst w'
 rw [hsb]
 go_wp2_with fail
 go_quiet (fail)
 have HX2 := ag ((ae HX).kp0 ((Kp.refl [] W).drewN nq))
 clear HX x0 x1 s1
 generalize W.drewN nq = W2 at HX2 ⊢
 have hq := (ae HX2).var (mt (mh))
 have x0 : W2.cell? ⟨q, 0, none⟩ = some (.int .i64 6) := af hq rfl
 have x1 : W2.cell? ⟨q, 1, none⟩ = some (.int .i64 (j : Int)) := af hq rfl
 have x2 : W2.cell? ⟨q, 2, none⟩ = some (.int .i64 xm) := af hq rfl
 have x3 : W2.cell? ⟨q, 3, none⟩ = some (.int .i64 xa) := af hq rfl
 have x4 : W2.cell? ⟨q, 4, none⟩ = some (.int .i64 xk) := af hq rfl
 have x5 : W2.cell? ⟨q, 5, none⟩ = some (.int .i64 xt) := af hq rfl
 have x6 : W2.cell? ⟨q, 6, none⟩ = some (.int .i64 xp) := af hq rfl
 have x7 : W2.cell? ⟨q, 7, none⟩ = some (.string xb) := af hq rfl
 have ql := ah hq
 clear hq
 go_wp2_with fail
 refine (tQ (ae HI) h5 hsd (ae HW) hrl hwl (ae HX2)).mono ?_
 rintro e w3 ⟨rfl, HY⟩
 clear x0 x1 x2 x3 x4 x5 x6 x7 ql HX2
 have hq := (ae HY).var (p := q) (mt (mh))
 have x1 : w3.cell? ⟨q, 1, none⟩ = some (.int .i64 (j : Int)) := af hq rfl
 clear hq
 have c2 := (ae HY).cs_ h5
 have f2 := (ae HY).fz (3 + j)
 have HN := ag (((ae HY).leave h5).tail.kp0 (Kp.refl [] _).drew)
 go_wp2_with fail
 go_region
 clear x1 c2 f2 HY
 generalize World.drew _ = W4 at HN ⊢
 have HY := HN
 obtain ⟨e0, e1, e2, e3, e4, g0, g1, g2, g3, g4⟩ := evF ((ae HY).var (mh))
 go_wp2_with fail
 refine bodyPost_ret (v := .agg #[.int .i64 (bl h.f h.cs d.md d.y d.rs d.ws), .int .i64 (fV h.f h.n h.cs d.md d.y d.rs d.ws), .bool false, .string ⟨#[]⟩, .slice none 0 0]) (by simp [results, Tryz.results26, go_sem, e0, e1, e2, e3, e4]) rfl ?_
 exact ⟨sb, _, none, 0, rfl, by show Sts _ (upd h.seat ((j : Int).toNat) none); rw [hjs]; exact (ae HS).put j none, bY _ _, ((ae HY).fin _ _ _ _ _).as rfl rfl rfl⟩
end
theorem oh (a b x y : Value) : ((#[a, b] : Array Value).setIfInBounds 0 x).setIfInBounds 1 y = #[x, y] := rfl
section
variable {w0 w : World} {cb sb : Nat} {h : HSt} {st : Nat → Sd} {r : List ao}
theorem wz (x : ax) (hx : x.d = 2) {j D : Nat} {d : Dp} (hj : x.s = (j : Int)) (h5 : j < 5) (hsd : st j = some (D, d)) (hs : Sts st h.seat) (hz : Cou w0 w cb sb h st r) (hrl : d.rs.length ≤ 2000) (hwl : d.ws.length ≤ 900) :
 Calls Tryz.prog 26 #[.pointer (some ⟨cb, 0, none⟩), .agg #[.int .i64 x.d, .int .i64 x.s, .int .i64 x.md, .int .i64 x.at_, .int .i64 x.key, .int .i64 x.to_, .int .i64 x.keep, .string x.b]] w fun e w' => dC w0 cb r (hdo h x) (hev h x) e w' := by
 have HS := ag hs
 have HX := ag (hz.two (xcs x) 55 #[.int .i64 0, .int .i64 0, .bool false, .string ⟨#[]⟩, .slice none 0 0] 74)
 have hjs : x.s.toNat = j := by omega
 have hsj : h.seat j = some d := by rw [← hs j, hsd]; rfl
 have heq := (aW.get (h := h) (x := x) d hx ⟨by omega, by omega⟩ (by rw [hjs]; exact hsj)).eq
 rw [heq.1, heq.2]
 clear heq hz hs hsj
 obtain ⟨v, hv⟩ : ∃ v, dg h.f h.n d.y d.ws x.key = v := ⟨_, rfl⟩
 have HV := ag hv
 rw [hv]
 clear hv
 obtain ⟨xd, xs, xm, xa, xk, xt, xp, xb⟩ := x
 dsimp only [xcs] at *
 subst hx hj
 have hsb : bE (j : Int) = true := decide_eq_true (by omega)
 have i0 : (0 : Int) ≤ (j : Int) := by omega
 have i5 : (j : Int) < 5 := by omega
 go_enter Tryz.func26, Tryz.ntmps26
 go_wp2_with fail
 generalize (w.alloc (.cells #[.int .i64 2, .int .i64 (j : Int), .int .i64 xm, .int .i64 xa, .int .i64 xk, .int .i64 xt, .int .i64 xp, .string xb] 55)).alloc (.cells #[.int .i64 0, .int .i64 0, .bool false, .string ⟨#[]⟩, .slice none 0 0] 74) = W at HX ⊢
 generalize w.heap.size = q at HX ⊢
 generalize q + 1 = p at HX ⊢
 have hq := (ae HX).var (mt (mh))
 have x0 : W.cell? ⟨q, 0, none⟩ = some (.int .i64 2) := af hq rfl
 have x1 : W.cell? ⟨q, 1, none⟩ = some (.int .i64 (j : Int)) := af hq rfl
 clear hq
 have s1 := (ae HX).cs_ h5
 rw [hsd] at s1
 rw [show ad (some (D, d)) = some ⟨D, 0, none⟩ from rfl] at s1
 refine (ck (j : Int) _).mono ?_
 rintro e w' ⟨rfl, hw'⟩
 subst w'
 rw [hsb]
 go_wp2_with fail
 go_quiet (fail)
 have HX2 := ag ((ae HX).kp0 ((Kp.refl [] W).drewN nq))
 clear HX x0 x1 s1
 generalize W.drewN nq = W2 at HX2 ⊢
 have hq := (ae HX2).var (mt (mh))
 have x0 : W2.cell? ⟨q, 0, none⟩ = some (.int .i64 2) := af hq rfl
 have x1 : W2.cell? ⟨q, 1, none⟩ = some (.int .i64 (j : Int)) := af hq rfl
 have x2 : W2.cell? ⟨q, 2, none⟩ = some (.int .i64 xm) := af hq rfl
 have x3 : W2.cell? ⟨q, 3, none⟩ = some (.int .i64 xa) := af hq rfl
 have x4 : W2.cell? ⟨q, 4, none⟩ = some (.int .i64 xk) := af hq rfl
 have x5 : W2.cell? ⟨q, 5, none⟩ = some (.int .i64 xt) := af hq rfl
 have x6 : W2.cell? ⟨q, 6, none⟩ = some (.int .i64 xp) := af hq rfl
 have x7 : W2.cell? ⟨q, 7, none⟩ = some (.string xb) := af hq rfl
 have ql := ah hq
 clear hq
 go_wp2_with fail
 have HXD := ag ((ae HX2).kp0 (Kp.refl [] _).drew)
 clear x0 x1 x2 x3 x4 x5 x6 x7 ql HX2
 have c0 := (ae HXD).c0
 have hq := (ae HXD).var (p := q) (mt (mh))
 have x4 := af (i := 4) (v := .int .i64 xk) hq rfl
 clear hq
 refine wp_region_held_drew (S := fun w' => w'.cell? ⟨cb, 0, none⟩ = some (.pointer (some ⟨sb, 0, none⟩)) ∧ w'.cell? ⟨q, 4, none⟩ = some (.int .i64 xk)) (by kernel_rfl) ⟨c0, x4⟩ (fun hHeld => ?_)
 clear c0 x4
 generalize World.drew _ = WD at HXD hHeld ⊢
 refine tk 0 ?_ rfl (by kernel_rfl) (fun _ _ _ h => h) (by rfl) ?_ hHeld ?_;rotate_left;· intro w hSw;(try dsimp only at hSw);go_simp;try with_reducible rfl
 try simp only [Act.put, sx, sy, sz]
 refine tk 1 ?_ rfl (by kernel_rfl) (fun _ _ _ h => h) (by rfl) ?_ hHeld ?_;rotate_left;· intro w hSw;(try dsimp only at hSw);go_simp;try with_reducible rfl
 try simp only [Act.put, sx, sy, sz]
 refine tk 2 ?_ rfl (by kernel_rfl) (fun _ _ _ h => h) (by rfl) ?_ hHeld ?_;rotate_left;· intro w hSw;(try dsimp only at hSw);go_simp;try with_reducible rfl
 try simp only [Act.put, sx, sy, sz]
 refine tk 3 ?_ rfl (by kernel_rfl) (fun _ _ _ h => h) (by rfl) ?_ hHeld ?_;rotate_left;· intro w hSw;(try dsimp only at hSw);go_simp;try with_reducible rfl
 try simp only [Act.put, sx, sy, sz]
 refine tk 4 ?_ rfl (by kernel_rfl) (fun _ _ _ h => h) (by rfl) ?_ hHeld ?_;rotate_left;· intro w hSw;(try dsimp only at hSw);go_simp;try with_reducible rfl
 try simp only [Act.put, sx, sy, sz]
 refine tk 5 ?_ rfl (by kernel_rfl) (fun _ _ _ h => h) (by rfl) ?_ hHeld ?_;rotate_left;· intro w hSw;(try dsimp only at hSw);go_simp;try with_reducible rfl
 try simp only [Act.put, sx, sy, sz]
 refine tk 6 ?_ rfl (by kernel_rfl) (fun _ _ _ h => h) (by rfl) ?_ hHeld ?_;rotate_left;· intro w hSw;(try dsimp only at hSw);go_simp;try with_reducible rfl
 try simp only [Act.put, sx, sy, sz]
 refine bK (i := 7) (j := 11) rfl rfl (by kernel_rfl) (fun K hK => ?_) (fun K hK => ?_)
 ·go_simp
  refine (xe xk h5 hsd hrl hwl (ae HXD)).mono ?_
  rintro e w11 ⟨rfl, HC11⟩
  rw [ae HV]
  have hq2 := (ae HC11).var (p := q) (mt (mh))
  have y4 := af (i := 4) (v := .int .i64 xk) hq2 rfl
  clear hq2
  go_wp2_with fail
  refine hK.out _ _ (⟨(ae HC11).c0, y4⟩) (fun hHeld2 => ?_)
  clear hK K hHeld
  have hHeld := hHeld2
  clear hHeld2
  try simp only [Act.put, sx, sy, sz]
  clear y4
  refine tk 8 ?_ rfl (by kernel_rfl) (fun _ _ _ h => h) (by rfl) ?_ hHeld ?_;rotate_left;· intro w hSw;(try dsimp only at hSw);go_simp;try with_reducible rfl
  try simp only [Act.put, sx, sy, sz]
  refine tk 9 ?_ rfl (by kernel_rfl) (fun _ _ _ h => h) (by rfl) ?_ hHeld ?_;rotate_left;· intro w hSw;(try dsimp only at hSw);go_simp;try with_reducible rfl
  try simp only [Act.put, sx, sy, sz]
  refine tk 10 ?_ rfl (by kernel_rfl) (fun _ _ _ h => h) (by rfl) ?_ hHeld ?_;rotate_left;· intro w hSw;(try dsimp only at hSw);go_simp;try with_reducible rfl
  try simp only [Act.put, sx, sy, sz]
  refine aj (i := 11) rfl (by kernel_rfl) (fun K hK => ?_)
  go_simp
  have HCA := ag ((ae HC11).new #[.bool false, .string ⟨#[]⟩] 24)
  have hq2 := (ae HCA).var (p := q) (mt (mt (mh)))
  have y4 := af (i := 4) (v := .int .i64 xk) hq2 rfl
  have y0 := (ae HCA).c0
  clear hq2
  refine hK.out _ _ (⟨y0, y4⟩) (fun hHeld2 => ?_)
  clear hK K hHeld
  have hHeld := hHeld2
  clear hHeld2
  try simp only [Act.put, sx, sy, sz]
  clear y4 y0
  generalize hp3 : w11.heap.size = p3 at HCA ⊢
  clear hp3
  refine aj (i := 12) rfl (by kernel_rfl) (fun K hK => ?_)
  have hv3 := (ae HCA).var (p := p3) (mh)
  have z0 := af (i := 0) (v := .bool false) hv3 rfl
  have z1 := af (i := 1) (v := .string ⟨#[]⟩) hv3 rfl
  have f0 := ak 0 hv3
  have f1 := ak 1 hv3
  clear hv3
  go_simp
  have HCE := ag (((ae HCA).set0 0 (.bool v.t)).set0 1 (.string v.s))
  have hq2 := (ae HCE).var (p := q) (mt (mt (mh)))
  have y4 := af (i := 4) (v := .int .i64 xk) hq2 rfl
  have y0 := (ae HCE).c0
  clear hq2 z0 z1 f0 f1
  refine hK.out _ _ (⟨y0, y4⟩) (fun hHeld2 => ?_)
  clear hK K hHeld
  have hHeld := hHeld2
  clear hHeld2
  try simp only [Act.put, sx, sy, sz]
  clear y0 y4
  refine tk 13 ?_ rfl (by kernel_rfl) (fun _ _ _ h => h) (by rfl) ?_ hHeld ?_;rotate_left;· intro w hSw;(try dsimp only at hSw);go_simp;try with_reducible rfl
  try simp only [Act.put, sx, sy, sz]
  refine wpAnyH_done (by kernel_rfl) ?_ _
  clear hHeld
  rw [oh] at HCE
  generalize World.setCell _ _ _ = W5 at HCE ⊢
  have hv3 := (ae HCE).var (p := p3) (mh)
  have z0 := af (i := 0) (v := .bool v.t) hv3 rfl
  have z1 := af (i := 1) (v := .string v.s) hv3 rfl
  clear hv3
  obtain ⟨e0, e1, e2, e3, e4, g0, g1, g2, g3, g4⟩ := evF ((ae HCE).var (p := p) (mt (mh)))
  go_wp2_with fail
  refine bodyPost_ret (v := .agg #[.int .i64 v.a, .int .i64 0, .bool v.t, .string v.s, .slice none 0 0]) (by simp [results, Tryz.results26, go_sem, e0, e1, e2, e3, e4]) rfl ?_
  exact ⟨sb, _, none, 0, rfl, by show Sts _ (upd h.seat ((j : Int).toNat) _); rw [hjs]; exact (ae HS).put j (some (D, _)), bY _ _, (((ae HCE).tail).fin _ _ _ _ _).as rfl rfl rfl⟩
 ·go_simp
  have HCA := ag ((ae HXD).new #[.bool false, .string ⟨#[]⟩] 24)
  have hq2 := (ae HCA).var (p := q) (mt (mt (mh)))
  have y4 := af (i := 4) (v := .int .i64 xk) hq2 rfl
  have y0 := (ae HCA).c0
  clear hq2
  refine hK.out _ _ (⟨y0, y4⟩) (fun hHeld2 => ?_)
  clear hK K hHeld
  have hHeld := hHeld2
  clear hHeld2
  try simp only [Act.put, sx, sy, sz]
  clear y4 y0
  generalize hp3 : WD.heap.size = p3 at HCA ⊢
  clear hp3
  refine aj (i := 7) rfl (by kernel_rfl) (fun K hK => ?_)
  go_simp
  refine (xe xk h5 hsd hrl hwl (ae HCA)).mono ?_
  rintro e w11 ⟨rfl, HC11⟩
  rw [ae HV]
  have hq2 := (ae HC11).var (p := q) (mt (mt (mh)))
  have y4 := af (i := 4) (v := .int .i64 xk) hq2 rfl
  clear hq2
  go_wp2_with fail
  refine hK.out _ _ (⟨(ae HC11).c0, y4⟩) (fun hHeld2 => ?_)
  clear hK K hHeld
  have hHeld := hHeld2
  clear hHeld2
  try simp only [Act.put, sx, sy, sz]
  clear y4
  refine tk 8 ?_ rfl (by kernel_rfl) (fun _ _ _ h => h) (by rfl) ?_ hHeld ?_;rotate_left;· intro w hSw;(try dsimp only at hSw);go_simp;try with_reducible rfl
  try simp only [Act.put, sx, sy, sz]
  refine tk 9 ?_ rfl (by kernel_rfl) (fun _ _ _ h => h) (by rfl) ?_ hHeld ?_;rotate_left;· intro w hSw;(try dsimp only at hSw);go_simp;try with_reducible rfl
  try simp only [Act.put, sx, sy, sz]
  refine tk 10 ?_ rfl (by kernel_rfl) (fun _ _ _ h => h) (by rfl) ?_ hHeld ?_;rotate_left;· intro w hSw;(try dsimp only at hSw);go_simp;try with_reducible rfl
  try simp only [Act.put, sx, sy, sz]
  refine aj (i := 12) rfl (by kernel_rfl) (fun K hK => ?_)
  have hv3 := (ae HC11).var (p := p3) (mh)
  have z0 := af (i := 0) (v := .bool false) hv3 rfl
  have z1 := af (i := 1) (v := .string ⟨#[]⟩) hv3 rfl
  have f0 := ak 0 hv3
  have f1 := ak 1 hv3
  clear hv3
  go_simp
  have HCE := ag (((ae HC11).set0 0 (.bool v.t)).set0 1 (.string v.s))
  have hq2 := (ae HCE).var (p := q) (mt (mt (mh)))
  have y4 := af (i := 4) (v := .int .i64 xk) hq2 rfl
  have y0 := (ae HCE).c0
  clear hq2 z0 z1 f0 f1
  refine hK.out _ _ (⟨y0, y4⟩) (fun hHeld2 => ?_)
  clear hK K hHeld
  have hHeld := hHeld2
  clear hHeld2
  try simp only [Act.put, sx, sy, sz]
  clear y0 y4
  refine tk 13 ?_ rfl (by kernel_rfl) (fun _ _ _ h => h) (by rfl) ?_ hHeld ?_;rotate_left;· intro w hSw;(try dsimp only at hSw);go_simp;try with_reducible rfl
  try simp only [Act.put, sx, sy, sz]
  refine wpAnyH_done (by kernel_rfl) ?_ _
  clear hHeld
  rw [oh] at HCE
  generalize World.setCell _ _ _ = W5 at HCE ⊢
  have hv3 := (ae HCE).var (p := p3) (mh)
  have z0 := af (i := 0) (v := .bool v.t) hv3 rfl
  have z1 := af (i := 1) (v := .string v.s) hv3 rfl
  clear hv3
  obtain ⟨e0, e1, e2, e3, e4, g0, g1, g2, g3, g4⟩ := evF ((ae HCE).var (p := p) (mt (mh)))
  go_wp2_with fail
  refine bodyPost_ret (v := .agg #[.int .i64 v.a, .int .i64 0, .bool v.t, .string v.s, .slice none 0 0]) (by simp [results, Tryz.results26, go_sem, e0, e1, e2, e3, e4]) rfl ?_
  exact ⟨sb, _, none, 0, rfl, by show Sts _ (upd h.seat ((j : Int).toNat) _); rw [hjs]; exact (ae HS).put j (some (D, _)), bY _ _, (((ae HCE).tail).fin _ _ _ _ _).as rfl rfl rfl⟩
theorem tK (x : ax) (hx : x.d = 5) {j D : Nat} {d : Dp} (hj : x.s = (j : Int)) (h5 : j < 5) (hsd : st j = some (D, d)) (hs : Sts st h.seat) (hz : Cou w0 w cb sb h st r) (hrl : d.rs.length ≤ 2000) (hwl : d.ws.length ≤ 900) :
 Calls Tryz.prog 26 #[.pointer (some ⟨cb, 0, none⟩), .agg #[.int .i64 x.d, .int .i64 x.s, .int .i64 x.md, .int .i64 x.at_, .int .i64 x.key, .int .i64 x.to_, .int .i64 x.keep, .string x.b]] w fun e w' => dC w0 cb r (hdo h x) (hev h x) e w' := by
 have HS := ag hs
 have HX := ag (hz.two (xcs x) 55 #[.int .i64 0, .int .i64 0, .bool false, .string ⟨#[]⟩, .slice none 0 0] 74)
 have hjs : x.s.toNat = j := by omega
 have hsj : h.seat j = some d := by rw [← hs j, hsd]; rfl
 have heq := (aW.list (h := h) (x := x) d hx ⟨by omega, by omega⟩ (by rw [hjs]; exact hsj)).eq
 rw [heq.1, heq.2]
 clear heq hz hs hsj
 obtain ⟨xd, xs, xm, xa, xk, xt, xp, xb⟩ := x
 dsimp only [xcs] at *
 subst hx hj
 have hsb : bE (j : Int) = true := decide_eq_true (by omega)
 have i0 : (0 : Int) ≤ (j : Int) := by omega
 have i5 : (j : Int) < 5 := by omega
 go_enter Tryz.func26, Tryz.ntmps26
 go_wp2_with fail
 generalize (w.alloc (.cells #[.int .i64 5, .int .i64 (j : Int), .int .i64 xm, .int .i64 xa, .int .i64 xk, .int .i64 xt, .int .i64 xp, .string xb] 55)).alloc (.cells #[.int .i64 0, .int .i64 0, .bool false, .string ⟨#[]⟩, .slice none 0 0] 74) = W at HX ⊢
 generalize w.heap.size = q at HX ⊢
 generalize q + 1 = p at HX ⊢
 have hq := (ae HX).var (mt (mh))
 have x0 : W.cell? ⟨q, 0, none⟩ = some (.int .i64 5) := af hq rfl
 have x1 : W.cell? ⟨q, 1, none⟩ = some (.int .i64 (j : Int)) := af hq rfl
 clear hq
 have s1 := (ae HX).cs_ h5
 rw [hsd] at s1
 rw [show ad (some (D, d)) = some ⟨D, 0, none⟩ from rfl] at s1
 refine (ck (j : Int) _).mono ?_
 rintro e w' ⟨rfl, hw'⟩
 subst w'
 rw [hsb]
 go_wp2_with fail
 go_quiet (fail)
 have HX2 := ag ((ae HX).kp0 ((Kp.refl [] W).drewN nq))
 clear HX x0 x1 s1
 generalize W.drewN nq = W2 at HX2 ⊢
 have hq := (ae HX2).var (mt (mh))
 have x0 : W2.cell? ⟨q, 0, none⟩ = some (.int .i64 5) := af hq rfl
 have x1 : W2.cell? ⟨q, 1, none⟩ = some (.int .i64 (j : Int)) := af hq rfl
 have x2 : W2.cell? ⟨q, 2, none⟩ = some (.int .i64 xm) := af hq rfl
 have x3 : W2.cell? ⟨q, 3, none⟩ = some (.int .i64 xa) := af hq rfl
 have x4 : W2.cell? ⟨q, 4, none⟩ = some (.int .i64 xk) := af hq rfl
 have x5 : W2.cell? ⟨q, 5, none⟩ = some (.int .i64 xt) := af hq rfl
 have x6 : W2.cell? ⟨q, 6, none⟩ = some (.int .i64 xp) := af hq rfl
 have x7 : W2.cell? ⟨q, 7, none⟩ = some (.string xb) := af hq rfl
 have ql := ah hq
 clear hq
 go_wp2_with fail
 have HXD := ag ((ae HX2).kp0 (Kp.refl [] _).drew)
 clear x0 x1 x2 x3 x4 x5 x6 x7 ql HX2
 have c0 := (ae HXD).c0
 have hq := (ae HXD).var (p := q) (mt (mh))
 have x4 := af (i := 4) (v := .int .i64 xk) hq rfl
 have x5 := af (i := 5) (v := .int .i64 xt) hq rfl
 clear hq
 have hpl := ah ((ae HXD).var (p := p) (mh))
 have HPL := ag hpl
 clear hpl
 refine wp_region_held_drew (S := fun w' => w'.cell? ⟨cb, 0, none⟩ = some (.pointer (some ⟨sb, 0, none⟩)) ∧ w'.cell? ⟨q, 4, none⟩ = some (.int .i64 xk) ∧ w'.cell? ⟨q, 5, none⟩ = some (.int .i64 xt)) (by kernel_rfl) ⟨c0, x4, x5⟩ (fun hHeld => ?_)
 clear c0 x4 x5
 generalize World.drew _ = WD at HXD HPL hHeld ⊢
 refine tk 0 ?_ rfl (by kernel_rfl) (fun _ _ _ h => h) (by rfl) ?_ hHeld ?_;rotate_left;· intro w hSw;(try dsimp only at hSw);go_simp;try with_reducible rfl
 try simp only [Act.put, sx, sy, sz]
 refine tk 1 ?_ rfl (by kernel_rfl) (fun _ _ _ h => h) (by rfl) ?_ hHeld ?_;rotate_left;· intro w hSw;(try dsimp only at hSw);go_simp;try with_reducible rfl
 try simp only [Act.put, sx, sy, sz]
 refine tk 2 ?_ rfl (by kernel_rfl) (fun _ _ _ h => h) (by rfl) ?_ hHeld ?_;rotate_left;· intro w hSw;(try dsimp only at hSw);go_simp;try with_reducible rfl
 try simp only [Act.put, sx, sy, sz]
 refine tk 3 ?_ rfl (by kernel_rfl) (fun _ _ _ h => h) (by rfl) ?_ hHeld ?_;rotate_left;· intro w hSw;(try dsimp only at hSw);go_simp;try with_reducible rfl
 try simp only [Act.put, sx, sy, sz]
 refine tk 4 ?_ rfl (by kernel_rfl) (fun _ _ _ h => h) (by rfl) ?_ hHeld ?_;rotate_left;· intro w hSw;(try dsimp only at hSw);go_simp;try with_reducible rfl
 try simp only [Act.put, sx, sy, sz]
 refine tk 5 ?_ rfl (by kernel_rfl) (fun _ _ _ h => h) (by rfl) ?_ hHeld ?_;rotate_left;· intro w hSw;(try dsimp only at hSw);go_simp;try with_reducible rfl
 try simp only [Act.put, sx, sy, sz]
 refine tk 6 ?_ rfl (by kernel_rfl) (fun _ _ _ h => h) (by rfl) ?_ hHeld ?_;rotate_left;· intro w hSw;(try dsimp only at hSw);go_simp;try with_reducible rfl
 try simp only [Act.put, sx, sy, sz]
 refine tk 7 ?_ rfl (by kernel_rfl) (fun _ _ _ h => h) (by rfl) ?_ hHeld ?_;rotate_left;· intro w hSw;(try dsimp only at hSw);go_simp;try with_reducible rfl
 try simp only [Act.put, sx, sy, sz]
 refine tk 8 ?_ rfl (by kernel_rfl) (fun _ _ _ h => h) (by rfl) ?_ hHeld ?_;rotate_left;· intro w hSw;(try dsimp only at hSw);go_simp;try with_reducible rfl
 try simp only [Act.put, sx, sy, sz]
 refine aj (i := 9) rfl (by kernel_rfl) (fun K hK => ?_)
 go_simp
 refine (yW xk xt h5 hsd hrl hwl (ae HXD)).mono ?_
 rintro e w11 ⟨a, cap, rfl, HSL, HFR, HY⟩
 have hq2 := (ae HY).var (p := q) (mt (mh))
 have y4 := af (i := 4) (v := .int .i64 xk) hq2 rfl
 have y5 := af (i := 5) (v := .int .i64 xt) hq2 rfl
 clear hq2
 go_wp2_with fail
 refine hK.out _ _ (⟨(ae HY).c0, y4, y5⟩) (fun hHeld2 => ?_)
 clear hK K hHeld
 have hHeld := hHeld2
 clear hHeld2
 try simp only [Act.put, sx, sy, sz]
 clear y4 y5
 refine tk 10 ?_ rfl (by kernel_rfl) (fun _ _ _ h => h) (by rfl) ?_ hHeld ?_;rotate_left;· intro w hSw;(try dsimp only at hSw);go_simp;try with_reducible rfl
 try simp only [Act.put, sx, sy, sz]
 refine tk 11 ?_ rfl (by kernel_rfl) (fun _ _ _ h => h) (by rfl) ?_ hHeld ?_;rotate_left;· intro w hSw;(try dsimp only at hSw);go_simp;try with_reducible rfl
 try simp only [Act.put, sx, sy, sz]
 refine tk 12 ?_ rfl (by kernel_rfl) (fun _ _ _ h => h) (by rfl) ?_ hHeld ?_;rotate_left;· intro w hSw;(try dsimp only at hSw);go_simp;try with_reducible rfl
 try simp only [Act.put, sx, sy, sz]
 refine tk 13 ?_ rfl (by kernel_rfl) (fun _ _ _ h => h) (by rfl) ?_ hHeld ?_;rotate_left;· intro w hSw;(try dsimp only at hSw);go_simp;try with_reducible rfl
 try simp only [Act.put, sx, sy, sz]
 refine tk 14 ?_ rfl (by kernel_rfl) (fun _ _ _ h => h) (by rfl) ?_ hHeld ?_;rotate_left;· intro w hSw;(try dsimp only at hSw);go_simp;try with_reducible rfl
 try simp only [Act.put, sx, sy, sz]
 refine wpAnyH_done (by kernel_rfl) ?_ _
 clear hHeld
 obtain ⟨e0, e1, e2, e3, e4, g0, g1, g2, g3, g4⟩ := evF ((ae HY).var (mh))
 go_wp2_with fail
 refine bodyPost_ret (v := .agg #[.int .i64 (dls h.f h.n d.y d.ws d.rs xk xt).2.1, .int .i64 0, .bool false, .string ⟨#[]⟩, .slice a (dls h.f h.n d.y d.ws d.rs xk xt).1.length cap]) (by simp [results, Tryz.results26, go_sem, e0, e1, e2, e3, e4]) rfl ?_
 exact ⟨sb, _, a, cap, rfl, by show Sts _ (upd h.seat ((j : Int).toNat) _); rw [hjs]; exact (ae HS).put j (some (D, _)), xG (ae HSL) (ev5 _ _ _ _ _) (fun x hx e => by have := ae HFR x hx; have := ae HPL; rw [List.mem_singleton.1 e] at *; omega), ((ae HY).fin _ _ _ _ _).as rfl rfl rfl⟩
end
section
variable {w0 w : World} {cb sb : Nat} {h : HSt} {st : Nat → Sd} {r : List ao}
theorem qC (x : ax) (hx : x.d = 9) (hz : Cou w0 w cb sb h st r) :
 Calls Tryz.prog 26 #[.pointer (some ⟨cb, 0, none⟩), .agg #[.int .i64 x.d, .int .i64 x.s, .int .i64 x.md, .int .i64 x.at_, .int .i64 x.key, .int .i64 x.to_, .int .i64 x.keep, .string x.b]] w fun e w' => dC w0 cb r (hdo h x) (hev h x) e w' := by
 have heq := (aW.crash (h := h) (x := x) hx).eq
 rw [heq.1, heq.2]
 clear heq
 have HX := ag (hz.two (xcs x) 55 #[.int .i64 0, .int .i64 0, .bool false, .string ⟨#[]⟩, .slice none 0 0] 74)
 clear hz
 obtain ⟨xd, xs, xm, xa, xk, xt, xp, xb⟩ := x
 dsimp only [xcs] at *
 subst hx
 go_enter Tryz.func26, Tryz.ntmps26
 go_wp2_with fail
 generalize (w.alloc (.cells #[.int .i64 9, .int .i64 xs, .int .i64 xm, .int .i64 xa, .int .i64 xk, .int .i64 xt, .int .i64 xp, .string xb] 55)).alloc (.cells #[.int .i64 0, .int .i64 0, .bool false, .string ⟨#[]⟩, .slice none 0 0] 74) = W at HX ⊢
 generalize w.heap.size = q at HX ⊢
 generalize q + 1 = p at HX ⊢
 refine (gO (ae HX)).mono ?_
 rintro e w1 ⟨rfl, sb', HY⟩
 clear HX
 obtain ⟨e0, e1, e2, e3, e4, g0, g1, g2, g3, g4⟩ := evF ((ae HY).var (mh))
 go_wp2_with fail
 refine bodyPost_ret (v := .agg #[.int .i64 0, .int .i64 0, .bool false, .string ⟨#[]⟩, .slice none 0 0]) (by simp [results, Tryz.results26, go_sem, e0, e1, e2, e3, e4]) rfl ?_
 exact ⟨sb', _, none, 0, rfl, fun _ => rfl, bY _ _, ((ae HY).fin _ _ _ _ _).as rfl rfl rfl⟩
theorem qD (x : ax) (hx : x.d = 8) (hs : Sts st h.seat) (hz : Cou w0 w cb sb h st r) :
 Calls Tryz.prog 26 #[.pointer (some ⟨cb, 0, none⟩), .agg #[.int .i64 x.d, .int .i64 x.s, .int .i64 x.md, .int .i64 x.at_, .int .i64 x.key, .int .i64 x.to_, .int .i64 x.keep, .string x.b]] w fun e w' => dC w0 cb r (hdo h x) (hev h x) e w' := by
 have heq := (aW.clear (h := h) (x := x) hx).eq
 rw [heq.1, heq.2]
 clear heq
 have HS := ag hs
 have HX := ag (hz.two (xcs x) 55 #[.int .i64 0, .int .i64 0, .bool false, .string ⟨#[]⟩, .slice none 0 0] 74)
 clear hz hs
 have HLE := ag (fun W r (hz : Cou w0 W cb sb h st r) => wB (ae HS) hz)
 generalize bm h.n h.seat 5 = y at *
 obtain ⟨xd, xs, xm, xa, xk, xt, xp, xb⟩ := x
 dsimp only [xcs] at *
 subst hx
 go_enter Tryz.func26, Tryz.ntmps26
 go_wp2_with fail
 generalize (w.alloc (.cells #[.int .i64 8, .int .i64 xs, .int .i64 xm, .int .i64 xa, .int .i64 xk, .int .i64 xt, .int .i64 xp, .string xb] 55)).alloc (.cells #[.int .i64 0, .int .i64 0, .bool false, .string ⟨#[]⟩, .slice none 0 0] 74) = W at HX ⊢
 generalize w.heap.size = q at HX ⊢
 generalize q + 1 = p at HX ⊢
 have HXD := ag ((ae HX).kp0 (Kp.refl [] _).drew)
 clear HX
 have c0 := (ae HXD).c0
 refine wp_region_held_drew (S := fun w' => w'.cell? ⟨cb, 0, none⟩ = some (.pointer (some ⟨sb, 0, none⟩))) (by kernel_rfl) (c0) (fun hHeld => ?_)
 refine tk 0 ?_ rfl (by kernel_rfl) (fun _ _ _ h => h) (by rfl) ?_ hHeld ?_;rotate_left;· intro w hSw;(try dsimp only at hSw);go_simp;try with_reducible rfl
 try simp only [Act.put, sx, sy, sz]
 refine tk 1 ?_ rfl (by kernel_rfl) (fun _ _ _ h => h) (by rfl) ?_ hHeld ?_;rotate_left;· intro w hSw;(try dsimp only at hSw);go_simp;try with_reducible rfl
 try simp only [Act.put, sx, sy, sz]
 refine tk 2 ?_ rfl (by kernel_rfl) (fun _ _ _ h => h) (by rfl) ?_ hHeld ?_;rotate_left;· intro w hSw;(try dsimp only at hSw);go_simp;try with_reducible rfl
 try simp only [Act.put, sx, sy, sz]
 refine tk 3 ?_ rfl (by kernel_rfl) (fun _ _ _ h => h) (by rfl) ?_ hHeld ?_;rotate_left;· intro w hSw;(try dsimp only at hSw);go_simp;try with_reducible rfl
 try simp only [Act.put, sx, sy, sz]
 refine tk 4 ?_ rfl (by kernel_rfl) (fun _ _ _ h => h) (by rfl) ?_ hHeld ?_;rotate_left;· intro w hSw;(try dsimp only at hSw);go_simp;try with_reducible rfl
 try simp only [Act.put, sx, sy, sz]
 refine aj (i := 5) rfl (by kernel_rfl) (fun K hK => ?_)
 go_simp
 refine (ae HLE _ _ (ae HXD)).mono ?_
 rintro e w' ⟨rfl, hw'⟩
 subst w'
 go_wp2_with fail
 refine hK.out _ _ (c0) (fun hHeld2 => ?_)
 clear hK K hHeld
 have hHeld := hHeld2
 clear hHeld2
 try simp only [Act.put, sx, sy, sz]
 refine aj (i := 6) rfl (by kernel_rfl) (fun K hK => ?_)
 go_simp
 refine (wC y (ae HXD)).mono ?_
 rintro e w3 ⟨rfl, HY⟩
 go_wp2_with fail
 refine hK.out _ _ ((ae HY).c0) (fun hHeld2 => ?_)
 clear hK K hHeld
 have hHeld := hHeld2
 clear hHeld2
 try simp only [Act.put, sx, sy, sz]
 refine tk 7 ?_ rfl (by kernel_rfl) (fun _ _ _ h => h) (by rfl) ?_ hHeld ?_;rotate_left;· intro w hSw;(try dsimp only at hSw);go_simp;try with_reducible rfl
 try simp only [Act.put, sx, sy, sz]
 refine aj (i := 8) rfl (by kernel_rfl) (fun K hK => ?_)
 go_simp
 obtain ⟨e0, e1, e2, e3, e4, g0, g1, g2, g3, g4⟩ := evF ((ae HY).var (mh))
 go_simp
 have HF := ag ((((((ae HY).set0 0 (.int .i64 0)).set0 1 (.int .i64 (cln h.f y 8 : Nat))).set0 2 (.bool false)).set0 3 (.string ⟨#[]⟩)).set0 4 (.slice none 0 0))
 go_wp2_with fail
 refine hK.out _ _ ((ae HF).c0) (fun hHeld2 => ?_)
 clear hK K hHeld
 have hHeld := hHeld2
 clear hHeld2
 try simp only [Act.put, sx, sy, sz]
 refine wpAnyH_done (by kernel_rfl) ?_ _
 go_wp2_with fail
 refine bodyPost_ret (v := .agg #[.int .i64 0, .int .i64 (cln h.f y 8 : Nat), .bool false, .string ⟨#[]⟩, .slice none 0 0]) (by simp [results, Tryz.results26, go_sem, e0, e1, e2, e3, e4]) rfl ?_
 exact ⟨sb, st, none, 0, rfl, ae HS, bY _ _, ((ae HY).fin _ _ _ _ _).as rfl rfl rfl⟩
end
theorem qJ {B : Nat} {w : World} {os : List ao} {X : List Nat} {o : ao} (h : ce B w os X) (hm : o ∈ os) : ∃ F, o.holds B w F ∧ ∀ x ∈ F, x ∈ X := by
 obtain ⟨l1, l2, rfl⟩ := List.append_of_mem hm
 obtain ⟨F, Y, _, ⟨F1, Y1, h1, _, _, e1⟩, _, rfl⟩ := dQ h
 exact ⟨F1, h1, fun x hx => by rw [e1]; simp [hx]⟩
theorem xw {w0 w w' : World} {o o' : ao} {r : List ao} {F Y : List Nat} (h1 : o.holds w0.heap.size w F) (h2 : ce w0.heap.size w r Y) (h3 : ∀ x, x ∈ F → x ∉ Y) (h4 : Kp [] w0 w) (hc : Ch o' w0.heap.size w F w') : Zoo w0 w' (o' :: r) := by
 obtain ⟨F', k1, k2, k3⟩ := hc
 refine ⟨F' ++ Y, ⟨F', Y, k1, h2.kp k2 (fun x hx hf => h3 x hf hx), fun x hx hy => ?_, rfl⟩, h4.trans k2 (fun x hx => .inr (o.lo h1 x hx).1)⟩
 rcases k3 x hx with e | e
 ·exact h3 x e hy
 ·have := (h2.lo x hy).2; omega
section
variable {w0 w : World} {cb sb : Nat} {h : HSt} {st : Nat → Sd} {r : List ao}
theorem pv {s D : Nat} {d : Dp} (hs : s < 5) (hd : st s = some (D, d)) (hrl : d.rs.length ≤ 2000) (hwl : d.ws.length ≤ 900) (hz : Cou w0 w cb sb h st r) :
 Calls Tryz.prog 63 #[.pointer (some ⟨D, 0, none⟩), .pointer (some ⟨sb, 0, none⟩)] w fun e w' => e = .returned (.int .i64 (dm h.f d.md d.y d.rs d.ws)) ∧ Hid (Cou w0 w' cb sb h st r) := by
 obtain ⟨G, Gr, Gs, bx, k, _⟩ := hz.crt
 obtain ⟨H, hW⟩ := hz.wrk hs hd
 exact (nV w k.s hW (Nat.le_trans hrl (by omega)) hwl).mono (fun e w' ⟨he, hk⟩ => ⟨he, hz.kp0 hk⟩)
theorem gN {s D : Nat} {d : Dp} {WW : List Ver} (hWW : wk d.ws 8 = WW) (hs : s < 5) (hd : st s = some (D, d)) (hwl : d.ws.length ≤ 900) (hz : Cou w0 w cb sb h st r) :
 Calls Tryz.prog 64 #[.pointer (some ⟨D, 0, none⟩)] w fun e w' => ∃ a cap, e = .returned (.slice a WW.length cap) ∧ Hid (Cou w0 w' cb sb h st (PsT a cap WW :: r)) := by
 obtain ⟨H, hW⟩ := hz.wrk hs hd
 subst hWW
 refine (fE w hW hwl).mono ?_
 rintro e w' ⟨a, cap, rfl, ho, hk⟩
 have h1 : Zoo w0 w' (PsT a cap (wk d.ws 8) :: (cf cb sb h.f h.n h.cs [] (ads st) :: (bo st ++ r))) := Zoo.cons hz (F := ob a) ⟨ho, rfl⟩ hk
 exact ⟨a, cap, rfl, h1.perm (List.perm_middle (l₁ := cf cb sb h.f h.n h.cs [] (ads st) :: bo st)).symm⟩
theorem pu {a : Option Addr} {cap : Nat} {ps : List Ver} (keep : Int) (hp : pf (-1) ps = 0) (hm : PsT a cap ps ∈ r) (hz : Cou w0 w cb sb h st r) :
 Calls Tryz.prog 65 #[.pointer (some ⟨cb, 1, none⟩), .slice a ps.length cap, .int .i64 keep] w fun e w' => e = .returned (.int .i64 (bc h.cs ps)) ∧ ∃ torn, Hid (Zoo w0 w' (cf cb sb h.f h.n (ct h.cs ps keep) torn (ads st) :: (bo st ++ r))) := by
 have hpr := dZ (nm (w0 := w0) (cap := cap) hz (mt (List.mem_append_right _ hm))) hp
 have hz' := hz
 obtain ⟨X, ⟨G0, Y, ⟨Gr, Gs, bx, k⟩, hY, hd, _⟩, hk0⟩ := hz'
 obtain ⟨FP, hP, hPY⟩ := qJ hY (List.mem_append_right _ hm)
 have hfar : 0 < ps.length → ∀ g o, a = some ⟨g, o, none⟩ → g ∉ Gr := fun _ g o ea hm' => hd g (k.rG g hm') (hPY g (by rw [hP.2, ea]; simp [ob]))
 refine (xP a cap ps keep w k.r hpr hfar (by have := ec hp; omega)).mono ?_
 rintro e w' ⟨rfl, hL⟩
 exact ⟨rfl, _, xw (o := cf cb sb h.f h.n h.cs [] (ads st)) ⟨Gr, Gs, bx, k⟩ hY hd hk0 (k.roll hL)⟩
theorem qz (x : ax) (hx : x.d = 10) {j D : Nat} {d : Dp} (hj : x.s = (j : Int)) (h5 : j < 5) (hsd : st j = some (D, d)) (hs : Sts st h.seat) (hz : Cou w0 w cb sb h st r) (hi : bT h) (hrl : d.rs.length ≤ 2000) (hwl : d.ws.length ≤ 900) (hz0 : ¬ dm h.f d.md d.y d.rs d.ws = 0) :
 Calls Tryz.prog 26 #[.pointer (some ⟨cb, 0, none⟩), .agg #[.int .i64 x.d, .int .i64 x.s, .int .i64 x.md, .int .i64 x.at_, .int .i64 x.key, .int .i64 x.to_, .int .i64 x.keep, .string x.b]] w fun e w' => dC w0 cb r (hdo h x) (hev h x) e w' := by
 have HS := ag hs
 have HX := ag (hz.two (xcs x) 55 #[.int .i64 0, .int .i64 0, .bool false, .string ⟨#[]⟩, .slice none 0 0] 74)
 have hjs : x.s.toNat = j := by omega
 have hsj : h.seat j = some d := by rw [← hs j, hsd]; rfl
 have heq := (aW.tear (h := h) (x := x) d hx ⟨by omega, by omega⟩ (by rw [hjs]; exact hsj)).eq
 rw [heq.1, heq.2]
 clear heq hz hs hsj
 have HI := ag hi
 have hlen := hi.vi.len
 have hn40 := hi.inv.n40
 have HPF := ag ((hi.ok j d (by rw [← ae HS j, hsd]; rfl)).pf)
 clear hi
 rw [(oo (cs := h.cs) hz0).1, rq (keep := x.keep) hz0, fI (rq (keep := x.keep) hz0)]
 have hzb : (dm h.f d.md d.y d.rs d.ws == 0) = false := beq_eq_false_iff_ne.2 hz0
 clear hz0
 obtain ⟨WW, hWW⟩ : ∃ WW, wk d.ws 8 = WW := ⟨_, rfl⟩
 have HWW := ag hWW
 rw [hWW] at HPF
 have hwl8 := eN d.ws 8
 rw [hWW] at hwl8
 clear hWW
 obtain ⟨xd, xs, xm, xa, xk, xt, xp, xb⟩ := x
 dsimp only [xcs] at *
 subst hx hj
 have hsb : bE (j : Int) = true := decide_eq_true (by omega)
 have i0 : (0 : Int) ≤ (j : Int) := by omega
 have i5 : (j : Int) < 5 := by omega
 go_enter Tryz.func26, Tryz.ntmps26
 go_wp2_with fail
 generalize (w.alloc (.cells #[.int .i64 10, .int .i64 (j : Int), .int .i64 xm, .int .i64 xa, .int .i64 xk, .int .i64 xt, .int .i64 xp, .string xb] 55)).alloc (.cells #[.int .i64 0, .int .i64 0, .bool false, .string ⟨#[]⟩, .slice none 0 0] 74) = W at HX ⊢
 generalize w.heap.size = q at HX ⊢
 generalize q + 1 = p at HX ⊢
 have hq := (ae HX).var (mt (mh))
 have x0 : W.cell? ⟨q, 0, none⟩ = some (.int .i64 10) := af hq rfl
 have x1 : W.cell? ⟨q, 1, none⟩ = some (.int .i64 (j : Int)) := af hq rfl
 clear hq
 have s1 := (ae HX).cs_ h5
 rw [hsd] at s1
 rw [show ad (some (D, d)) = some ⟨D, 0, none⟩ from rfl] at s1
 refine (ck (j : Int) _).mono ?_
 rintro e w' ⟨rfl, hw'⟩
 subst w'
 rw [hsb]
 go_wp2_with fail
 go_quiet (fail)
 have HX2 := ag ((ae HX).kp0 ((Kp.refl [] W).drewN nq))
 clear HX x0 x1 s1
 generalize W.drewN nq = W2 at HX2 ⊢
 have hq := (ae HX2).var (mt (mh))
 have x0 : W2.cell? ⟨q, 0, none⟩ = some (.int .i64 10) := af hq rfl
 have x1 : W2.cell? ⟨q, 1, none⟩ = some (.int .i64 (j : Int)) := af hq rfl
 have x2 : W2.cell? ⟨q, 2, none⟩ = some (.int .i64 xm) := af hq rfl
 have x3 : W2.cell? ⟨q, 3, none⟩ = some (.int .i64 xa) := af hq rfl
 have x4 : W2.cell? ⟨q, 4, none⟩ = some (.int .i64 xk) := af hq rfl
 have x5 : W2.cell? ⟨q, 5, none⟩ = some (.int .i64 xt) := af hq rfl
 have x6 : W2.cell? ⟨q, 6, none⟩ = some (.int .i64 xp) := af hq rfl
 have x7 : W2.cell? ⟨q, 7, none⟩ = some (.string xb) := af hq rfl
 have ql := ah hq
 clear hq
 have c0 := (ae HX2).c0
 go_wp2_with fail
 refine (pv h5 hsd hrl hwl (ae HX2)).mono ?_
 rintro e w3 ⟨rfl, HX3⟩
 clear x0 x1 x2 x3 x4 x5 x6 x7 ql c0 HX2
 have c0 := (ae HX3).c0
 have n0 := (ae HX3).n0
 go_wp2_with fail
 refine (gN (ae HWW) h5 hsd hwl (ae HX3)).mono ?_
 rintro e w4 ⟨a, cap, rfl, HX4⟩
 clear c0 n0 HX3
 go_wp2_with fail
 refine (gO (ae HX4)).mono ?_
 rintro e w6 ⟨rfl, sb', HY0⟩
 clear HX4
 have HY := ag (ae HY0).tail
 clear HY0
 have c0 := (ae HY).c0
 have n0 := (ae HY).n0
 dsimp only at n0
 have hg1 : ¬ (h.n : Int) < (h.cs.length : Int) := by omega
 obtain ⟨e0, e1, e2, e3, e4, g0, g1, g2, g3, g4⟩ := evF ((ae HY).var (mh))
 have HLEN := ag hlen
 clear hlen
 go_wp2_with fail
 refine bodyPost_ret (v := .agg #[.int .i64 (dm h.f d.md d.y d.rs d.ws), .int .i64 0, .bool false, .string ⟨#[]⟩, .slice none 0 0]) (by simp [results, Tryz.results26, go_sem, e0, e1, e2, e3, e4]) rfl ?_
 exact ⟨sb', _, none, 0, rfl, fun _ => rfl, bY _ _, ((ae HY).fin _ _ _ _ _).as rfl rfl rfl⟩
theorem qx (x : ax) (hx : x.d = 10) {j D : Nat} {d : Dp} (hj : x.s = (j : Int)) (h5 : j < 5) (hsd : st j = some (D, d)) (hs : Sts st h.seat) (hz : Cou w0 w cb sb h st r) (hi : bT h) (hrl : d.rs.length ≤ 2000) (hwl : d.ws.length ≤ 900) (hz0 : dm h.f d.md d.y d.rs d.ws = 0) (hl0 : (wk d.ws 8).length = 0) :
 Calls Tryz.prog 26 #[.pointer (some ⟨cb, 0, none⟩), .agg #[.int .i64 x.d, .int .i64 x.s, .int .i64 x.md, .int .i64 x.at_, .int .i64 x.key, .int .i64 x.to_, .int .i64 x.keep, .string x.b]] w fun e w' => dC w0 cb r (hdo h x) (hev h x) e w' := by
 have HS := ag hs
 have HX := ag (hz.two (xcs x) 55 #[.int .i64 0, .int .i64 0, .bool false, .string ⟨#[]⟩, .slice none 0 0] 74)
 have hjs : x.s.toNat = j := by omega
 have hsj : h.seat j = some d := by rw [← hs j, hsd]; rfl
 have heq := (aW.tear (h := h) (x := x) d hx ⟨by omega, by omega⟩ (by rw [hjs]; exact hsj)).eq
 rw [heq.1, heq.2]
 clear heq hz hs hsj
 have HI := ag hi
 have hlen := hi.vi.len
 have hn40 := hi.inv.n40
 have HPF := ag ((hi.ok j d (by rw [← ae HS j, hsd]; rfl)).pf)
 clear hi
 rw [(kB (cs := h.cs) hz0 hl0).1, mX (f := h.f) (cs := h.cs) (md := d.md) (y := d.y) (rs := d.rs) (keep := x.keep) hl0, fI (mX (f := h.f) (cs := h.cs) (md := d.md) (y := d.y) (rs := d.rs) (keep := x.keep) hl0)]
 obtain ⟨WW, hWW⟩ : ∃ WW, wk d.ws 8 = WW := ⟨_, rfl⟩
 have HWW := ag hWW
 rw [hWW] at HPF
 have hwl8 := eN d.ws 8
 rw [hWW] at hwl8
 rw [hWW] at hl0
 clear hWW
 obtain ⟨xd, xs, xm, xa, xk, xt, xp, xb⟩ := x
 dsimp only [xcs] at *
 subst hx hj
 have hsb : bE (j : Int) = true := decide_eq_true (by omega)
 have i0 : (0 : Int) ≤ (j : Int) := by omega
 have i5 : (j : Int) < 5 := by omega
 go_enter Tryz.func26, Tryz.ntmps26
 go_wp2_with fail
 generalize (w.alloc (.cells #[.int .i64 10, .int .i64 (j : Int), .int .i64 xm, .int .i64 xa, .int .i64 xk, .int .i64 xt, .int .i64 xp, .string xb] 55)).alloc (.cells #[.int .i64 0, .int .i64 0, .bool false, .string ⟨#[]⟩, .slice none 0 0] 74) = W at HX ⊢
 generalize w.heap.size = q at HX ⊢
 generalize q + 1 = p at HX ⊢
 have hq := (ae HX).var (mt (mh))
 have x0 : W.cell? ⟨q, 0, none⟩ = some (.int .i64 10) := af hq rfl
 have x1 : W.cell? ⟨q, 1, none⟩ = some (.int .i64 (j : Int)) := af hq rfl
 clear hq
 have s1 := (ae HX).cs_ h5
 rw [hsd] at s1
 rw [show ad (some (D, d)) = some ⟨D, 0, none⟩ from rfl] at s1
 refine (ck (j : Int) _).mono ?_
 rintro e w' ⟨rfl, hw'⟩
 subst w'
 rw [hsb]
 go_wp2_with fail
 go_quiet (fail)
 have HX2 := ag ((ae HX).kp0 ((Kp.refl [] W).drewN nq))
 clear HX x0 x1 s1
 generalize W.drewN nq = W2 at HX2 ⊢
 have hq := (ae HX2).var (mt (mh))
 have x0 : W2.cell? ⟨q, 0, none⟩ = some (.int .i64 10) := af hq rfl
 have x1 : W2.cell? ⟨q, 1, none⟩ = some (.int .i64 (j : Int)) := af hq rfl
 have x2 : W2.cell? ⟨q, 2, none⟩ = some (.int .i64 xm) := af hq rfl
 have x3 : W2.cell? ⟨q, 3, none⟩ = some (.int .i64 xa) := af hq rfl
 have x4 : W2.cell? ⟨q, 4, none⟩ = some (.int .i64 xk) := af hq rfl
 have x5 : W2.cell? ⟨q, 5, none⟩ = some (.int .i64 xt) := af hq rfl
 have x6 : W2.cell? ⟨q, 6, none⟩ = some (.int .i64 xp) := af hq rfl
 have x7 : W2.cell? ⟨q, 7, none⟩ = some (.string xb) := af hq rfl
 have ql := ah hq
 clear hq
 have c0 := (ae HX2).c0
 go_wp2_with fail
 refine (pv h5 hsd hrl hwl (ae HX2)).mono ?_
 rintro e w3 ⟨rfl, HX3⟩
 rw [hz0]
 clear x0 x1 x2 x3 x4 x5 x6 x7 ql c0 HX2
 have c0 := (ae HX3).c0
 have n0 := (ae HX3).n0
 go_wp2_with fail
 refine (gN (ae HWW) h5 hsd hwl (ae HX3)).mono ?_
 rintro e w4 ⟨a, cap, rfl, HX4⟩
 clear c0 n0 HX3
 rw [hl0]
 go_wp2_with fail
 refine (gO (ae HX4)).mono ?_
 rintro e w6 ⟨rfl, sb', HY0⟩
 clear HX4
 have HY := ag (ae HY0).tail
 clear HY0
 have c0 := (ae HY).c0
 have n0 := (ae HY).n0
 dsimp only at n0
 have hg1 : ¬ (h.n : Int) < (h.cs.length : Int) := by omega
 obtain ⟨e0, e1, e2, e3, e4, g0, g1, g2, g3, g4⟩ := evF ((ae HY).var (mh))
 have HLEN := ag hlen
 clear hlen
 go_wp2_with fail
 refine bodyPost_ret (v := .agg #[.int .i64 0, .int .i64 0, .bool false, .string ⟨#[]⟩, .slice none 0 0]) (by simp [results, Tryz.results26, go_sem, e0, e1, e2, e3, e4]) rfl ?_
 exact ⟨sb', _, none, 0, rfl, fun _ => rfl, bY _ _, ((ae HY).fin _ _ _ _ _).as rfl rfl rfl⟩
theorem qw (x : ax) (hx : x.d = 10) {j D : Nat} {d : Dp} (hj : x.s = (j : Int)) (h5 : j < 5) (hsd : st j = some (D, d)) (hs : Sts st h.seat) (hz : Cou w0 w cb sb h st r) (hi : bT h) (hrl : d.rs.length ≤ 2000) (hwl : d.ws.length ≤ 900) (hz0 : dm h.f d.md d.y d.rs d.ws = 0) (hl0 : ¬ (wk d.ws 8).length = 0) (hgt : h.cs.length < (ct h.cs (wk d.ws 8) x.keep).length) :
 Calls Tryz.prog 26 #[.pointer (some ⟨cb, 0, none⟩), .agg #[.int .i64 x.d, .int .i64 x.s, .int .i64 x.md, .int .i64 x.at_, .int .i64 x.key, .int .i64 x.to_, .int .i64 x.keep, .string x.b]] w fun e w' => dC w0 cb r (hdo h x) (hev h x) e w' := by
 have HS := ag hs
 have HX := ag (hz.two (xcs x) 55 #[.int .i64 0, .int .i64 0, .bool false, .string ⟨#[]⟩, .slice none 0 0] 74)
 have hjs : x.s.toNat = j := by omega
 have hsj : h.seat j = some d := by rw [← hs j, hsd]; rfl
 have heq := (aW.tear (h := h) (x := x) d hx ⟨by omega, by omega⟩ (by rw [hjs]; exact hsj)).eq
 rw [heq.1, heq.2]
 clear heq hz hs hsj
 have HI := ag hi
 have hlen := hi.vi.len
 have hn40 := hi.inv.n40
 have HPF := ag ((hi.ok j d (by rw [← ae HS j, hsd]; rfl)).pf)
 clear hi
 have hvc : bl h.f h.cs d.md d.y d.rs d.ws = bc h.cs (wk d.ws 8) := by unfold bl; rw [if_pos hz0, if_neg hl0]
 have htn : eQ h.f h.cs d.md d.y d.rs d.ws x.keep = ((ct h.cs (wk d.ws 8) x.keep).length : Int) := by unfold eQ; rw [iR hz0 hl0]; exact if_pos hgt
 rw [hvc, htn, iR (keep := x.keep) hz0 hl0]
 clear hvc htn
 have hlt41 : (ct h.cs (wk d.ws 8) x.keep).length ≤ 41 := by unfold ct; split <;> (try simp) <;> omega
 obtain ⟨cs', hcs'⟩ : ∃ cs', ct h.cs (wk d.ws 8) x.keep = cs' := ⟨_, rfl⟩
 have HCS := ag hcs'
 rw [hcs'] at hlt41 hgt ⊢
 clear hcs'
 obtain ⟨z, hz1⟩ : ∃ z, bc h.cs (wk d.ws 8) = z := ⟨_, rfl⟩
 have HZ1 := ag hz1
 rw [hz1]
 clear hz1
 obtain ⟨WW, hWW⟩ : ∃ WW, wk d.ws 8 = WW := ⟨_, rfl⟩
 have HWW := ag hWW
 rw [hWW] at HPF
 have hwl8 := eN d.ws 8
 rw [hWW] at hwl8
 rw [hWW] at hl0 HCS HZ1
 clear hWW
 obtain ⟨xd, xs, xm, xa, xk, xt, xp, xb⟩ := x
 dsimp only [xcs] at *
 subst hx hj
 have hsb : bE (j : Int) = true := decide_eq_true (by omega)
 have i0 : (0 : Int) ≤ (j : Int) := by omega
 have i5 : (j : Int) < 5 := by omega
 go_enter Tryz.func26, Tryz.ntmps26
 go_wp2_with fail
 generalize (w.alloc (.cells #[.int .i64 10, .int .i64 (j : Int), .int .i64 xm, .int .i64 xa, .int .i64 xk, .int .i64 xt, .int .i64 xp, .string xb] 55)).alloc (.cells #[.int .i64 0, .int .i64 0, .bool false, .string ⟨#[]⟩, .slice none 0 0] 74) = W at HX ⊢
 generalize w.heap.size = q at HX ⊢
 generalize q + 1 = p at HX ⊢
 have hq := (ae HX).var (mt (mh))
 have x0 : W.cell? ⟨q, 0, none⟩ = some (.int .i64 10) := af hq rfl
 have x1 : W.cell? ⟨q, 1, none⟩ = some (.int .i64 (j : Int)) := af hq rfl
 clear hq
 have s1 := (ae HX).cs_ h5
 rw [hsd] at s1
 rw [show ad (some (D, d)) = some ⟨D, 0, none⟩ from rfl] at s1
 refine (ck (j : Int) _).mono ?_
 rintro e w' ⟨rfl, hw'⟩
 subst w'
 rw [hsb]
 go_wp2_with fail
 go_quiet (fail)
 have HX2 := ag ((ae HX).kp0 ((Kp.refl [] W).drewN nq))
 clear HX x0 x1 s1
 generalize W.drewN nq = W2 at HX2 ⊢
 have hq := (ae HX2).var (mt (mh))
 have x0 : W2.cell? ⟨q, 0, none⟩ = some (.int .i64 10) := af hq rfl
 have x1 : W2.cell? ⟨q, 1, none⟩ = some (.int .i64 (j : Int)) := af hq rfl
 have x2 : W2.cell? ⟨q, 2, none⟩ = some (.int .i64 xm) := af hq rfl
 have x3 : W2.cell? ⟨q, 3, none⟩ = some (.int .i64 xa) := af hq rfl
 have x4 : W2.cell? ⟨q, 4, none⟩ = some (.int .i64 xk) := af hq rfl
 have x5 : W2.cell? ⟨q, 5, none⟩ = some (.int .i64 xt) := af hq rfl
 have x6 : W2.cell? ⟨q, 6, none⟩ = some (.int .i64 xp) := af hq rfl
 have x7 : W2.cell? ⟨q, 7, none⟩ = some (.string xb) := af hq rfl
 have ql := ah hq
 clear hq
 have c0 := (ae HX2).c0
 go_wp2_with fail
 refine (pv h5 hsd hrl hwl (ae HX2)).mono ?_
 rintro e w3 ⟨rfl, HX3⟩
 rw [hz0]
 clear x0 x1 x2 x3 x4 x5 x6 x7 ql c0 HX2
 have c0 := (ae HX3).c0
 have n0 := (ae HX3).n0
 go_wp2_with fail
 refine (gN (ae HWW) h5 hsd hwl (ae HX3)).mono ?_
 rintro e w4 ⟨a, cap, rfl, HX4⟩
 clear c0 n0 HX3
 have hl1 : (0 : Int) < (WW.length : Int) := by omega
 have hq := (ae HX4).var (p := q) (mt (mt (mh)))
 have x6 : w4.cell? ⟨q, 6, none⟩ = some (.int .i64 xp) := af hq rfl
 clear hq
 have HG := ag (fun W' (hk : Kp [] w4 W') => pu xp (ae HPF) (mh) ((ae HX4).kp0 hk))
 rw [ae HCS, ae HZ1] at HG
 go_wp2_with fail
 go_region_with (go_at_call 65; refine (ae HG _ (Kp.refl [] w4).drew).mono ?_; rintro e w5 ⟨rfl, torn, HX5⟩)
 all_goals
  clear x6 HG HX4
  go_wp2_with fail
  refine (gO (ae HX5)).mono ?_
  rintro e w6 ⟨rfl, sb', HY0⟩
  clear HX5
  have HY := ag (ae HY0).tail
  clear HY0
  have c0 := (ae HY).c0
  have n0 := (ae HY).n0
  dsimp only at n0
  have hsl := (ae HY).sl
  obtain ⟨e0, e1, e2, e3, e4, g0, g1, g2, g3, g4⟩ := evF ((ae HY).var (mh))
  have hg1 : (h.n : Int) < (cs'.length : Int) := by omega
  have HGT := ag hgt
  have HLEN := ag hlen
  clear hgt hlen
  go_wp2_with fail
  refine bodyPost_ret (v := .agg #[.int .i64 z, .int .i64 (cs'.length : Int), .bool false, .string ⟨#[]⟩, .slice none 0 0]) (by simp [results, Tryz.results26, go_sem, e0, e1, e2, e3, e4]) rfl ?_
  exact ⟨sb', _, none, 0, rfl, fun _ => rfl, bY _ _, ((ae HY).fin _ _ _ _ _).as rfl rfl rfl⟩
theorem qv (x : ax) (hx : x.d = 10) {j D : Nat} {d : Dp} (hj : x.s = (j : Int)) (h5 : j < 5) (hsd : st j = some (D, d)) (hs : Sts st h.seat) (hz : Cou w0 w cb sb h st r) (hi : bT h) (hrl : d.rs.length ≤ 2000) (hwl : d.ws.length ≤ 900) (hz0 : dm h.f d.md d.y d.rs d.ws = 0) (hl0 : ¬ (wk d.ws 8).length = 0) (hgt : ¬ h.cs.length < (ct h.cs (wk d.ws 8) x.keep).length) :
 Calls Tryz.prog 26 #[.pointer (some ⟨cb, 0, none⟩), .agg #[.int .i64 x.d, .int .i64 x.s, .int .i64 x.md, .int .i64 x.at_, .int .i64 x.key, .int .i64 x.to_, .int .i64 x.keep, .string x.b]] w fun e w' => dC w0 cb r (hdo h x) (hev h x) e w' := by
 have HS := ag hs
 have HX := ag (hz.two (xcs x) 55 #[.int .i64 0, .int .i64 0, .bool false, .string ⟨#[]⟩, .slice none 0 0] 74)
 have hjs : x.s.toNat = j := by omega
 have hsj : h.seat j = some d := by rw [← hs j, hsd]; rfl
 have heq := (aW.tear (h := h) (x := x) d hx ⟨by omega, by omega⟩ (by rw [hjs]; exact hsj)).eq
 rw [heq.1, heq.2]
 clear heq hz hs hsj
 have HI := ag hi
 have hlen := hi.vi.len
 have hn40 := hi.inv.n40
 have HPF := ag ((hi.ok j d (by rw [← ae HS j, hsd]; rfl)).pf)
 clear hi
 have hvc : bl h.f h.cs d.md d.y d.rs d.ws = bc h.cs (wk d.ws 8) := by unfold bl; rw [if_pos hz0, if_neg hl0]
 have htn : eQ h.f h.cs d.md d.y d.rs d.ws x.keep = 0 := by unfold eQ; rw [iR hz0 hl0]; exact if_neg hgt
 rw [hvc, htn, iR (keep := x.keep) hz0 hl0]
 clear hvc htn
 have hlt41 : (ct h.cs (wk d.ws 8) x.keep).length ≤ 41 := by unfold ct; split <;> (try simp) <;> omega
 obtain ⟨cs', hcs'⟩ : ∃ cs', ct h.cs (wk d.ws 8) x.keep = cs' := ⟨_, rfl⟩
 have HCS := ag hcs'
 rw [hcs'] at hlt41 hgt ⊢
 clear hcs'
 obtain ⟨z, hz1⟩ : ∃ z, bc h.cs (wk d.ws 8) = z := ⟨_, rfl⟩
 have HZ1 := ag hz1
 rw [hz1]
 clear hz1
 obtain ⟨WW, hWW⟩ : ∃ WW, wk d.ws 8 = WW := ⟨_, rfl⟩
 have HWW := ag hWW
 rw [hWW] at HPF
 have hwl8 := eN d.ws 8
 rw [hWW] at hwl8
 rw [hWW] at hl0 HCS HZ1
 clear hWW
 obtain ⟨xd, xs, xm, xa, xk, xt, xp, xb⟩ := x
 dsimp only [xcs] at *
 subst hx hj
 have hsb : bE (j : Int) = true := decide_eq_true (by omega)
 have i0 : (0 : Int) ≤ (j : Int) := by omega
 have i5 : (j : Int) < 5 := by omega
 go_enter Tryz.func26, Tryz.ntmps26
 go_wp2_with fail
 generalize (w.alloc (.cells #[.int .i64 10, .int .i64 (j : Int), .int .i64 xm, .int .i64 xa, .int .i64 xk, .int .i64 xt, .int .i64 xp, .string xb] 55)).alloc (.cells #[.int .i64 0, .int .i64 0, .bool false, .string ⟨#[]⟩, .slice none 0 0] 74) = W at HX ⊢
 generalize w.heap.size = q at HX ⊢
 generalize q + 1 = p at HX ⊢
 have hq := (ae HX).var (mt (mh))
 have x0 : W.cell? ⟨q, 0, none⟩ = some (.int .i64 10) := af hq rfl
 have x1 : W.cell? ⟨q, 1, none⟩ = some (.int .i64 (j : Int)) := af hq rfl
 clear hq
 have s1 := (ae HX).cs_ h5
 rw [hsd] at s1
 rw [show ad (some (D, d)) = some ⟨D, 0, none⟩ from rfl] at s1
 refine (ck (j : Int) _).mono ?_
 rintro e w' ⟨rfl, hw'⟩
 subst w'
 rw [hsb]
 go_wp2_with fail
 go_quiet (fail)
 have HX2 := ag ((ae HX).kp0 ((Kp.refl [] W).drewN nq))
 clear HX x0 x1 s1
 generalize W.drewN nq = W2 at HX2 ⊢
 have hq := (ae HX2).var (mt (mh))
 have x0 : W2.cell? ⟨q, 0, none⟩ = some (.int .i64 10) := af hq rfl
 have x1 : W2.cell? ⟨q, 1, none⟩ = some (.int .i64 (j : Int)) := af hq rfl
 have x2 : W2.cell? ⟨q, 2, none⟩ = some (.int .i64 xm) := af hq rfl
 have x3 : W2.cell? ⟨q, 3, none⟩ = some (.int .i64 xa) := af hq rfl
 have x4 : W2.cell? ⟨q, 4, none⟩ = some (.int .i64 xk) := af hq rfl
 have x5 : W2.cell? ⟨q, 5, none⟩ = some (.int .i64 xt) := af hq rfl
 have x6 : W2.cell? ⟨q, 6, none⟩ = some (.int .i64 xp) := af hq rfl
 have x7 : W2.cell? ⟨q, 7, none⟩ = some (.string xb) := af hq rfl
 have ql := ah hq
 clear hq
 have c0 := (ae HX2).c0
 go_wp2_with fail
 refine (pv h5 hsd hrl hwl (ae HX2)).mono ?_
 rintro e w3 ⟨rfl, HX3⟩
 rw [hz0]
 clear x0 x1 x2 x3 x4 x5 x6 x7 ql c0 HX2
 have c0 := (ae HX3).c0
 have n0 := (ae HX3).n0
 go_wp2_with fail
 refine (gN (ae HWW) h5 hsd hwl (ae HX3)).mono ?_
 rintro e w4 ⟨a, cap, rfl, HX4⟩
 clear c0 n0 HX3
 have hl1 : (0 : Int) < (WW.length : Int) := by omega
 have hq := (ae HX4).var (p := q) (mt (mt (mh)))
 have x6 : w4.cell? ⟨q, 6, none⟩ = some (.int .i64 xp) := af hq rfl
 clear hq
 have HG := ag (fun W' (hk : Kp [] w4 W') => pu xp (ae HPF) (mh) ((ae HX4).kp0 hk))
 rw [ae HCS, ae HZ1] at HG
 go_wp2_with fail
 go_region_with (go_at_call 65; refine (ae HG _ (Kp.refl [] w4).drew).mono ?_; rintro e w5 ⟨rfl, torn, HX5⟩)
 all_goals
  clear x6 HG HX4
  go_wp2_with fail
  refine (gO (ae HX5)).mono ?_
  rintro e w6 ⟨rfl, sb', HY0⟩
  clear HX5
  have HY := ag (ae HY0).tail
  clear HY0
  have c0 := (ae HY).c0
  have n0 := (ae HY).n0
  dsimp only at n0
  have hsl := (ae HY).sl
  obtain ⟨e0, e1, e2, e3, e4, g0, g1, g2, g3, g4⟩ := evF ((ae HY).var (mh))
  have hg1 : ¬ (h.n : Int) < (cs'.length : Int) := by omega
  have HGT := ag hgt
  have HLEN := ag hlen
  clear hgt hlen
  go_wp2_with fail
  refine bodyPost_ret (v := .agg #[.int .i64 z, .int .i64 0, .bool false, .string ⟨#[]⟩, .slice none 0 0]) (by simp [results, Tryz.results26, go_sem, e0, e1, e2, e3, e4]) rfl ?_
  exact ⟨sb', _, none, 0, rfl, fun _ => rfl, bY _ _, ((ae HY).fin _ _ _ _ _).as rfl rfl rfl⟩
end
end
section
open Go.RowKit
def mW (h : HSt) (m : Nat) : Prop := ∀ s d, h.seat s = some d → d.rs.length ≤ 8 * m ∧ d.ws.length ≤ m
theorem yQ {f : Nat → List Ver} {n : Nat} {y : Int} {ws : List Ver} : ∀ (m k : Nat) (acc : List Ver) (rs : List Int), (dgo f n y ws k m acc rs).2.2.length ≤ rs.length + m := by
 intro m
 induction m with
 | zero => intro k acc rs; simp [dgo]
 | succ m ih =>
   intro k acc rs
   have hd := nF f n y rs ws k
   simp only [dgo]
   split
   ·split
    ·have := ih (k + 1) (acc ++ [⟨k, (dg f n y ws k).t, (dg f n y ws k).s⟩]) (dr f n y rs ws k)
     omega
    ·have := ih (k + 1) acc (dr f n y rs ws k)
     omega
   ·dsimp only; omega
theorem yN (f : Nat → List Ver) (n : Nat) (y : Int) (ws : List Ver) (rs : List Int) (a b : Int) : (dls f n y ws rs a b).2.2.length ≤ rs.length + 8 := by
 unfold dls
 split
 ·rename_i q
  simp only [aN, decide_eq_true_eq] at q
  have := yQ (f := f) (n := n) (y := y) (ws := ws) (b + 1 - a).toNat a.toNat [] rs
  omega
 ·dsimp only; omega
theorem my (md : Int) (ws : List Ver) (k : Int) (t : Bool) (s : ByteArray) : (dpw md ws k t s).length ≤ ws.length + 1 := by
 unfold dpw
 split
 ·simp
 ·omega
theorem mW.step {h : HSt} {m : Nat} (hl : mW h m) (x : ax) : mW (hdo h x) (m + 1) := by
 intro s d' hd'
 have hk := ko h x
 generalize hdo h x = h2 at *
 generalize hev h x = e at *
 have old : ∀ {d : Dp}, h.seat s = some d → d.rs.length ≤ 8 * (m + 1) ∧ d.ws.length ≤ m + 1 := fun q => by have := hl s _ q; omega
 cases hk with
 | kind c => exact old hd'
 | clear c => exact old hd'
 | crash c => cases hd'
 | range c1 c2 => exact old hd'
 | began c1 c2 c3 c4 =>
   rcases ci hd' with ⟨q1, q2⟩ | ⟨q1, q2⟩
   ·cases q2; simp
   ·exact old q2
 | beganNot c1 c2 c3 c4 => exact old hd'
 | none_ c1 c2 c3 => exact old hd'
 | there d0 c1 c2 c3 => exact old hd'
 | get d0 c1 c2 c3 =>
   rcases ci hd' with ⟨q1, q2⟩ | ⟨q1, q2⟩
   ·cases q2
    have h1 := hl _ _ c3
    have h2 := nF h.f h.n d0.y d0.rs d0.ws x.key
    dsimp only; omega
   ·exact old q2
 | put d0 c1 c2 c3 =>
   rcases ci hd' with ⟨q1, q2⟩ | ⟨q1, q2⟩
   ·cases q2
    have h1 := hl _ _ c3
    have h2 := my d0.md d0.ws x.key true x.b
    dsimp only; omega
   ·exact old q2
 | drop d0 c1 c2 c3 =>
   rcases ci hd' with ⟨q1, q2⟩ | ⟨q1, q2⟩
   ·cases q2
    have h1 := hl _ _ c3
    have h2 := my d0.md d0.ws x.key false ⟨#[]⟩
    dsimp only; omega
   ·exact old q2
 | list d0 c1 c2 c3 =>
   rcases ci hd' with ⟨q1, q2⟩ | ⟨q1, q2⟩
   ·cases q2
    have h1 := hl _ _ c3
    have h2 := yN h.f h.n d0.y d0.ws d0.rs x.key x.to_
    dsimp only; omega
   ·exact old q2
 | commit d0 c1 c2 c3 =>
   simp only [eo] at hd'
   split at hd'
   ·cases hd'
   ·exact old hd'
 | tear d0 c1 c2 c3 => cases hd'
 | abort d0 c1 c2 c3 =>
   rcases ci hd' with ⟨q1, q2⟩ | ⟨q1, q2⟩
   ·cases q2
   ·exact old q2
section
variable {w0 w : World} {cb sb : Nat} {h : HSt} {st : Nat → Sd} {r : List ao}
theorem Cou.gone {f : Nat → List Ver} {n : Nat} {cs : List (List Ver)} {seat : Nat → Option Dp} {s : Nat} (hs : s < 5) (hz : Zoo w0 w (cf cb sb f n cs [] (upd (ads st) s none) :: (bo st ++ r))) : Cou w0 w cb sb ⟨f, n, cs, seat⟩ (upd st s none) r := by
 obtain ⟨l1, l2, e1, e2⟩ := fF st hs
 unfold Cou
 rw [lH, e2, List.append_assoc]
 rw [e1, List.append_assoc] at hz
 have h1 : Zoo w0 w ((cf cb sb f n cs [] (upd (ads st) s none) :: l1) ++ bQ (st s) :: (l2 ++ r)) := hz
 exact (bO h1.drop_).perm (List.perm_middle (l₁ := cf cb sb f n cs [] (upd (ads st) s none) :: l1)).symm
theorem Az (x : ax) {m : Nat} (hm : m ≤ 200) (hsz : x.b.size ≤ maxLen) (hl : mW h m) (hs : Sts st h.seat) (hi : bT h) (hz : Cou w0 w cb sb h st r) :
 Calls Tryz.prog 26 #[.pointer (some ⟨cb, 0, none⟩), .agg #[.int .i64 x.d, .int .i64 x.s, .int .i64 x.md, .int .i64 x.at_, .int .i64 x.key, .int .i64 x.to_, .int .i64 x.keep, .string x.b]] w fun e w' => dC w0 cb r (hdo h x) (hev h x) e w' := by
 have same : ∀ (c : Int) (w' : World), hdo h x = h → hev h x = evc c → Kp [] w w' → dC w0 cb r (hdo h x) (hev h x) (.returned (.agg #[.int .i64 c, .int .i64 0, .bool false, .string ⟨#[]⟩, .slice none 0 0])) w' := fun c w' h1 h2 hk => by
  rw [h1, h2]
  exact ⟨sb, st, none, 0, rfl, hs, bY _ _, hz.kp0 hk⟩
 by_cases c0 : x.d < 1 ∨ 10 < x.d
 ·have heq := (aW.kind (h := h) (x := x) c0).eq
  exact (tL cb x w c0).mono (fun e w' ⟨he, hk⟩ => by rw [he]; exact same 3 w' heq.1 heq.2 hk)
 by_cases c8 : x.d = 8
 ·exact qD x c8 hs hz
 by_cases c9 : x.d = 9
 ·exact qC x c9 hz
 by_cases hsx : 0 ≤ x.s ∧ x.s < 5
 ·obtain ⟨j, hj, h5⟩ := dN hsx
  have hjs : x.s.toNat = j := by omega
  obtain ⟨G, Gr, Gs, bx, kc, _⟩ := hz.crt
  cases hsd : st j with
  | none =>
    have hst : ads st j = none := by simp [ads, hsd, ad]
    have hsj : h.seat x.s.toNat = none := by rw [hjs, ← hs j, hsd]; rfl
    by_cases c1 : x.d = 1
    ·by_cases hb : ba h.f h.n x.md x.at_ = 0
     ·exact qE x c1 hj h5 hsd hb hs hz
     ·exact lB x c1 hj h5 hsd hb hs hz
    ·have heq := (aW.none_ (h := h) (x := x) (by omega) hsx hsj).eq
     exact (tJ x w kc (by omega) h5 hj hst).mono (fun e w' ⟨he, hk⟩ => by rw [he]; exact same 7 w' heq.1 heq.2 hk)
  | some xx =>
    obtain ⟨D, d⟩ := xx
    have hst : ads st j = some ⟨D, 0, none⟩ := by simp [ads, hsd, ad]
    have hsj : h.seat j = some d := by rw [← hs j, hsd]; rfl
    have hsj2 : h.seat x.s.toNat = some d := by rw [hjs]; exact hsj
    obtain ⟨hrl, hwl⟩ := hl j d hsj
    have hrl2 : d.rs.length ≤ 2000 := by omega
    have hwl2 : d.ws.length ≤ 900 := by omega
    by_cases c1 : x.d = 1
    ·have heq := (aW.there (h := h) (x := x) d c1 hsx hsj2).eq
     exact (qu x w kc c1 h5 hj hst).mono (fun e w' ⟨he, hk⟩ => by rw [he]; exact same 8 w' heq.1 heq.2 hk)
    by_cases c2 : x.d = 2
    ·exact wz x c2 hj h5 hsd hs hz hrl2 hwl2
    by_cases c3 : x.d = 3
    ·have heq := (aW.put (h := h) (x := x) d c3 hsx hsj2).eq
     obtain ⟨rest, h1, h2⟩ := hz.out h5
     rw [hsd] at h1 h2
     obtain ⟨H, hw, k2⟩ := bW h1
     refine (wy x w kc c3 h5 hj hst hw hsz hwl2).mono ?_
     rintro e w' ⟨rfl, hc⟩
     rw [heq.1, heq.2]
     exact ⟨sb, _, none, 0, rfl, by show Sts _ (upd h.seat x.s.toNat _); rw [hjs]; exact hs.put j (some (D, _)), bY _ _, (h2 w' (some (D, { d with ws := dpw d.md d.ws x.key true x.b })) [] rfl (k2 _ _ hc)).as rfl rfl rfl⟩
    by_cases c4 : x.d = 4
    ·have heq := (aW.drop (h := h) (x := x) d c4 hsx hsj2).eq
     obtain ⟨rest, h1, h2⟩ := hz.out h5
     rw [hsd] at h1 h2
     obtain ⟨H, hw, k2⟩ := bW h1
     refine (tM x w kc c4 h5 hj hst hw hsz hwl2).mono ?_
     rintro e w' ⟨rfl, hc⟩
     rw [heq.1, heq.2]
     exact ⟨sb, _, none, 0, rfl, by show Sts _ (upd h.seat x.s.toNat _); rw [hjs]; exact hs.put j (some (D, _)), bY _ _, (h2 w' (some (D, { d with ws := dpw d.md d.ws x.key false ⟨#[]⟩ })) [] rfl (k2 _ _ hc)).as rfl rfl rfl⟩
    by_cases c5 : x.d = 5
    ·exact tK x c5 hj h5 hsd hs hz hrl2 hwl2
    by_cases c6 : x.d = 6
    ·exact nJ x c6 hj h5 hsd hs hz hi hrl2 hwl2
    by_cases c7 : x.d = 7
    ·have heq := (aW.abort (h := h) (x := x) d c7 hsx hsj2).eq
     obtain ⟨G0, hG0, k0⟩ := bi hz
     obtain ⟨Gr0, Gs0, bx0, kc0⟩ := hG0
     refine (qF x w kc0 c7 h5 hj hst).mono ?_
     rintro e w' ⟨rfl, hc⟩
     rw [heq.1, heq.2]
     exact ⟨sb, _, none, 0, rfl, by show Sts _ (upd h.seat x.s.toNat none); rw [hjs]; exact hs.put j none, bY _ _, Cou.gone h5 (k0 _ _ hc)⟩
    have c10 : x.d = 10 := by omega
    by_cases hz0 : dm h.f d.md d.y d.rs d.ws = 0
    ·by_cases hl0 : (wk d.ws 8).length = 0
     ·exact qx x c10 hj h5 hsd hs hz hi hrl2 hwl2 hz0 hl0
     ·by_cases hgt : h.cs.length < (ct h.cs (wk d.ws 8) x.keep).length
      ·exact qw x c10 hj h5 hsd hs hz hi hrl2 hwl2 hz0 hl0 hgt
      ·exact qv x c10 hj h5 hsd hs hz hi hrl2 hwl2 hz0 hl0 hgt
    ·exact qz x c10 hj h5 hsd hs hz hi hrl2 hwl2 hz0
 ·have heq := (aW.range (h := h) (x := x) (by omega) hsx).eq
  exact (qA cb x w (by omega) hsx).mono (fun e w' ⟨he, hk⟩ => by rw [he]; exact same 1 w' heq.1 heq.2 hk)
theorem yR (x : ax) {m : Nat} (hm : m ≤ 200) (hsz : x.b.size ≤ maxLen) (hl : mW h m) (hz : Zoo w0 w (bG cb h :: r)) :
 Calls Tryz.prog 26 #[.pointer (some ⟨cb, 0, none⟩), .agg #[.int .i64 x.d, .int .i64 x.s, .int .i64 x.md, .int .i64 x.at_, .int .i64 x.key, .int .i64 x.to_, .int .i64 x.keep, .string x.b]] w fun e w' => ∃ a cap, e = .returned (.agg #[.int .i64 (hev h x).c, .int .i64 (hev h x).n, .bool (hev h x).t, .string (hev h x).s, .slice a (hev h x).l.length cap]) ∧ Hid (SlO w' a (hev h x).l) ∧ Hid (Zoo w0 w' (bG cb (hdo h x) :: r)) := by
 obtain ⟨sb, st, hs, hi, hz'⟩ := gK hz
 refine (Az x hm hsz hl hs hi hz').mono ?_
 rintro e w' ⟨sb', st', a, cap, rfl, hs', HSL, HY⟩
 exact ⟨a, cap, rfl, HSL, ia hs' (hi.step x) (ae HY)⟩
end
end
section
open Go.RowKit
attribute [local go_sem ↓] Go.wp_at_zero Go.wp_at_succ
def zu (w0 : World) (cb : Nat) (r : List ao) (h' : HSt) (v : Ev) (e : Ending) (w' : World) : Prop := ∃ sb' st' a cap, e = .returned (.agg #[.int .i64 v.c, .int .i64 v.n, .bool v.t, .string v.s, .slice a v.l.length cap]) ∧ Sts st' h'.seat ∧ Hid (Cou w0 w' cb sb' h' st' (PsT a cap v.l :: r))
section
variable {w0 w : World} {cb sb : Nat} {h : HSt} {st : Nat → Sd} {r : List ao}
theorem qB (x : ax) (hx : x.d = 5) {j D : Nat} {d : Dp} (hj : x.s = (j : Int)) (h5 : j < 5) (hsd : st j = some (D, d)) (hs : Sts st h.seat) (hz : Cou w0 w cb sb h st r) (hrl : d.rs.length ≤ 2000) (hwl : d.ws.length ≤ 900) :
 Calls Tryz.prog 26 #[.pointer (some ⟨cb, 0, none⟩), .agg #[.int .i64 x.d, .int .i64 x.s, .int .i64 x.md, .int .i64 x.at_, .int .i64 x.key, .int .i64 x.to_, .int .i64 x.keep, .string x.b]] w fun e w' => zu w0 cb r (hdo h x) (hev h x) e w' := by
 have HS := ag hs
 have HX := ag (hz.two (xcs x) 55 #[.int .i64 0, .int .i64 0, .bool false, .string ⟨#[]⟩, .slice none 0 0] 74)
 have hjs : x.s.toNat = j := by omega
 have hsj : h.seat j = some d := by rw [← hs j, hsd]; rfl
 have heq := (aW.list (h := h) (x := x) d hx ⟨by omega, by omega⟩ (by rw [hjs]; exact hsj)).eq
 rw [heq.1, heq.2]
 clear heq hz hs hsj
 obtain ⟨xd, xs, xm, xa, xk, xt, xp, xb⟩ := x
 dsimp only [xcs] at *
 subst hx hj
 have hsb : bE (j : Int) = true := decide_eq_true (by omega)
 have i0 : (0 : Int) ≤ (j : Int) := by omega
 have i5 : (j : Int) < 5 := by omega
 go_enter Tryz.func26, Tryz.ntmps26
 go_wp2_with fail
 generalize (w.alloc (.cells #[.int .i64 5, .int .i64 (j : Int), .int .i64 xm, .int .i64 xa, .int .i64 xk, .int .i64 xt, .int .i64 xp, .string xb] 55)).alloc (.cells #[.int .i64 0, .int .i64 0, .bool false, .string ⟨#[]⟩, .slice none 0 0] 74) = W at HX ⊢
 generalize w.heap.size = q at HX ⊢
 generalize q + 1 = p at HX ⊢
 have hq := (ae HX).var (mt (mh))
 have x0 : W.cell? ⟨q, 0, none⟩ = some (.int .i64 5) := af hq rfl
 have x1 : W.cell? ⟨q, 1, none⟩ = some (.int .i64 (j : Int)) := af hq rfl
 clear hq
 have s1 := (ae HX).cs_ h5
 rw [hsd] at s1
 rw [show ad (some (D, d)) = some ⟨D, 0, none⟩ from rfl] at s1
 refine (ck (j : Int) _).mono ?_
 rintro e w' ⟨rfl, hw'⟩
 subst w'
 rw [hsb]
 go_wp2_with fail
 go_quiet (fail)
 have HX2 := ag ((ae HX).kp0 ((Kp.refl [] W).drewN nq))
 clear HX x0 x1 s1
 generalize W.drewN nq = W2 at HX2 ⊢
 have hq := (ae HX2).var (mt (mh))
 have x0 : W2.cell? ⟨q, 0, none⟩ = some (.int .i64 5) := af hq rfl
 have x1 : W2.cell? ⟨q, 1, none⟩ = some (.int .i64 (j : Int)) := af hq rfl
 have x2 : W2.cell? ⟨q, 2, none⟩ = some (.int .i64 xm) := af hq rfl
 have x3 : W2.cell? ⟨q, 3, none⟩ = some (.int .i64 xa) := af hq rfl
 have x4 : W2.cell? ⟨q, 4, none⟩ = some (.int .i64 xk) := af hq rfl
 have x5 : W2.cell? ⟨q, 5, none⟩ = some (.int .i64 xt) := af hq rfl
 have x6 : W2.cell? ⟨q, 6, none⟩ = some (.int .i64 xp) := af hq rfl
 have x7 : W2.cell? ⟨q, 7, none⟩ = some (.string xb) := af hq rfl
 have ql := ah hq
 clear hq
 go_wp2_with fail
 have HXD := ag ((ae HX2).kp0 (Kp.refl [] _).drew)
 clear x0 x1 x2 x3 x4 x5 x6 x7 ql HX2
 have c0 := (ae HXD).c0
 have hq := (ae HXD).var (p := q) (mt (mh))
 have x4 := af (i := 4) (v := .int .i64 xk) hq rfl
 have x5 := af (i := 5) (v := .int .i64 xt) hq rfl
 clear hq
 have hpl := ah ((ae HXD).var (p := p) (mh))
 have HPL := ag hpl
 clear hpl
 refine wp_region_held_drew (S := fun w' => w'.cell? ⟨cb, 0, none⟩ = some (.pointer (some ⟨sb, 0, none⟩)) ∧ w'.cell? ⟨q, 4, none⟩ = some (.int .i64 xk) ∧ w'.cell? ⟨q, 5, none⟩ = some (.int .i64 xt)) (by kernel_rfl) ⟨c0, x4, x5⟩ (fun hHeld => ?_)
 clear c0 x4 x5
 generalize World.drew _ = WD at HXD HPL hHeld ⊢
 refine tk 0 ?_ rfl (by kernel_rfl) (fun _ _ _ h => h) (by rfl) ?_ hHeld ?_;rotate_left;· intro w hSw;(try dsimp only at hSw);go_simp;try with_reducible rfl
 try simp only [Act.put, sx, sy, sz]
 refine tk 1 ?_ rfl (by kernel_rfl) (fun _ _ _ h => h) (by rfl) ?_ hHeld ?_;rotate_left;· intro w hSw;(try dsimp only at hSw);go_simp;try with_reducible rfl
 try simp only [Act.put, sx, sy, sz]
 refine tk 2 ?_ rfl (by kernel_rfl) (fun _ _ _ h => h) (by rfl) ?_ hHeld ?_;rotate_left;· intro w hSw;(try dsimp only at hSw);go_simp;try with_reducible rfl
 try simp only [Act.put, sx, sy, sz]
 refine tk 3 ?_ rfl (by kernel_rfl) (fun _ _ _ h => h) (by rfl) ?_ hHeld ?_;rotate_left;· intro w hSw;(try dsimp only at hSw);go_simp;try with_reducible rfl
 try simp only [Act.put, sx, sy, sz]
 refine tk 4 ?_ rfl (by kernel_rfl) (fun _ _ _ h => h) (by rfl) ?_ hHeld ?_;rotate_left;· intro w hSw;(try dsimp only at hSw);go_simp;try with_reducible rfl
 try simp only [Act.put, sx, sy, sz]
 refine tk 5 ?_ rfl (by kernel_rfl) (fun _ _ _ h => h) (by rfl) ?_ hHeld ?_;rotate_left;· intro w hSw;(try dsimp only at hSw);go_simp;try with_reducible rfl
 try simp only [Act.put, sx, sy, sz]
 refine tk 6 ?_ rfl (by kernel_rfl) (fun _ _ _ h => h) (by rfl) ?_ hHeld ?_;rotate_left;· intro w hSw;(try dsimp only at hSw);go_simp;try with_reducible rfl
 try simp only [Act.put, sx, sy, sz]
 refine tk 7 ?_ rfl (by kernel_rfl) (fun _ _ _ h => h) (by rfl) ?_ hHeld ?_;rotate_left;· intro w hSw;(try dsimp only at hSw);go_simp;try with_reducible rfl
 try simp only [Act.put, sx, sy, sz]
 refine tk 8 ?_ rfl (by kernel_rfl) (fun _ _ _ h => h) (by rfl) ?_ hHeld ?_;rotate_left;· intro w hSw;(try dsimp only at hSw);go_simp;try with_reducible rfl
 try simp only [Act.put, sx, sy, sz]
 refine aj (i := 9) rfl (by kernel_rfl) (fun K hK => ?_)
 go_simp
 refine (wA xk xt h5 hsd hrl hwl (ae HXD)).mono ?_
 rintro e w11 ⟨a, cap, rfl, HY⟩
 have hq2 := (ae HY).var (p := q) (mt (mh))
 have y4 := af (i := 4) (v := .int .i64 xk) hq2 rfl
 have y5 := af (i := 5) (v := .int .i64 xt) hq2 rfl
 clear hq2
 go_wp2_with fail
 refine hK.out _ _ (⟨(ae HY).c0, y4, y5⟩) (fun hHeld2 => ?_)
 clear hK K hHeld
 have hHeld := hHeld2
 clear hHeld2
 try simp only [Act.put, sx, sy, sz]
 clear y4 y5
 refine tk 10 ?_ rfl (by kernel_rfl) (fun _ _ _ h => h) (by rfl) ?_ hHeld ?_;rotate_left;· intro w hSw;(try dsimp only at hSw);go_simp;try with_reducible rfl
 try simp only [Act.put, sx, sy, sz]
 refine tk 11 ?_ rfl (by kernel_rfl) (fun _ _ _ h => h) (by rfl) ?_ hHeld ?_;rotate_left;· intro w hSw;(try dsimp only at hSw);go_simp;try with_reducible rfl
 try simp only [Act.put, sx, sy, sz]
 refine tk 12 ?_ rfl (by kernel_rfl) (fun _ _ _ h => h) (by rfl) ?_ hHeld ?_;rotate_left;· intro w hSw;(try dsimp only at hSw);go_simp;try with_reducible rfl
 try simp only [Act.put, sx, sy, sz]
 refine tk 13 ?_ rfl (by kernel_rfl) (fun _ _ _ h => h) (by rfl) ?_ hHeld ?_;rotate_left;· intro w hSw;(try dsimp only at hSw);go_simp;try with_reducible rfl
 try simp only [Act.put, sx, sy, sz]
 refine tk 14 ?_ rfl (by kernel_rfl) (fun _ _ _ h => h) (by rfl) ?_ hHeld ?_;rotate_left;· intro w hSw;(try dsimp only at hSw);go_simp;try with_reducible rfl
 try simp only [Act.put, sx, sy, sz]
 refine wpAnyH_done (by kernel_rfl) ?_ _
 clear hHeld
 obtain ⟨e0, e1, e2, e3, e4, g0, g1, g2, g3, g4⟩ := evF ((ae HY).var (mh))
 go_wp2_with fail
 refine bodyPost_ret (v := .agg #[.int .i64 (dls h.f h.n d.y d.ws d.rs xk xt).2.1, .int .i64 0, .bool false, .string ⟨#[]⟩, .slice a (dls h.f h.n d.y d.ws d.rs xk xt).1.length cap]) (by simp [results, Tryz.results26, go_sem, e0, e1, e2, e3, e4]) rfl ?_
 exact ⟨sb, _, a, cap, rfl, by show Sts _ (upd h.seat ((j : Int).toNat) _); rw [hjs]; exact (ae HS).put j (some (D, _)), ((ae HY).fin _ _ _ _ _).as rfl rfl rfl⟩
theorem tw (x : ax) {m : Nat} (hm : m ≤ 200) (hl : mW h m) (hx : x.d = 5) (hs5 : 0 ≤ x.s ∧ x.s < 5) {d : Dp} (hd : h.seat x.s.toNat = some d) (hz : Zoo w0 w (bG cb h :: r)) :
 Calls Tryz.prog 26 #[.pointer (some ⟨cb, 0, none⟩), .agg #[.int .i64 x.d, .int .i64 x.s, .int .i64 x.md, .int .i64 x.at_, .int .i64 x.key, .int .i64 x.to_, .int .i64 x.keep, .string x.b]] w fun e w' => ∃ a cap, e = .returned (.agg #[.int .i64 (hev h x).c, .int .i64 (hev h x).n, .bool (hev h x).t, .string (hev h x).s, .slice a (hev h x).l.length cap]) ∧ Hid (Zoo w0 w' (bG cb (hdo h x) :: PsT a cap (hev h x).l :: r)) := by
 obtain ⟨sb, st, hs, hi, hz'⟩ := gK hz
 obtain ⟨hrl, hwl⟩ := hl _ d hd
 have hst := hs x.s.toNat
 rw [hd] at hst
 cases hsd : st x.s.toNat with
 | none => rw [hsd] at hst; cases hst
 | some xx =>
   obtain ⟨D, d'⟩ := xx
   rw [hsd] at hst
   have e : d' = d := by simpa using hst
   subst e
   refine (qB x hx (j := x.s.toNat) (by omega) (by omega) hsd hs hz' (by omega) (by omega)).mono ?_
   rintro e w' ⟨sb', st', a, cap, rfl, hs', HY⟩
   exact ⟨a, cap, rfl, ia hs' (hi.step x) (ae HY)⟩
end
end
section
open Go.RowKit
theorem wj (w : World) : Calls Tryz.prog 24 #[] w fun e w' => ∃ cb F, e = .returned (.pointer (some ⟨cb, 0, none⟩)) ∧ (bG cb hs0).holds w.heap.size w' F ∧ Kp [] w w' := by
 refine (Av w).mono ?_
 rintro e w' ⟨cb, sb, G, rfl, h1, hk⟩
 have hz0 : Zoo w w' [cf cb sb (fun _ => [dv]) 0 [] [] (fun _ => none)] := (cg (Kp.refl [] w)).cons h1 hk
 have hz1 := bO (bO (bO (bO (bO hz0))))
 have hz2 : Cou w w' cb sb hs0 (fun _ => none) [] := hz1.perm (List.perm_middle (l₁ := bo (fun _ => none)))
 have hz3 := ia (fun _ => rfl) jq hz2
 obtain ⟨F', h5, _⟩ := bi hz3
 exact ⟨cb, F', rfl, h5, hz3.kp⟩
end
section
open Go.RowKit Srt
theorem sQ (h : HSt) (k : Dk) (l : List ax) (x : ax) : jN h k (l ++ [x]) = (hdo (jN h k l).1 x, be (jN h k l).1 (jN h k l).2 x) := by
 induction l generalizing h k with
 | nil => rfl
 | cons y l ih => exact ih _ _
theorem fv {cur : Array Value} {o o' : Nat} {v u : Value} (h : cur[o']? = some u) : (cur.setIfInBounds o v)[o']? = some (if o = o' then v else u) := by
 have hb := (Array.getElem?_eq_some_iff.1 h).1
 rw [Array.getElem?_setIfInBounds]
 by_cases e : o = o'
 ·subst e; rw [if_pos rfl, if_pos hb, if_pos rfl]
 ·rw [if_neg e, if_neg e, h]
def dL (w : World) (g : Nat) (xs : Nat → Dx) : Prop := ∃ cur, w.heap[g]? = some (.cells cur 79 (0, 0)) ∧ ∀ i, i < 5 → Dc4 cur i (xs i)
section
variable {w w' : World} {g s : Nat} {xs : Nat → Dx}
theorem dL.cells (h : dL w g xs) (hs : s < 5) : w.cell? ⟨g, s * 4, none⟩ = some (.int .i64 (xs s).d.n) ∧ w.cell? ⟨g, s * 4 + 1, none⟩ = some (.int .i64 (xs s).d.at_) ∧ w.cell? ⟨g, s * 4 + 2, none⟩ = some (.int .i64 (xs s).d.md) ∧ w.cell? ⟨g, s * 4 + 3, none⟩ = some (.slice (xs s).a (xs s).d.acts.length (xs s).c) := by
 obtain ⟨cur, h1, h2⟩ := h
 have h3 := h2 s hs
 exact ⟨af h1 h3.c0, af h1 h3.c1, af h1 h3.c2, af h1 h3.c3⟩
theorem dL.fz (h : dL w g xs) (o : Nat) : w.frozen? ⟨g, o, none⟩ = false := by
 obtain ⟨cur, h1, h2⟩ := h
 exact ak o h1
theorem dL.set (h : dL w g xs) {o : Nat} {v : Value} {x' : Dx} (hs : s < 5) (h0 : s * 4 ≤ o) (h4 : o < s * 4 + 4)
 (k0 : (if o = s * 4 then v else .int .i64 (xs s).d.n) = .int .i64 x'.d.n) (k1 : (if o = s * 4 + 1 then v else .int .i64 (xs s).d.at_) = .int .i64 x'.d.at_) (k2 : (if o = s * 4 + 2 then v else .int .i64 (xs s).d.md) = .int .i64 x'.d.md) (k3 : (if o = s * 4 + 3 then v else .slice (xs s).a (xs s).d.acts.length (xs s).c) = .slice x'.a x'.d.acts.length x'.c) :
 dL (w.setCell ⟨g, o, none⟩ v) g (upd xs s x') := by
 obtain ⟨cur, h1, h2⟩ := h
 refine ⟨_, an _ _ h1, fun i hi => ?_⟩
 have h3 := h2 i hi
 by_cases e : i = s
 ·subst e
  rw [av]
  exact ⟨by rw [fv h3.c0, k0], by rw [fv h3.c1, k1], by rw [fv h3.c2, k2], by rw [fv h3.c3, k3]⟩
 ·rw [aq _ _ _ e]
  exact ⟨by rw [fv h3.c0, if_neg (by omega)], by rw [fv h3.c1, if_neg (by omega)], by rw [fv h3.c2, if_neg (by omega)], by rw [fv h3.c3, if_neg (by omega)]⟩
theorem dL.setN (h : dL w g xs) (hs : s < 5) (n : Int) : dL (w.setCell ⟨g, s * 4, none⟩ (.int .i64 n)) g (upd xs s ⟨{ (xs s).d with n := n }, (xs s).a, (xs s).c⟩) :=
 h.set hs (Nat.le_refl _) (by omega) (by rw [if_pos rfl]) (by rw [if_neg (by omega)]) (by rw [if_neg (by omega)]) (by rw [if_neg (by omega)])
theorem dL.setA (h : dL w g xs) (hs : s < 5) (n : Int) : dL (w.setCell ⟨g, s * 4 + 1, none⟩ (.int .i64 n)) g (upd xs s ⟨{ (xs s).d with at_ := n }, (xs s).a, (xs s).c⟩) :=
 h.set hs (by omega) (by omega) (by rw [if_neg (by omega)]) (by rw [if_pos rfl]) (by rw [if_neg (by omega)]) (by rw [if_neg (by omega)])
theorem dL.setM (h : dL w g xs) (hs : s < 5) (n : Int) : dL (w.setCell ⟨g, s * 4 + 2, none⟩ (.int .i64 n)) g (upd xs s ⟨{ (xs s).d with md := n }, (xs s).a, (xs s).c⟩) :=
 h.set hs (by omega) (by omega) (by rw [if_neg (by omega)]) (by rw [if_neg (by omega)]) (by rw [if_pos rfl]) (by rw [if_neg (by omega)])
theorem dL.setL (h : dL w g xs) (hs : s < 5) (l : List Ac) (a : Option Addr) (c m : Nat) (hm : m = l.length) : dL (w.setCell ⟨g, s * 4 + 3, none⟩ (.slice a m c)) g (upd xs s ⟨{ (xs s).d with acts := l }, a, c⟩) := by
 subst hm
 exact h.set hs (by omega) (by omega) (by rw [if_neg (by omega)]) (by rw [if_neg (by omega)]) (by rw [if_neg (by omega)]) (by rw [if_pos rfl])
theorem or {α : Type} (f : Nat → α) (i : Nat) (u v : α) : upd (upd f i u) i v = upd f i v := by
 funext j
 unfold upd
 split <;> rfl
theorem dL.put (h : dL w g xs) (hs : s < 5) (n a m : Int) : dL ((((w.setCell ⟨g, s * 4, none⟩ (.int .i64 n)).setCell ⟨g, s * 4 + 1, none⟩ (.int .i64 a)).setCell ⟨g, s * 4 + 2, none⟩ (.int .i64 m)).setCell ⟨g, s * 4 + 3, none⟩ (.slice none 0 0)) g (upd xs s ⟨⟨n, a, m, []⟩, none, 0⟩) := by
 have h1 := (((h.setN hs n).setA hs a).setM hs m).setL hs [] none 0 0 rfl
 simp only [or, av] at h1
 exact h1
end
def OpT (g : Nat) (xs : Nat → Dx) : ao where
 holds B w F := dL w g xs ∧ F = [g] ∧ B ≤ g
 kp := fun ⟨⟨cur, h1, h2⟩, h3, h4⟩ hk hS => ⟨⟨cur, by rw [hk.block g (ah h1) (hS g (by rw [h3]; simp))]; exact h1, h2⟩, h3, h4⟩
 lo := fun ⟨⟨cur, h1, _⟩, h3, h4⟩ x hx => by rw [h3] at hx; simp at hx; rw [hx]; exact ⟨h4, ah h1⟩
 base := fun ⟨h1, h3, h4⟩ hC => ⟨h1, h3, Nat.le_trans hC h4⟩
section
variable {w0 w w' : World} {g : Nat} {xs xs' : Nat → Dx} {l1 r : List ao}
theorem bf {os : List ao} (hz : Zoo w0 w os) (hm : OpT g xs ∈ os) : dL w g xs := by
 obtain ⟨F, h⟩ := ku hz hm
 exact h.1
theorem dj (hz : Zoo w0 w (l1 ++ OpT g xs :: r)) {o : Nat} {v : Value} (h : dL w g xs → dL (w.setCell ⟨g, o, none⟩ v) g xs') : Zoo w0 (w.setCell ⟨g, o, none⟩ v) (l1 ++ OpT g xs' :: r) := by
 obtain ⟨F, ⟨h1, h2, h3⟩, k⟩ := hz.at_
 exact k _ _ ⟨F, ⟨h h1, h2, h3⟩, by rw [h2]; exact (Kp.refl [g] w).setCell (.inl (by simp)) _, fun x hx => .inl hx⟩
theorem yf (hz : Zoo w0 w (l1 ++ OpT g xs :: r)) {s : Nat} (hs : s < 5) (n a m : Int) : Zoo w0 ((((w.setCell ⟨g, s * 4, none⟩ (.int .i64 n)).setCell ⟨g, s * 4 + 1, none⟩ (.int .i64 a)).setCell ⟨g, s * 4 + 2, none⟩ (.int .i64 m)).setCell ⟨g, s * 4 + 3, none⟩ (.slice none 0 0)) (l1 ++ OpT g (upd xs s ⟨⟨n, a, m, []⟩, none, 0⟩) :: r) := by
 obtain ⟨F, ⟨h1, h2, h3⟩, k⟩ := hz.at_
 exact k _ _ ⟨F, ⟨h1.put hs n a m, h2, h3⟩, by rw [h2]; exact ((((Kp.refl [g] w).setCell (.inl (by simp)) _).setCell (.inl (by simp)) _).setCell (.inl (by simp)) _).setCell (.inl (by simp)) _, fun x hx => .inl hx⟩
end
def sth (b : Bool) (x : Dx) (z : List Ax) : ao := if b = true then KwT 44 6 x.a z.length x.c (bS z) else aJ []
def gt (fl : Nat → Bool) (xs : Nat → Dx) (zs : Nat → List Ax) : List ao := [sth (fl 0) (xs 0) (zs 0), sth (fl 1) (xs 1) (zs 1), sth (fl 2) (xs 2) (zs 2), sth (fl 3) (xs 3) (zs 3), sth (fl 4) (xs 4) (zs 4)]
theorem kJ (fl : Nat → Bool) (xs : Nat → Dx) (zs : Nat → List Ax) {s : Nat} (hs : s < 5) : ∃ l1 l2, gt fl xs zs = l1 ++ sth (fl s) (xs s) (zs s) :: l2 ∧ ∀ b x z, gt (upd fl s b) (upd xs s x) (upd zs s z) = l1 ++ sth b x z :: l2 := by
 rcases (show s = 0 ∨ s = 1 ∨ s = 2 ∨ s = 3 ∨ s = 4 by omega) with e | e | e | e | e <;> subst e
 ·exact ⟨[], [_, _, _, _], rfl, fun b x z => by simp [gt, upd]⟩
 ·exact ⟨[_], [_, _, _], rfl, fun b x z => by simp [gt, upd]⟩
 ·exact ⟨[_, _], [_, _], rfl, fun b x z => by simp [gt, upd]⟩
 ·exact ⟨[_, _, _], [_], rfl, fun b x z => by simp [gt, upd]⟩
 ·exact ⟨[_, _, _, _], [], rfl, fun b x z => by simp [gt, upd]⟩
def YOk (bag : List ao) (y : Ax) : Prop := y.x.l = [] ∨ PsT y.a y.c y.x.l ∈ bag
def DOk (bag : List ao) (x : Dx) : Prop := ∃ z : List Ax, KwT 44 6 x.a z.length x.c (bS z) ∈ bag ∧ z.map Ax.x = x.d.acts ∧ ∀ y, y ∈ z → YOk bag y
theorem YOk.more {bag : List ao} {y : Ax} (h : YOk bag y) (o : ao) : YOk (o :: bag) y := h.imp id (List.mem_cons_of_mem _)
theorem DOk.more {bag : List ao} {x : Dx} (h : DOk bag x) (o : ao) : DOk (o :: bag) x := by
 obtain ⟨z, h1, h2, h3⟩ := h
 exact ⟨z, List.mem_cons_of_mem _ h1, h2, fun y hy => (h3 y hy).more o⟩
structure DS (i : Nat) (h : HSt) (k : Dk) (xs : Nat → Dx) (zs : Nat → List Ax) (fl : Nat → Bool) (ds : List Dx) (bag : List ao) : Prop where
 op : ∀ s, s < 5 → (xs s).d = k.op s
 live : ∀ s d, s < 5 → h.seat s = some d → fl s = true
 acts : ∀ s, s < 5 → fl s = true → (zs s).map Ax.x = (k.op s).acts
 yok : ∀ s, s < 5 → fl s = true → ∀ y, y ∈ zs s → YOk bag y
 len : ∀ s, s < 5 → fl s = true → (zs s).length ≤ i
 out : ds.map Dx.d = k.out
 dok : ∀ x, x ∈ ds → DOk bag x
 dl : ds.length ≤ i
def DL (cb ob : Nat) (h : HSt) (aO : Option Addr) (cO : Nat) (xs : Nat → Dx) (zs : Nat → List Ax) (fl : Nat → Bool) (ds : List Dx) (bag : List ao) : List ao := bG cb h :: OpT ob xs :: KwT 39 4 aO ds.length cO (aP ds) :: (gt fl xs zs ++ bag)
def zw (st : Nat → ax) (w : World) (cb ob i : Nat) (aO : Option Addr) (m cO : Nat) (wr : World) : Prop :=
 ∃ h k xs zs fl ds bag, m = ds.length ∧ jN dY dk0 (eJ st i) = (h, k) ∧ mW h i ∧ DS i h k xs zs fl ds bag ∧ Zoo w wr (DL cb ob h aO cO xs zs fl ds bag)
theorem mu {h : HSt} {x : ax} {s : Nat} {d : Dp} (hd : (hdo h x).seat s = some d) : (∃ d', h.seat s = some d') ∨ (x.d = 1 ∧ (hev h x).c = 0 ∧ s = x.s.toNat) := by
 have hk := ko h x
 generalize hdo h x = h2 at *
 generalize hev h x = e at *
 cases hk with
 | kind c => exact .inl ⟨_, hd⟩
 | clear c => exact .inl ⟨_, hd⟩
 | crash c => cases hd
 | range c1 c2 => exact .inl ⟨_, hd⟩
 | began c1 c2 c3 c4 =>
   rcases ci hd with ⟨q1, q2⟩ | ⟨q1, q2⟩
   ·exact .inr ⟨c1, rfl, q1⟩
   ·exact .inl ⟨_, q2⟩
 | beganNot c1 c2 c3 c4 => exact .inl ⟨_, hd⟩
 | none_ c1 c2 c3 => exact .inl ⟨_, hd⟩
 | there d0 c1 c2 c3 => exact .inl ⟨_, hd⟩
 | get d0 c1 c2 c3 =>
   rcases ci hd with ⟨q1, q2⟩ | ⟨q1, q2⟩
   ·exact .inl ⟨d0, by rw [q1]; exact c3⟩
   ·exact .inl ⟨_, q2⟩
 | put d0 c1 c2 c3 =>
   rcases ci hd with ⟨q1, q2⟩ | ⟨q1, q2⟩
   ·exact .inl ⟨d0, by rw [q1]; exact c3⟩
   ·exact .inl ⟨_, q2⟩
 | drop d0 c1 c2 c3 =>
   rcases ci hd with ⟨q1, q2⟩ | ⟨q1, q2⟩
   ·exact .inl ⟨d0, by rw [q1]; exact c3⟩
   ·exact .inl ⟨_, q2⟩
 | list d0 c1 c2 c3 =>
   rcases ci hd with ⟨q1, q2⟩ | ⟨q1, q2⟩
   ·exact .inl ⟨d0, by rw [q1]; exact c3⟩
   ·exact .inl ⟨_, q2⟩
 | commit d0 c1 c2 c3 =>
   have hd' : upd h.seat x.s.toNat none s = some d := hd
   unfold upd at hd'
   split at hd'
   ·cases hd'
   ·exact .inl ⟨_, hd'⟩
 | tear d0 c1 c2 c3 => cases hd
 | abort d0 c1 c2 c3 =>
   rcases ci hd with ⟨q1, q2⟩ | ⟨q1, q2⟩
   ·cases q2
   ·exact .inl ⟨_, q2⟩
section
variable {i : Nat} {h : HSt} {k : Dk} {xs : Nat → Dx} {zs : Nat → List Ax} {fl : Nat → Bool} {ds : List Dx} {bag : List ao} {x : ax}
theorem DS.live_ (hd : DS i h k xs zs fl ds bag) (hx : ¬ (x.d = 1 ∧ (hev h x).c = 0)) : ∀ s d, s < 5 → (hdo h x).seat s = some d → fl s = true := fun s d hs hq => by
 rcases mu hq with ⟨d', q⟩ | q
 ·exact hd.live s d' hs q
 ·exact absurd ⟨q.1, q.2.1⟩ hx
theorem DS.same (hd : DS i h k xs zs fl ds bag) (hx : ¬ (x.d = 1 ∧ (hev h x).c = 0)) : DS (i + 1) (hdo h x) k xs zs fl ds bag :=
 ⟨hd.op, hd.live_ hx, hd.acts, hd.yok, fun s hs hf => by have := hd.len s hs hf; omega, hd.out, hd.dok, by have := hd.dl; omega⟩
theorem DS.begin (hd : DS i h k xs zs fl ds bag) {s : Nat} (hs : s < 5) (hx : x.s.toNat = s) (a m : Int) : DS (i + 1) (hdo h x) ⟨upd k.op s ⟨0, a, m, []⟩, k.out⟩ (upd xs s ⟨⟨0, a, m, []⟩, none, 0⟩) (upd zs s []) (upd fl s true) ds bag := by
 refine ⟨fun j hj => ?_, fun j d hj hq => ?_, fun j hj hf => ?_, fun j hj hf => ?_, fun j hj hf => ?_, hd.out, hd.dok, by have := hd.dl; omega⟩
 ·by_cases e : j = s
  ·subst e; rw [av]; show _ = upd k.op j _ j; rw [av]
  ·rw [aq _ _ _ e]; show _ = upd k.op s _ j; rw [aq _ _ _ e]; exact hd.op j hj
 ·by_cases e : j = s
  ·subst e; rw [av]
  ·rw [aq _ _ _ e]
   rcases mu hq with ⟨d', q⟩ | q
   ·exact hd.live j d' hj q
   ·exact absurd (q.2.2.trans hx) e
 ·by_cases e : j = s
  ·subst e; rw [av]; show _ = (upd k.op j _ j).acts; rw [av]; rfl
  ·rw [aq _ _ _ e] at hf ⊢; show _ = (upd k.op s _ j).acts; rw [aq _ _ _ e]; exact hd.acts j hj hf
 ·by_cases e : j = s
  ·subst e; rw [av]; intro y hy; cases hy
  ·rw [aq _ _ _ e] at hf ⊢; exact hd.yok j hj hf
 ·by_cases e : j = s
  ·subst e; rw [av]; exact Nat.zero_le _
  ·rw [aq _ _ _ e] at hf ⊢; have := hd.len j hj hf; omega
theorem DS.on (hd : DS i h k xs zs fl ds bag) (hx : ¬ (x.d = 1 ∧ (hev h x).c = 0)) {s : Nat} (hs : s < 5) (hf0 : fl s = true) (y : Ax) (a : Option Addr) (c : Nat) (P : ao) (hy : YOk (P :: bag) y) : DS (i + 1) (hdo h x) ⟨upd k.op s { k.op s with acts := (k.op s).acts ++ [y.x] }, k.out⟩ (upd xs s ⟨{ (xs s).d with acts := (k.op s).acts ++ [y.x] }, a, c⟩) (upd zs s (zs s ++ [y])) (upd fl s true) ds (P :: bag) := by
 have hfl : ∀ j, upd fl s true j = true → fl j = true := fun j hj => by
  by_cases e : j = s
  ·rw [e]; exact hf0
  ·rwa [aq _ _ _ e] at hj
 refine ⟨fun j hj => ?_, fun j d hj hq => ?_, fun j hj hf => ?_, fun j hj hf => ?_, fun j hj hf => ?_, hd.out, fun q hq => (hd.dok q hq).more P, by have := hd.dl; omega⟩
 ·by_cases e : j = s
  ·subst e; rw [av]; show _ = upd k.op j _ j; rw [av, hd.op j hj]
  ·rw [aq _ _ _ e]; show _ = upd k.op s _ j; rw [aq _ _ _ e]; exact hd.op j hj
 ·by_cases e : j = s
  ·subst e; rw [av]
  ·rw [aq _ _ _ e]; exact hd.live_ hx j d hj hq
 ·by_cases e : j = s
  ·subst e; rw [av]; show _ = (upd k.op j _ j).acts; rw [av, List.map_append, hd.acts j hj hf0]; rfl
  ·rw [aq _ _ _ e]; show _ = (upd k.op s _ j).acts; rw [aq _ _ _ e]; exact hd.acts j hj (hfl j hf)
 ·by_cases e : j = s
  ·subst e
   rw [av]
   intro z hz
   rcases List.mem_append.1 hz with q | q
   ·exact (hd.yok j hj hf0 z q).more P
   ·rw [List.mem_singleton.1 q]; exact hy
  ·rw [aq _ _ _ e]; exact fun z hz => (hd.yok j hj (hfl j hf) z hz).more P
 ·by_cases e : j = s
  ·subst e; rw [av, List.length_append, List.length_singleton]; have := hd.len j hj hf0; omega
  ·rw [aq _ _ _ e]; have := hd.len j hj (hfl j hf); omega
theorem DS.done (hd : DS i h k xs zs fl ds bag) (hx : ¬ (x.d = 1 ∧ (hev h x).c = 0)) {s : Nat} (hs : s < 5) (hf0 : fl s = true) (hh : (hdo h x).seat s = none) (n : Int) : DS (i + 1) (hdo h x) ⟨upd k.op s { k.op s with n := n }, k.out ++ [{ k.op s with n := n }]⟩ (upd xs s ⟨{ (xs s).d with n := n }, (xs s).a, (xs s).c⟩) (upd zs s (zs s)) (upd fl s false) (ds ++ [⟨{ (xs s).d with n := n }, (xs s).a, (xs s).c⟩]) (sth (fl s) (xs s) (zs s) :: bag) := by
 have hfl : ∀ j, upd fl s false j = true → j ≠ s ∧ fl j = true := fun j hj => by
  by_cases e : j = s
  ·subst e; rw [av] at hj; cases hj
  ·rw [aq _ _ _ e] at hj; exact ⟨e, hj⟩
 have ho := hd.op s hs
 refine ⟨fun j hj => ?_, fun j d hj hq => ?_, fun j hj hf => ?_, fun j hj hf => ?_, fun j hj hf => ?_, ?_, fun q hq => ?_, by have := hd.dl; rw [List.length_append, List.length_singleton]; omega⟩
 ·by_cases e : j = s
  ·subst e; rw [av]; show _ = upd k.op j _ j; rw [av, hd.op j hj]
  ·rw [aq _ _ _ e]; show _ = upd k.op s _ j; rw [aq _ _ _ e]; exact hd.op j hj
 ·by_cases e : j = s
  ·subst e; rw [hh] at hq; cases hq
  ·rw [aq _ _ _ e]; exact hd.live_ hx j d hj hq
 ·obtain ⟨e, hf⟩ := hfl j hf
  rw [aq _ _ _ e]; show _ = (upd k.op s _ j).acts; rw [aq _ _ _ e]; exact hd.acts j hj hf
 ·obtain ⟨e, hf⟩ := hfl j hf
  rw [aq _ _ _ e]; exact fun z hz => (hd.yok j hj hf z hz).more _
 ·obtain ⟨e, hf⟩ := hfl j hf
  rw [aq _ _ _ e]; have := hd.len j hj hf; omega
 ·rw [List.map_append, hd.out]; show _ = k.out ++ _; rw [← ho]; rfl
 ·rcases List.mem_append.1 hq with q1 | q1
  ·exact (hd.dok q q1).more _
  ·rw [List.mem_singleton.1 q1]
   refine ⟨zs s, ?_, ?_, fun y hy => (hd.yok s hs hf0 y hy).more _⟩
   ·unfold sth; rw [if_pos hf0]; exact mh
   ·rw [hd.acts s hs hf0]; show _ = (xs s).d.acts; rw [ho]
end
theorem zZ {w wr : World} {cb ob : Nat} {h : HSt} {k : Dk} {aO : Option Addr} {cO i : Nat} {xs : Nat → Dx} {zs : Nat → List Ax} {fl : Nat → Bool} {ds : List Dx} {bag : List ao} (hd : DS i h k xs zs fl ds bag) (hz : Zoo w wr (DL cb ob h aO cO xs zs fl ds bag)) : fp wr aO k.out := by
 have hrow := bq (l1 := [bG cb h, OpT ob xs]) hz
 rw [← hd.out]
 intro hp
 rw [List.length_map] at hp
 obtain ⟨g, e, _⟩ := hrow.cell (fg (List.getElem?_eq_getElem hp)).1
 refine ⟨g, 0, e, fun i d hdd => ?_⟩
 rw [List.getElem?_map] at hdd
 cases hy : ds[i]? with
 | none => rw [hy] at hdd; cases hdd
 | some y =>
   rw [hy] at hdd
   simp only [Option.map_some, Option.some.injEq] at hdd
   subst hdd
   obtain ⟨c0, c1, c2, c3⟩ := fg hy
   have key : ∀ {j : Nat} {v : Value}, (aP ds)[j]? = some v → wr.cell? ⟨g, j, none⟩ = some v := fun {j v} hv => by
    obtain ⟨g', e', hc⟩ := hrow.cell hv
    rw [e] at e'
    simp only [Option.some.injEq, Addr.mk.injEq, and_true] at e'
    rw [e']
    exact hc
   obtain ⟨z, hz1, hz2, hz3⟩ := hd.dok y (List.mem_of_getElem? hy)
   have hmem : ∀ {o : ao}, o ∈ bag → o ∈ DL cb ob h aO cO xs zs fl ds bag := fun {o} hm => by simp only [DL, List.mem_cons, List.mem_append]; exact .inr (.inr (.inr (.inr hm)))
   obtain ⟨l1, l2, el⟩ := List.append_of_mem (hmem hz1)
   have hr2 := bq (l1 := l1) (r := l2) (by rw [← el]; exact hz)
   rw [Nat.zero_add]
   refine ⟨key c0, key c1, key c2, ⟨y.a, y.c, key c3, ?_⟩, y.a, y.c, key c3, ?_⟩
   ·rw [← hz2, List.length_map]
    exact jn hr2
   ·rw [← hz2]
    refine fQ hr2 (fun q hq => ?_)
    rcases hz3 q hq with e1 | e1
    ·rw [e1]; exact bY _ _
    ·exact nm hz (hmem e1)
section
variable {w0 w w' : World} {A O K C P B : ao} {fl : Nat → Bool} {xs : Nat → Dx} {zs : Nat → List Ax} {bag : List ao} {s : Nat}
theorem dT {r : List ao} (hz : Zoo w0 w r) : Zoo w0 w (aJ [] :: r) := bR (os := []) hz
theorem wW {S : List ao} (hz : Zoo w0 w (C :: P :: B :: O :: K :: (S ++ bag))) : Zoo w0 w (C :: B :: O :: K :: (S ++ (P :: bag))) := by
 refine hz.perm (List.Perm.cons _ ?_)
 have : (P :: ((B :: O :: K :: S) ++ bag)).Perm ((B :: O :: K :: S) ++ P :: bag) := List.perm_middle.symm
 exact this
theorem sk {S : List ao} (hz : Zoo w0 w (C :: B :: O :: K :: (S ++ bag))) : Zoo w0 w (C :: B :: O :: K :: (S ++ (aJ [] :: bag))) := wW (bB (dT hz))
theorem mE (hs : s < 5) (d : Dn) (hz : Zoo w0 w (A :: O :: K :: (gt fl xs zs ++ bag))) : Zoo w0 w (A :: O :: K :: (gt (upd fl s true) (upd xs s ⟨d, none, 0⟩) (upd zs s []) ++ bag)) := by
 obtain ⟨l1, l2, e1, e2⟩ := kJ fl xs zs hs
 rw [e1, List.append_assoc] at hz
 rw [e2, List.append_assoc]
 have h1 : Zoo w0 w ((A :: O :: K :: l1) ++ sth (fl s) (xs s) (zs s) :: (l2 ++ bag)) := hz
 have h2 := du 44 6 h1.drop_
 have h3 : Zoo w0 w ((A :: O :: K :: l1) ++ KwT 44 6 none 0 0 [] :: (l2 ++ bag)) := h2.perm (List.perm_middle (l₁ := A :: O :: K :: l1)).symm
 exact h3
theorem lp (hs : s < 5) (x : Dx) (z : List Ax) (hz : Zoo w0 w (A :: O :: K :: (gt fl xs zs ++ bag))) : Zoo w0 w (A :: O :: K :: (gt (upd fl s false) (upd xs s x) (upd zs s z) ++ (sth (fl s) (xs s) (zs s) :: bag))) := by
 obtain ⟨l1, l2, e1, e2⟩ := kJ fl xs zs hs
 rw [e1, List.append_assoc] at hz
 rw [e2, List.append_assoc]
 have h1 : Zoo w0 w ((A :: O :: K :: l1) ++ sth (fl s) (xs s) (zs s) :: (l2 ++ bag)) := hz
 have h2 := h1.perm (List.perm_middle (l₁ := A :: O :: K :: l1))
 have h3 : Zoo w0 w (aJ [] :: sth (fl s) (xs s) (zs s) :: (A :: O :: K :: l1) ++ (l2 ++ bag)) := dT h2
 have p1 : (aJ [] :: sth (fl s) (xs s) (zs s) :: (A :: O :: K :: l1) ++ (l2 ++ bag)).Perm ((A :: O :: K :: l1) ++ aJ [] :: (l2 ++ (sth (fl s) (xs s) (zs s) :: bag))) := by
  have q1 : ((A :: O :: K :: l1) ++ aJ [] :: (l2 ++ (sth (fl s) (xs s) (zs s) :: bag))).Perm (aJ [] :: ((A :: O :: K :: l1) ++ (l2 ++ (sth (fl s) (xs s) (zs s) :: bag)))) := List.perm_middle
  refine List.Perm.trans ?_ q1.symm
  refine List.Perm.cons _ ?_
  have q2 : (((A :: O :: K :: l1) ++ l2) ++ sth (fl s) (xs s) (zs s) :: bag).Perm (sth (fl s) (xs s) (zs s) :: (((A :: O :: K :: l1) ++ l2) ++ bag)) := List.perm_middle
  rw [List.append_assoc, List.append_assoc] at q2
  exact q2.symm
 exact h3.perm p1
theorem fw {L : List ao} (hs : s < 5) (hf : fl s = true) (hz : Zoo w0 w (L ++ (gt fl xs zs ++ bag))) : bn 44 6 w0.heap.size w (xs s).a (zs s).length (xs s).c (bS (zs s)) ∧
 ∀ (a2 : Option Addr) (c2 : Nat) (d : Dn) (y : Ax) (w' : World), bn 44 6 w0.heap.size w' a2 ((zs s).length + 1) c2 (bS (zs s) ++ axc y) → Kp (ob (xs s).a) w w' → (∀ x ∈ ob a2, x ∈ ob (xs s).a ∨ w.heap.size ≤ x) → Zoo w0 w' (L ++ (gt (upd fl s true) (upd xs s ⟨d, a2, c2⟩) (upd zs s (zs s ++ [y])) ++ bag)) := by
 obtain ⟨l1, l2, e1, e2⟩ := kJ fl xs zs hs
 have e3 : sth (fl s) (xs s) (zs s) = KwT 44 6 (xs s).a (zs s).length (xs s).c (bS (zs s)) := by unfold sth; rw [if_pos hf]
 rw [e1, List.append_assoc, e3] at hz
 have h1 : Zoo w0 w ((L ++ l1) ++ KwT 44 6 (xs s).a (zs s).length (xs s).c (bS (zs s)) :: (l2 ++ bag)) := by rw [List.append_assoc]; exact hz
 refine ⟨bq h1, fun a2 c2 d y w' g1 g2 g3 => ?_⟩
 have h2 := cS h1 g1 g2 g3
 rw [e2, List.append_assoc]
 have e4 : sth true ⟨d, a2, c2⟩ (zs s ++ [y]) = KwT 44 6 a2 ((zs s).length + 1) c2 (bS (zs s) ++ axc y) := by
  unfold sth
  rw [if_pos rfl, List.length_append, List.length_singleton, jE]
  simp [bS]
 rw [e4]
 rw [List.append_assoc] at h2
 exact h2
end
section
variable {i : Nat} {h : HSt} {k : Dk} {xs : Nat → Dx} {zs : Nat → List Ax} {fl : Nat → Bool} {ds : List Dx} {bag : List ao} {x : ax} {v : Ev}
theorem DS.plus (hd : DS i h k xs zs fl ds bag) (P : ao) : DS i h k xs zs fl ds (P :: bag) :=
 ⟨hd.op, hd.live, hd.acts, fun s hs hf y hy => (hd.yok s hs hf y hy).more P, hd.len, hd.out, fun q hq => (hd.dok q hq).more P, hd.dl⟩
theorem pi (hv : hev h x = v) (hb : dz h x.s = false) (hx : ¬ (x.d = 1 ∧ v.c = 0)) : be h k x = k := by
 unfold be
 rw [hv, hb, cP k hx]
 rfl
theorem mB (hv : hev h x = v) (hb : dz h x.s = false) (hx : x.d = 1 ∧ v.c = 0) : be h k x = ⟨upd k.op x.s.toNat ⟨0, if x.md = 3 then x.at_ else (h.n : Int), x.md, []⟩, k.out⟩ := by
 unfold be lv
 rw [hv, hb, if_pos hx]
 rfl
theorem lm (hv : hev h x = v) (hb : dz h x.s = true) (hx : (x.d = 6 ∧ v.c = 0) ∨ (x.d = 10 ∧ 0 < v.n)) : be h k x = ⟨upd k.op x.s.toNat { k.op x.s.toNat with n := v.n }, k.out ++ [{ k.op x.s.toNat with n := v.n }]⟩ := by
 unfold be
 rw [hv, if_pos hb, cP k (by omega)]
 unfold iq
 rw [if_pos hx]
theorem ph (hv : hev h x = v) (hb : dz h x.s = true) (hx : 2 ≤ x.d ∧ x.d ≤ 5) (hc : v.c = 0) : be h k x = ⟨upd k.op x.s.toNat { k.op x.s.toNat with acts := (k.op x.s.toNat).acts ++ [eU x v] }, k.out⟩ := by
 unfold be
 rw [hv, if_pos hb, cP k (by omega)]
 unfold iq
 rw [if_neg (by omega), if_neg (fun q => q hc), if_pos hx]
theorem jw (hv : hev h x = v) (hb : dz h x.s = true) (h0 : ¬ (x.d = 1 ∧ v.c = 0)) (hx : ¬ ((x.d = 6 ∧ v.c = 0) ∨ (x.d = 10 ∧ 0 < v.n))) (hx2 : v.c ≠ 0 ∨ ¬ (2 ≤ x.d ∧ x.d ≤ 5)) : be h k x = k := by
 unfold be
 rw [hv, if_pos hb, cP k h0]
 exact dV k (fun q q2 => hx (.inl ⟨q, q2⟩)) (fun q q2 => hx (.inr ⟨q, q2⟩)) hx2
theorem aZ (hv : hev h x = v) (hb : dz h x.s = true) : ¬ (x.d = 1 ∧ v.c = 0) := fun q => by
 unfold dz at hb
 simp only [Bool.and_eq_true, decide_eq_true_eq] at hb
 obtain ⟨h5, hs⟩ := hb
 cases hd : h.seat x.s.toNat with
 | none => rw [hd] at hs; cases hs
 | some d =>
   have heq := (aW.there (h := h) (x := x) d q.1 h5 hd).eq
   rw [← hv, heq.2] at q
   exact absurd q.2 (by decide)
theorem mj (hv : hev h x = v) (h5 : ¬ (0 ≤ x.s ∧ x.s < 5)) : ¬ (x.d = 1 ∧ v.c = 0) := fun q => by
 have heq := (aW.range (h := h) (x := x) (by omega) h5).eq
 rw [← hv, heq.2] at q
 exact absurd q.2 (by decide)
theorem hJ (_hv : hev h x = v) (hb : dz h x.s = true) (hx : (x.d = 6 ∧ v.c = 0) ∨ (x.d = 10 ∧ 0 < v.n)) : (hdo h x).seat x.s.toNat = none := by
 unfold dz at hb
 simp only [Bool.and_eq_true, decide_eq_true_eq] at hb
 obtain ⟨h5, hs⟩ := hb
 cases hd : h.seat x.s.toNat with
 | none => rw [hd] at hs; cases hs
 | some d =>
   rcases hx with ⟨q, _⟩ | ⟨q, _⟩
   ·rw [(aW.commit (h := h) (x := x) d q h5 hd).eq.1]
    exact av _ _ _
   ·rw [(aW.tear (h := h) (x := x) d q h5 hd).eq.1]
end
end
end Go.Proofs.YtldkeaeohceckacGreat
