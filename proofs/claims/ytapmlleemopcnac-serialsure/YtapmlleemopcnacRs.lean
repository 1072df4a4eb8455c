/- The document's Serial of deeds, by its contract. -/
import Derived.Test.YtapmlleemopcnacRt
import Derived.Test.YtapmlleemopcnacM10
namespace Go.Proofs.Ytapmlleemopcnac
open Go.RowKit Srt
set_option maxRecDepth 20000
attribute [local go_sem ↓] Go.wp_at_zero Go.wp_at_succ

def sN (k : Nat) (v : Nat → Ver) (ok : Bool) (l : List Dn) : (Nat → Ver) × Bool := if 0 < k then srN k v ok l else (v, ok)
theorem srs_step {ds : List Dn} {M k : Nat} (hk : k ≤ M) (v : Nat → Ver) (ok : Bool) : srs ds (M + 1 - k) k v ok = srs ds (M + 1 - (k + 1)) (k + 1) (sN k v ok ds).1 (srL k (sN k v ok ds).1 (sN k v ok ds).2 ds) := by
  rw [show M + 1 - k = (M + 1 - (k + 1)) + 1 by omega]
  rfl
set_option maxHeartbeats 8000000 in
theorem rserial (a : Option Addr) (c : Nat) (ds : List Dn) (w : World) (h : DnsIn w a ds) (hok : DnsOk ds) (hn : ∀ d, d ∈ ds → d.n ≤ 1000) :
    Calls Try.prog 47 #[.slice a ds.length c] w fun e w' => e = .returned (.bool (ser ds)) ∧ Kp [] w w' := by
  have HD := hide h
  have HO := hide hok
  have HNN := hide hn
  have hm := hok.1
  clear h hok hn
  obtain ⟨m, hmm⟩ : ∃ m, ds.length = m := ⟨_, rfl⟩
  have HM := hide hmm
  rw [hmm] at hm ⊢
  clear hmm
  obtain ⟨R, hR⟩ : ∃ R, ser ds = R := ⟨_, rfl⟩
  rw [hR]
  have HR := hide hR
  clear hR
  go_enter Try.func47, Try.ntmps47
  go_wp2_with fail
  go_loop [3, 4] (fun x y => ∃ (i : Nat) (gr : Int), i ≤ m ∧ x = .int .i64 gr ∧ y = .int .i64 i ∧ 0 ≤ gr ∧ Hid (mxn gr (ds.drop i) = mxn 0 ds)) (fun _ y => m - (intOf y).toNat)
  case atStart => exact ⟨0, 0, Nat.zero_le _, rfl, rfl, Int.le_refl _, rfl⟩
  case round =>
    obtain ⟨i, gr, hi, rfl, rfl, hg0, HX⟩ := hrel
    by_cases hlt : i < m
    · have j1 : (i : Int) < (m : Int) := by omega
      have j0 : (0 : Int) ≤ (i : Int) := by omega
      have hln : i < ds.length := by have := unhide HM; omega
      obtain ⟨g, o, rfl, hbd⟩ := (unhide HD) (by omega)
      obtain ⟨x, hx⟩ : ∃ x, ds[i]? = some x := ⟨_, List.getElem?_eq_getElem hln⟩
      have hdr : ds.drop i = x :: ds.drop (i + 1) := by
        rw [List.drop_eq_getElem_cons hln]
        rw [List.getElem?_eq_getElem hln] at hx
        rw [Option.some.inj hx]
      have HDR := hide hdr
      have q0 := (hbd i x hx).c0
      clear hbd hx hdr
      obtain ⟨xn, xa, xm, xacts⟩ := x
      dsimp only at q0
      by_cases hgt : gr < xn
      · go_wp2_with fail
        refine ⟨⟨i + 1, xn, by omega, rfl, by go_num, by omega, ?_⟩, by simp [intOf]; omega⟩
        have z := unhide HX
        rw [unhide HDR] at z
        simp only [mxn] at z
        rw [if_pos hgt] at z
        exact z
      · go_wp2_with fail
        refine ⟨⟨i + 1, gr, by omega, rfl, by go_num, hg0, ?_⟩, by simp [intOf]; omega⟩
        have z := unhide HX
        rw [unhide HDR] at z
        simp only [mxn] at z
        rw [if_neg hgt] at z
        exact z
    · have j1 : ¬ (i : Int) < (m : Int) := by omega
      have hgr : gr = mxn 0 ds := by
        have z := unhide HX
        rw [List.drop_eq_nil_of_le (by have := unhide HM; omega)] at z
        exact z
      obtain ⟨M, rfl⟩ : ∃ M : Nat, gr = (M : Int) := ⟨gr.toNat, by omega⟩
      have hM : M ≤ 1000 := by
        rcases mxn_is ds 0 with e | ⟨d, h1, h2⟩
        · omega
        · have := unhide HNN d h1; omega
      have HR2 : Hid (srs ds (M + 1 - 0) 0 (fun _ => dv) true = R) := by
        have z := unhide HR
        unfold ser at z
        rw [← hgr] at z
        exact z
      clear hgr HX HR
      have HZ0 := hide ((zoo_nil (Kp.refl [] w)).box (wagg (fun _ => dv)) 72)
      rw [zeros_eq] at HZ0
      go_wp2_with fail
      generalize w.heap.size = p5 at *
      go_loopw [6, 7, 8, 9, 10, 11, 12, 13] (fun x y _ _ _ _ _ _ wr => ∃ (k : Nat) (ok : Bool), k ≤ M + 1 ∧ x = .bool ok ∧ y = .int .i64 k ∧ Hid (∃ v, Zoo w wr [BoxT p5 (wagg v) 72] ∧ srs ds (M + 1 - k) k v ok = R)) (fun _ y _ _ _ _ _ _ _ => M + 1 - (intOf y).toNat)
      case atStart => exact ⟨0, true, Nat.zero_le _, rfl, rfl, fun _ => dv, unhide HZ0, unhide HR2⟩
      case round =>
        obtain ⟨k, ok, hk, rfl, rfl, HI⟩ := hrel
        obtain ⟨v, hz, hr⟩ := unhide HI
        have HZ := hide hz
        have HRR := hide hr
        clear hz hr HI HZ0 HR2
        by_cases hle : k ≤ M
        · have k1 : (k : Int) ≤ (M : Int) := by omega
          have HST := hide ((srs_step hle v ok).symm.trans (unhide HRR))
          clear HRR
          obtain ⟨P, hP⟩ : ∃ P, sN k v ok ds = P := ⟨_, rfl⟩
          rw [hP] at HST
          have HP := hide hP
          clear hP
          go_wp2_with fail
          go_loopw [6, 8, 9, 10] (fun x y _ _ wr => ∃ (i : Nat) (ok2 : Bool), i ≤ m ∧ x = .bool ok2 ∧ y = .int .i64 i ∧ Hid (∃ u, Zoo w wr [BoxT p5 (wagg u) 72] ∧ sN k u ok2 (ds.drop i) = P)) (fun _ y _ _ _ => m - (intOf y).toNat)
          case atStart => exact ⟨0, ok, Nat.zero_le _, rfl, rfl, v, unhide HZ, unhide HP⟩
          case round =>
            obtain ⟨i, ok2, hi2, rfl, rfl, HI⟩ := hrel
            obtain ⟨u, hz, hr⟩ := unhide HI
            have HZ2 := hide hz
            have HSN := hide hr
            clear hz hr HI HZ
            by_cases hin : i < m ∧ 0 < k
            · obtain ⟨hlt2, hk0⟩ := hin
              have k0 : (0 : Int) < (k : Int) := by omega
              have j1 : (i : Int) < (m : Int) := by omega
              have j0 : (0 : Int) ≤ (i : Int) := by omega
              have hln : i < ds.length := by have := unhide HM; omega
              obtain ⟨g, o, rfl, hbd⟩ := (unhide HD) (by omega)
              obtain ⟨x, hx⟩ : ∃ x, ds[i]? = some x := ⟨_, List.getElem?_eq_getElem hln⟩
              have hdr : ds.drop i = x :: ds.drop (i + 1) := by
                rw [List.drop_eq_getElem_cons hln]
                rw [List.getElem?_eq_getElem hln] at hx
                rw [Option.some.inj hx]
              have HDR := hide hdr
              have hok := (unhide HO).2 x (List.mem_of_getElem? hx)
              have hat := hbd i x hx
              obtain ⟨la, lc, z3, hls⟩ := hat.ls
              have q0 := (unhide HZ2).kp.cell (by simp) hat.c0
              have q1 := (unhide HZ2).kp.cell (by simp) hat.c1
              have q2 := hat.c2
              have HLS := hide hls
              clear hbd hx hls hat hdr
              obtain ⟨xn, xa, xm, xacts⟩ := x
              dsimp only at q0 q1 q2 z3 HLS hok
              have HOK := hide hok
              clear hok
              obtain ⟨ln, hlen⟩ : ∃ ln, xacts.length = ln := ⟨_, rfl⟩
              rw [hlen] at z3
              have HLX := hide hlen
              have HZ3 : Hid (w.cell? ⟨g, o + i * 4 + 3, none⟩ = some (.slice la ln lc)) := z3
              have HQ2 := hide q2
              clear hlen z3 q2
              by_cases he : xn = (k : Int)
              · go_wp2_with fail
                refine wp_region_held_drew (S := fun w' => w'.cell? ⟨g, o + i * 4 + 3, none⟩ = some (.slice la ln lc) ∧ w'.rangeAt p5 0 (wagg u).toList) (by kernel_rfl) (And.intro ((unhide HZ2).kp.drew.cell (by simp) (unhide HZ3)) (rangeAt_var (zoo_varm ((unhide HZ2).kp0 ((Kp.refl [] wr).drew)) (List.Mem.head _)))) (fun hHeld => ?_)
                have HA0 := hide ((unhide HZ2).kp0 ((Kp.refl [] wr).drew))
                generalize World.drew _ = WD at HA0 hHeld ⊢
                refine wpAnyH_tk (i := 0) rfl (by kernel_rfl) (by kernel_rfl) (by kernel_rfl) (fun _ _ _ h => h) (yields_mid (by rfl) _ rfl p5 0 rfl u (fun _ h => h.2)) hHeld ?_
                try simp only [Act.put, List.setIfInBounds_toArray, List.set_cons_zero, List.set_cons_succ]
                refine wpAnyH_tk (i := 1) (v := ?_) rfl (by kernel_rfl) (by kernel_rfl) (by kernel_rfl) (fun _ _ _ h => h) (Or.inl ⟨by rfl, ?_⟩) hHeld ?_
                rotate_left
                · intro w hSw
                  try dsimp only at hSw
                  go_simp
                  try with_reducible rfl
                try simp only [Act.put, List.setIfInBounds_toArray, List.set_cons_zero, List.set_cons_succ]
                refine wpAnyH_tk (i := 2) (v := ?_) rfl (by kernel_rfl) (by kernel_rfl) (by kernel_rfl) (fun _ _ _ h => h) (Or.inl ⟨by rfl, ?_⟩) hHeld ?_
                rotate_left
                · intro w hSw
                  try dsimp only at hSw
                  go_simp
                  try with_reducible rfl
                try simp only [Act.put, List.setIfInBounds_toArray, List.set_cons_zero, List.set_cons_succ]
                refine wpAnyH_tk (i := 3) (v := ?_) rfl (by kernel_rfl) (by kernel_rfl) (by kernel_rfl) (fun _ _ _ h => h) (Or.inl ⟨by rfl, ?_⟩) hHeld ?_
                rotate_left
                · intro w hSw
                  try dsimp only at hSw
                  go_simp
                  try with_reducible rfl
                try simp only [Act.put, List.setIfInBounds_toArray, List.set_cons_zero, List.set_cons_succ]
                refine wpAnyH_tk (i := 4) (v := ?_) rfl (by kernel_rfl) (by kernel_rfl) (by kernel_rfl) (fun _ _ _ h => h) (Or.inl ⟨by rfl, ?_⟩) hHeld ?_
                rotate_left
                · intro w hSw
                  try dsimp only at hSw
                  go_simp
                  try with_reducible rfl
                try simp only [Act.put, List.setIfInBounds_toArray, List.set_cons_zero, List.set_cons_succ]
                refine wpAnyH_tk (i := 5) (v := ?_) rfl (by kernel_rfl) (by kernel_rfl) (by kernel_rfl) (fun _ _ _ h => h) (Or.inl ⟨by rfl, ?_⟩) hHeld ?_
                rotate_left
                · intro w hSw
                  try dsimp only at hSw
                  go_simp
                  try with_reducible rfl
                try simp only [Act.put, List.setIfInBounds_toArray, List.set_cons_zero, List.set_cons_succ]
                refine wpAnyH_two (i := 6) (j := 10) rfl rfl (by kernel_rfl) (fun K hK => ?_) (fun K hK => ?_)
                · go_simp
                  rw [← unhide HLX]
                  refine (rreplay u la lc xacts _ ((unhide HLS).kp0 (unhide HA0).kp) (unhide HOK)).mono ?_
                  rintro e w6 ⟨rfl, hk6⟩
                  rw [unhide HLX]
                  have HA1 := hide ((unhide HA0).kp0 hk6)
                  clear hk6
                  go_wp2_with fail
                  refine hK.out _ _ (And.intro ((unhide HA1).kp.cell (by simp) (unhide HZ3)) (rangeAt_var (zoo_varm (unhide HA1) (List.Mem.head _)))) (fun hHeld2 => ?_)
                  clear hK K hHeld
                  have hHeld := hHeld2
                  clear hHeld2
                  try simp only [Act.put, List.setIfInBounds_toArray, List.set_cons_zero, List.set_cons_succ]
                  refine wpAnyH_tk (i := 7) (v := ?_) rfl (by kernel_rfl) (by kernel_rfl) (by kernel_rfl) (fun _ _ _ h => h) (Or.inl ⟨by rfl, ?_⟩) hHeld ?_
                  rotate_left
                  · intro w hSw
                    try dsimp only at hSw
                    go_simp
                    try with_reducible rfl
                  try simp only [Act.put, List.setIfInBounds_toArray, List.set_cons_zero, List.set_cons_succ]
                  refine wpAnyH_tk (i := 8) (v := ?_) rfl (by kernel_rfl) (by kernel_rfl) (by kernel_rfl) (fun _ _ _ h => h) (Or.inl ⟨by rfl, ?_⟩) hHeld ?_
                  rotate_left
                  · intro w hSw
                    try dsimp only at hSw
                    go_simp
                    try with_reducible rfl
                  try simp only [Act.put, List.setIfInBounds_toArray, List.set_cons_zero, List.set_cons_succ]
                  refine wpAnyH_tk (i := 9) (v := ?_) rfl (by kernel_rfl) (by kernel_rfl) (by kernel_rfl) (fun _ _ _ h => h) (Or.inl ⟨by rfl, ?_⟩) hHeld ?_
                  rotate_left
                  · intro w hSw
                    try dsimp only at hSw
                    go_simp
                    try with_reducible rfl
                  try simp only [Act.put, List.setIfInBounds_toArray, List.set_cons_zero, List.set_cons_succ]
                  refine wpAnyH_only (i := 10) rfl (by kernel_rfl) (fun K hK => ?_)
                  go_simp
                  have HA2 := hide ((unhide HA1).box (wagg (fun _ => dv)) 72)
                  rw [zeros_eq] at HA2
                  refine hK.out _ _ (And.intro ((unhide HA2).kp.cell (by simp) (unhide HZ3)) (rangeAt_var (zoo_varm (unhide HA2) (List.Mem.tail _ (List.Mem.head _))))) (fun hHeld2 => ?_)
                  clear hK K hHeld
                  have hHeld := hHeld2
                  clear hHeld2
                  try simp only [Act.put, List.setIfInBounds_toArray, List.set_cons_zero, List.set_cons_succ]
                  generalize w6.heap.size = p9 at *
                  refine wpAnyH_only (i := 11) rfl (by kernel_rfl) (fun K hK => ?_)
                  rw [if_pos (by rfl)]
                  refine wp_store_row 72 _ _ rfl p9 (wagg (rpw u xacts)) rfl rfl 72 _ (zoo_varm (unhide HA2) (List.Mem.head _)) Try.size72 rfl (wagg_one _) ?_
                  have HZF := hide (zoo_setrL (l1 := []) (c' := wagg (rpw u xacts)) (unhide HA2))
                  refine hK.out _ _ (And.intro ((unhide HZF).kp.cell (by simp) (unhide HZ3)) (rangeAt_var (zoo_varm (unhide HZF) (List.Mem.tail _ (List.Mem.head _))))) (fun hHeld2 => ?_)
                  clear hK K hHeld
                  have hHeld := hHeld2
                  clear hHeld2
                  simp only [Act.put]
                  refine wpAnyH_tk (i := 12) (v := ?_) rfl (by kernel_rfl) (by kernel_rfl) (by kernel_rfl) (fun _ _ _ h => h) (Or.inl ⟨by rfl, ?_⟩) hHeld ?_
                  rotate_left
                  · intro w hSw
                    try dsimp only at hSw
                    go_simp
                    try with_reducible rfl
                  try simp only [Act.put, List.setIfInBounds_toArray, List.set_cons_zero, List.set_cons_succ]
                  refine wpAnyH_done (by kernel_rfl) ?_ _
                  generalize World.setRow _ _ _ = W9 at HZF ⊢
                  clear hHeld
                  have HZG := hide (zoo_setrL (l1 := [BoxT p9 (wagg (rpw u xacts)) 72]) (c' := wagg (rpw u xacts)) (unhide HZF))
                  have q2 : (W9.setRow p5 (wagg (rpw u xacts))).cell? ⟨g, o + i * 4 + 2, none⟩ = some (.int .i64 xm) := (unhide HZG).kp.cell (by simp) (unhide HQ2)
                  clear q0 q1
                  cases ok2 with
                  | false =>
                    cases hro : rpo u xacts with
                    | true =>
                      have HRO := hide hro
                      clear hro
                      go_wp2_with (first | (refine wpList_load_row rfl 72 _ rfl p9 rfl 72 _ (0, 0) _ (zoo_varm (unhide HZF) (List.Mem.head _)) Try.underlying72 rfl Try.size72 ?_) | (refine wpList_store_row rfl 72 _ _ rfl p5 (wagg (rpw u xacts)) rfl rfl 72 _ (zoo_varm (unhide HZF) (List.Mem.tail _ (List.Mem.head _))) Try.size72 rfl (wagg_one _) ?_))
                      refine ⟨⟨i + 1, false, by omega, rfl, by go_num, rpw u xacts, (unhide HZG).tail, ?_⟩, by simp [intOf]; omega⟩
                      have z := unhide HSN
                      rw [unhide HDR] at z
                      unfold sN at z ⊢
                      rw [if_pos hk0] at z ⊢
                      simp only [srN] at z
                      rw [if_pos he] at z
                      rw [← z]
                      simp [unhide HRO]
                    | false =>
                      have HRO := hide hro
                      clear hro
                      go_wp2_with (first | (refine wpList_load_row rfl 72 _ rfl p9 rfl 72 _ (0, 0) _ (zoo_varm (unhide HZF) (List.Mem.head _)) Try.underlying72 rfl Try.size72 ?_) | (refine wpList_store_row rfl 72 _ _ rfl p5 (wagg (rpw u xacts)) rfl rfl 72 _ (zoo_varm (unhide HZF) (List.Mem.tail _ (List.Mem.head _))) Try.size72 rfl (wagg_one _) ?_))
                      refine ⟨⟨i + 1, false, by omega, rfl, by go_num, rpw u xacts, (unhide HZG).tail, ?_⟩, by simp [intOf]; omega⟩
                      have z := unhide HSN
                      rw [unhide HDR] at z
                      unfold sN at z ⊢
                      rw [if_pos hk0] at z ⊢
                      simp only [srN] at z
                      rw [if_pos he] at z
                      rw [← z]
                      simp [unhide HRO]
                  | true =>
                    cases hro : rpo u xacts with
                    | true =>
                      have HRO := hide hro
                      clear hro
                      go_wp2_with (first | (refine wpList_load_row rfl 72 _ rfl p9 rfl 72 _ (0, 0) _ (zoo_varm (unhide HZF) (List.Mem.head _)) Try.underlying72 rfl Try.size72 ?_) | (refine wpList_store_row rfl 72 _ _ rfl p5 (wagg (rpw u xacts)) rfl rfl 72 _ (zoo_varm (unhide HZF) (List.Mem.tail _ (List.Mem.head _))) Try.size72 rfl (wagg_one _) ?_))
                      refine ⟨⟨i + 1, true, by omega, rfl, by go_num, rpw u xacts, (unhide HZG).tail, ?_⟩, by simp [intOf]; omega⟩
                      have z := unhide HSN
                      rw [unhide HDR] at z
                      unfold sN at z ⊢
                      rw [if_pos hk0] at z ⊢
                      simp only [srN] at z
                      rw [if_pos he] at z
                      rw [← z]
                      simp [unhide HRO]
                    | false =>
                      have HRO := hide hro
                      clear hro
                      by_cases hmd : xm = 2
                      · subst hmd
                        go_wp2_with (first | (refine wpList_load_row rfl 72 _ rfl p9 rfl 72 _ (0, 0) _ (zoo_varm (unhide HZF) (List.Mem.head _)) Try.underlying72 rfl Try.size72 ?_) | (refine wpList_store_row rfl 72 _ _ rfl p5 (wagg (rpw u xacts)) rfl rfl 72 _ (zoo_varm (unhide HZF) (List.Mem.tail _ (List.Mem.head _))) Try.size72 rfl (wagg_one _) ?_))
                        refine ⟨⟨i + 1, false, by omega, rfl, by go_num, rpw u xacts, (unhide HZG).tail, ?_⟩, by simp [intOf]; omega⟩
                        have z := unhide HSN
                        rw [unhide HDR] at z
                        unfold sN at z ⊢
                        rw [if_pos hk0] at z ⊢
                        simp only [srN] at z
                        rw [if_pos he] at z
                        rw [← z]
                        simp [unhide HRO]
                      · have hmd2 : (xm != 2) = true := by simpa using hmd
                        go_wp2_with (first | (refine wpList_load_row rfl 72 _ rfl p9 rfl 72 _ (0, 0) _ (zoo_varm (unhide HZF) (List.Mem.head _)) Try.underlying72 rfl Try.size72 ?_) | (refine wpList_store_row rfl 72 _ _ rfl p5 (wagg (rpw u xacts)) rfl rfl 72 _ (zoo_varm (unhide HZF) (List.Mem.tail _ (List.Mem.head _))) Try.size72 rfl (wagg_one _) ?_))
                        refine ⟨⟨i + 1, true, by omega, rfl, by go_num, rpw u xacts, (unhide HZG).tail, ?_⟩, by simp [intOf]; omega⟩
                        have z := unhide HSN
                        rw [unhide HDR] at z
                        unfold sN at z ⊢
                        rw [if_pos hk0] at z ⊢
                        simp only [srN] at z
                        rw [if_pos he] at z
                        rw [← z]
                        simp [unhide HRO, hmd]
                · go_simp
                  have HA1 := hide ((unhide HA0).box (wagg (fun _ => dv)) 72)
                  rw [zeros_eq] at HA1
                  refine hK.out _ _ (And.intro ((unhide HA1).kp.cell (by simp) (unhide HZ3)) (rangeAt_var (zoo_varm (unhide HA1) (List.Mem.tail _ (List.Mem.head _))))) (fun hHeld2 => ?_)
                  clear hK K hHeld
                  have hHeld := hHeld2
                  clear hHeld2
                  try simp only [Act.put, List.setIfInBounds_toArray, List.set_cons_zero, List.set_cons_succ]
                  generalize WD.heap.size = p9 at *
                  refine wpAnyH_only (i := 6) rfl (by kernel_rfl) (fun K hK => ?_)
                  go_simp
                  rw [← unhide HLX]
                  refine (rreplay u la lc xacts _ ((unhide HLS).kp0 (unhide HA1).kp) (unhide HOK)).mono ?_
                  rintro e w6 ⟨rfl, hk6⟩
                  rw [unhide HLX]
                  have HA2 := hide ((unhide HA1).kp0 hk6)
                  clear hk6
                  go_wp2_with fail
                  refine hK.out _ _ (And.intro ((unhide HA2).kp.cell (by simp) (unhide HZ3)) (rangeAt_var (zoo_varm (unhide HA2) (List.Mem.tail _ (List.Mem.head _))))) (fun hHeld2 => ?_)
                  clear hK K hHeld
                  have hHeld := hHeld2
                  clear hHeld2
                  try simp only [Act.put, List.setIfInBounds_toArray, List.set_cons_zero, List.set_cons_succ]
                  refine wpAnyH_tk (i := 7) (v := ?_) rfl (by kernel_rfl) (by kernel_rfl) (by kernel_rfl) (fun _ _ _ h => h) (Or.inl ⟨by rfl, ?_⟩) hHeld ?_
                  rotate_left
                  · intro w hSw
                    try dsimp only at hSw
                    go_simp
                    try with_reducible rfl
                  try simp only [Act.put, List.setIfInBounds_toArray, List.set_cons_zero, List.set_cons_succ]
                  refine wpAnyH_tk (i := 8) (v := ?_) rfl (by kernel_rfl) (by kernel_rfl) (by kernel_rfl) (fun _ _ _ h => h) (Or.inl ⟨by rfl, ?_⟩) hHeld ?_
                  rotate_left
                  · intro w hSw
                    try dsimp only at hSw
                    go_simp
                    try with_reducible rfl
                  try simp only [Act.put, List.setIfInBounds_toArray, List.set_cons_zero, List.set_cons_succ]
                  refine wpAnyH_tk (i := 9) (v := ?_) rfl (by kernel_rfl) (by kernel_rfl) (by kernel_rfl) (fun _ _ _ h => h) (Or.inl ⟨by rfl, ?_⟩) hHeld ?_
                  rotate_left
                  · intro w hSw
                    try dsimp only at hSw
                    go_simp
                    try with_reducible rfl
                  try simp only [Act.put, List.setIfInBounds_toArray, List.set_cons_zero, List.set_cons_succ]
                  refine wpAnyH_only (i := 11) rfl (by kernel_rfl) (fun K hK => ?_)
                  rw [if_pos (by rfl)]
                  refine wp_store_row 72 _ _ rfl p9 (wagg (rpw u xacts)) rfl rfl 72 _ (zoo_varm (unhide HA2) (List.Mem.head _)) Try.size72 rfl (wagg_one _) ?_
                  have HZF := hide (zoo_setrL (l1 := []) (c' := wagg (rpw u xacts)) (unhide HA2))
                  refine hK.out _ _ (And.intro ((unhide HZF).kp.cell (by simp) (unhide HZ3)) (rangeAt_var (zoo_varm (unhide HZF) (List.Mem.tail _ (List.Mem.head _))))) (fun hHeld2 => ?_)
                  clear hK K hHeld
                  have hHeld := hHeld2
                  clear hHeld2
                  simp only [Act.put]
                  refine wpAnyH_tk (i := 12) (v := ?_) rfl (by kernel_rfl) (by kernel_rfl) (by kernel_rfl) (fun _ _ _ h => h) (Or.inl ⟨by rfl, ?_⟩) hHeld ?_
                  rotate_left
                  · intro w hSw
                    try dsimp only at hSw
                    go_simp
                    try with_reducible rfl
                  try simp only [Act.put, List.setIfInBounds_toArray, List.set_cons_zero, List.set_cons_succ]
                  refine wpAnyH_done (by kernel_rfl) ?_ _
                  generalize World.setRow _ _ _ = W9 at HZF ⊢
                  clear hHeld
                  have HZG := hide (zoo_setrL (l1 := [BoxT p9 (wagg (rpw u xacts)) 72]) (c' := wagg (rpw u xacts)) (unhide HZF))
                  have q2 : (W9.setRow p5 (wagg (rpw u xacts))).cell? ⟨g, o + i * 4 + 2, none⟩ = some (.int .i64 xm) := (unhide HZG).kp.cell (by simp) (unhide HQ2)
                  clear q0 q1
                  cases ok2 with
                  | false =>
                    cases hro : rpo u xacts with
                    | true =>
                      have HRO := hide hro
                      clear hro
                      go_wp2_with (first | (refine wpList_load_row rfl 72 _ rfl p9 rfl 72 _ (0, 0) _ (zoo_varm (unhide HZF) (List.Mem.head _)) Try.underlying72 rfl Try.size72 ?_) | (refine wpList_store_row rfl 72 _ _ rfl p5 (wagg (rpw u xacts)) rfl rfl 72 _ (zoo_varm (unhide HZF) (List.Mem.tail _ (List.Mem.head _))) Try.size72 rfl (wagg_one _) ?_))
                      refine ⟨⟨i + 1, false, by omega, rfl, by go_num, rpw u xacts, (unhide HZG).tail, ?_⟩, by simp [intOf]; omega⟩
                      have z := unhide HSN
                      rw [unhide HDR] at z
                      unfold sN at z ⊢
                      rw [if_pos hk0] at z ⊢
                      simp only [srN] at z
                      rw [if_pos he] at z
                      rw [← z]
                      simp [unhide HRO]
                    | false =>
                      have HRO := hide hro
                      clear hro
                      go_wp2_with (first | (refine wpList_load_row rfl 72 _ rfl p9 rfl 72 _ (0, 0) _ (zoo_varm (unhide HZF) (List.Mem.head _)) Try.underlying72 rfl Try.size72 ?_) | (refine wpList_store_row rfl 72 _ _ rfl p5 (wagg (rpw u xacts)) rfl rfl 72 _ (zoo_varm (unhide HZF) (List.Mem.tail _ (List.Mem.head _))) Try.size72 rfl (wagg_one _) ?_))
                      refine ⟨⟨i + 1, false, by omega, rfl, by go_num, rpw u xacts, (unhide HZG).tail, ?_⟩, by simp [intOf]; omega⟩
                      have z := unhide HSN
                      rw [unhide HDR] at z
                      unfold sN at z ⊢
                      rw [if_pos hk0] at z ⊢
                      simp only [srN] at z
                      rw [if_pos he] at z
                      rw [← z]
                      simp [unhide HRO]
                  | true =>
                    cases hro : rpo u xacts with
                    | true =>
                      have HRO := hide hro
                      clear hro
                      go_wp2_with (first | (refine wpList_load_row rfl 72 _ rfl p9 rfl 72 _ (0, 0) _ (zoo_varm (unhide HZF) (List.Mem.head _)) Try.underlying72 rfl Try.size72 ?_) | (refine wpList_store_row rfl 72 _ _ rfl p5 (wagg (rpw u xacts)) rfl rfl 72 _ (zoo_varm (unhide HZF) (List.Mem.tail _ (List.Mem.head _))) Try.size72 rfl (wagg_one _) ?_))
                      refine ⟨⟨i + 1, true, by omega, rfl, by go_num, rpw u xacts, (unhide HZG).tail, ?_⟩, by simp [intOf]; omega⟩
                      have z := unhide HSN
                      rw [unhide HDR] at z
                      unfold sN at z ⊢
                      rw [if_pos hk0] at z ⊢
                      simp only [srN] at z
                      rw [if_pos he] at z
                      rw [← z]
                      simp [unhide HRO]
                    | false =>
                      have HRO := hide hro
                      clear hro
                      by_cases hmd : xm = 2
                      · subst hmd
                        go_wp2_with (first | (refine wpList_load_row rfl 72 _ rfl p9 rfl 72 _ (0, 0) _ (zoo_varm (unhide HZF) (List.Mem.head _)) Try.underlying72 rfl Try.size72 ?_) | (refine wpList_store_row rfl 72 _ _ rfl p5 (wagg (rpw u xacts)) rfl rfl 72 _ (zoo_varm (unhide HZF) (List.Mem.tail _ (List.Mem.head _))) Try.size72 rfl (wagg_one _) ?_))
                        refine ⟨⟨i + 1, false, by omega, rfl, by go_num, rpw u xacts, (unhide HZG).tail, ?_⟩, by simp [intOf]; omega⟩
                        have z := unhide HSN
                        rw [unhide HDR] at z
                        unfold sN at z ⊢
                        rw [if_pos hk0] at z ⊢
                        simp only [srN] at z
                        rw [if_pos he] at z
                        rw [← z]
                        simp [unhide HRO]
                      · have hmd2 : (xm != 2) = true := by simpa using hmd
                        go_wp2_with (first | (refine wpList_load_row rfl 72 _ rfl p9 rfl 72 _ (0, 0) _ (zoo_varm (unhide HZF) (List.Mem.head _)) Try.underlying72 rfl Try.size72 ?_) | (refine wpList_store_row rfl 72 _ _ rfl p5 (wagg (rpw u xacts)) rfl rfl 72 _ (zoo_varm (unhide HZF) (List.Mem.tail _ (List.Mem.head _))) Try.size72 rfl (wagg_one _) ?_))
                        refine ⟨⟨i + 1, true, by omega, rfl, by go_num, rpw u xacts, (unhide HZG).tail, ?_⟩, by simp [intOf]; omega⟩
                        have z := unhide HSN
                        rw [unhide HDR] at z
                        unfold sN at z ⊢
                        rw [if_pos hk0] at z ⊢
                        simp only [srN] at z
                        rw [if_pos he] at z
                        rw [← z]
                        simp [unhide HRO, hmd]
              · have he2 : (xn == (k : Int)) = false := by simpa using he
                go_wp2_with fail
                refine ⟨⟨i + 1, ok2, by omega, rfl, by go_num, u, unhide HZ2, ?_⟩, by simp [intOf]; omega⟩
                have z := unhide HSN
                rw [unhide HDR] at z
                unfold sN at z ⊢
                rw [if_pos hk0] at z ⊢
                simp only [srN] at z
                rw [if_neg he] at z
                exact z
            · have HPU : Hid ((u, ok2) = P) := by
                have z := unhide HSN
                unfold sN at z
                by_cases hk0 : 0 < k
                · rw [if_pos hk0, List.drop_eq_nil_of_le (by have := unhide HM; omega)] at z
                  exact z
                · rw [if_neg hk0] at z
                  exact z
              have HST2 : Hid (srs ds (M + 1 - (k + 1)) (k + 1) u (srL k u ok2 ds) = R) := by
                have z := unhide HST
                rw [← unhide HPU] at z
                exact z
              clear HST HP HPU HSN
              obtain ⟨Tt, hT⟩ : ∃ Tt, srL k u ok2 ds = Tt := ⟨_, rfl⟩
              rw [hT] at HST2
              have HT := hide hT
              clear hT
              by_cases hq : i < m
              · have hk0 : k = 0 := by omega
                have k0 : ¬ (0 : Int) < (k : Int) := by omega
                have j1 : (i : Int) < (m : Int) := by omega
                clear hin
                go_wp2_with fail
                go_loopw [6, 11, 12, 13] (fun x y _ _ wr => ∃ (i : Nat) (ok2 : Bool), i ≤ m ∧ x = .bool ok2 ∧ y = .int .i64 i ∧ Hid (Zoo w wr [BoxT p5 (wagg u) 72]) ∧ Hid (srL k u ok2 (ds.drop i) = Tt)) (fun _ y _ _ _ => m - (intOf y).toNat)
                case atStart => exact ⟨0, ok2, Nat.zero_le _, rfl, rfl, unhide HZ2, unhide HT⟩
                case round =>
                  clear HZ2 HT
                  obtain ⟨i, ok2, hi2, rfl, rfl, HZ2, HSL⟩ := hrel
                  by_cases hlt2 : i < m
                  · skip
                    have j1 : (i : Int) < (m : Int) := by omega
                    have j0 : (0 : Int) ≤ (i : Int) := by omega
                    have hln : i < ds.length := by have := unhide HM; omega
                    obtain ⟨g, o, rfl, hbd⟩ := (unhide HD) (by omega)
                    obtain ⟨x, hx⟩ : ∃ x, ds[i]? = some x := ⟨_, List.getElem?_eq_getElem hln⟩
                    have hdr : ds.drop i = x :: ds.drop (i + 1) := by
                      rw [List.drop_eq_getElem_cons hln]
                      rw [List.getElem?_eq_getElem hln] at hx
                      rw [Option.some.inj hx]
                    have HDR := hide hdr
                    have hok := (unhide HO).2 x (List.mem_of_getElem? hx)
                    have hat := hbd i x hx
                    obtain ⟨la, lc, z3, hls⟩ := hat.ls
                    have q0 := (unhide HZ2).kp.cell (by simp) hat.c0
                    have q1 := (unhide HZ2).kp.cell (by simp) hat.c1
                    have q2 := hat.c2
                    have HLS := hide hls
                    clear hbd hx hls hat hdr
                    obtain ⟨xn, xa, xm, xacts⟩ := x
                    dsimp only at q0 q1 q2 z3 HLS hok
                    have HOK := hide hok
                    clear hok
                    obtain ⟨ln, hlen⟩ : ∃ ln, xacts.length = ln := ⟨_, rfl⟩
                    rw [hlen] at z3
                    have HLX := hide hlen
                    have HZ3 : Hid (w.cell? ⟨g, o + i * 4 + 3, none⟩ = some (.slice la ln lc)) := z3
                    have HQ2 := hide q2
                    clear hlen z3 q2
                    by_cases he : xn = 0
                    · by_cases ha : xa = (k : Int)
                      · go_wp2_with fail
                        refine wp_region_held_drew (S := fun w' => w'.cell? ⟨g, o + i * 4 + 3, none⟩ = some (.slice la ln lc) ∧ w'.rangeAt p5 0 (wagg u).toList) (by kernel_rfl) (And.intro ((unhide HZ2).kp.drew.cell (by simp) (unhide HZ3)) (rangeAt_var (zoo_varm ((unhide HZ2).kp0 ((Kp.refl [] wr).drew)) (List.Mem.head _)))) (fun hHeld => ?_)
                        have HA0 := hide ((unhide HZ2).kp0 ((Kp.refl [] wr).drew))
                        generalize World.drew _ = WD at HA0 hHeld ⊢
                        refine wpAnyH_tk (i := 0) rfl (by kernel_rfl) (by kernel_rfl) (by kernel_rfl) (fun _ _ _ h => h) (yields_mid (by rfl) _ rfl p5 0 rfl u (fun _ h => h.2)) hHeld ?_
                        try simp only [Act.put, List.setIfInBounds_toArray, List.set_cons_zero, List.set_cons_succ]
                        refine wpAnyH_tk (i := 1) (v := ?_) rfl (by kernel_rfl) (by kernel_rfl) (by kernel_rfl) (fun _ _ _ h => h) (Or.inl ⟨by rfl, ?_⟩) hHeld ?_
                        rotate_left
                        · intro w hSw
                          try dsimp only at hSw
                          go_simp
                          try with_reducible rfl
                        try simp only [Act.put, List.setIfInBounds_toArray, List.set_cons_zero, List.set_cons_succ]
                        refine wpAnyH_tk (i := 2) (v := ?_) rfl (by kernel_rfl) (by kernel_rfl) (by kernel_rfl) (fun _ _ _ h => h) (Or.inl ⟨by rfl, ?_⟩) hHeld ?_
                        rotate_left
                        · intro w hSw
                          try dsimp only at hSw
                          go_simp
                          try with_reducible rfl
                        try simp only [Act.put, List.setIfInBounds_toArray, List.set_cons_zero, List.set_cons_succ]
                        refine wpAnyH_tk (i := 3) (v := ?_) rfl (by kernel_rfl) (by kernel_rfl) (by kernel_rfl) (fun _ _ _ h => h) (Or.inl ⟨by rfl, ?_⟩) hHeld ?_
                        rotate_left
                        · intro w hSw
                          try dsimp only at hSw
                          go_simp
                          try with_reducible rfl
                        try simp only [Act.put, List.setIfInBounds_toArray, List.set_cons_zero, List.set_cons_succ]
                        refine wpAnyH_tk (i := 4) (v := ?_) rfl (by kernel_rfl) (by kernel_rfl) (by kernel_rfl) (fun _ _ _ h => h) (Or.inl ⟨by rfl, ?_⟩) hHeld ?_
                        rotate_left
                        · intro w hSw
                          try dsimp only at hSw
                          go_simp
                          try with_reducible rfl
                        try simp only [Act.put, List.setIfInBounds_toArray, List.set_cons_zero, List.set_cons_succ]
                        refine wpAnyH_tk (i := 5) (v := ?_) rfl (by kernel_rfl) (by kernel_rfl) (by kernel_rfl) (fun _ _ _ h => h) (Or.inl ⟨by rfl, ?_⟩) hHeld ?_
                        rotate_left
                        · intro w hSw
                          try dsimp only at hSw
                          go_simp
                          try with_reducible rfl
                        try simp only [Act.put, List.setIfInBounds_toArray, List.set_cons_zero, List.set_cons_succ]
                        refine wpAnyH_two (i := 6) (j := 10) rfl rfl (by kernel_rfl) (fun K hK => ?_) (fun K hK => ?_)
                        · go_simp
                          rw [← unhide HLX]
                          refine (rreplay u la lc xacts _ ((unhide HLS).kp0 (unhide HA0).kp) (unhide HOK)).mono ?_
                          rintro e w6 ⟨rfl, hk6⟩
                          rw [unhide HLX]
                          have HA1 := hide ((unhide HA0).kp0 hk6)
                          clear hk6
                          go_wp2_with fail
                          refine hK.out _ _ (And.intro ((unhide HA1).kp.cell (by simp) (unhide HZ3)) (rangeAt_var (zoo_varm (unhide HA1) (List.Mem.head _)))) (fun hHeld2 => ?_)
                          clear hK K hHeld
                          have hHeld := hHeld2
                          clear hHeld2
                          try simp only [Act.put, List.setIfInBounds_toArray, List.set_cons_zero, List.set_cons_succ]
                          refine wpAnyH_tk (i := 7) (v := ?_) rfl (by kernel_rfl) (by kernel_rfl) (by kernel_rfl) (fun _ _ _ h => h) (Or.inl ⟨by rfl, ?_⟩) hHeld ?_
                          rotate_left
                          · intro w hSw
                            try dsimp only at hSw
                            go_simp
                            try with_reducible rfl
                          try simp only [Act.put, List.setIfInBounds_toArray, List.set_cons_zero, List.set_cons_succ]
                          refine wpAnyH_tk (i := 8) (v := ?_) rfl (by kernel_rfl) (by kernel_rfl) (by kernel_rfl) (fun _ _ _ h => h) (Or.inl ⟨by rfl, ?_⟩) hHeld ?_
                          rotate_left
                          · intro w hSw
                            try dsimp only at hSw
                            go_simp
                            try with_reducible rfl
                          try simp only [Act.put, List.setIfInBounds_toArray, List.set_cons_zero, List.set_cons_succ]
                          refine wpAnyH_tk (i := 9) (v := ?_) rfl (by kernel_rfl) (by kernel_rfl) (by kernel_rfl) (fun _ _ _ h => h) (Or.inl ⟨by rfl, ?_⟩) hHeld ?_
                          rotate_left
                          · intro w hSw
                            try dsimp only at hSw
                            go_simp
                            try with_reducible rfl
                          try simp only [Act.put, List.setIfInBounds_toArray, List.set_cons_zero, List.set_cons_succ]
                          refine wpAnyH_only (i := 10) rfl (by kernel_rfl) (fun K hK => ?_)
                          go_simp
                          have HA2 := hide ((unhide HA1).box (wagg (fun _ => dv)) 72)
                          rw [zeros_eq] at HA2
                          refine hK.out _ _ (And.intro ((unhide HA2).kp.cell (by simp) (unhide HZ3)) (rangeAt_var (zoo_varm (unhide HA2) (List.Mem.tail _ (List.Mem.head _))))) (fun hHeld2 => ?_)
                          clear hK K hHeld
                          have hHeld := hHeld2
                          clear hHeld2
                          try simp only [Act.put, List.setIfInBounds_toArray, List.set_cons_zero, List.set_cons_succ]
                          generalize w6.heap.size = p9 at *
                          refine wpAnyH_only (i := 11) rfl (by kernel_rfl) (fun K hK => ?_)
                          rw [if_pos (by rfl)]
                          refine wp_store_row 72 _ _ rfl p9 (wagg (rpw u xacts)) rfl rfl 72 _ (zoo_varm (unhide HA2) (List.Mem.head _)) Try.size72 rfl (wagg_one _) ?_
                          have HZF := hide (zoo_setrL (l1 := []) (c' := wagg (rpw u xacts)) (unhide HA2))
                          refine hK.out _ _ (And.intro ((unhide HZF).kp.cell (by simp) (unhide HZ3)) (rangeAt_var (zoo_varm (unhide HZF) (List.Mem.tail _ (List.Mem.head _))))) (fun hHeld2 => ?_)
                          clear hK K hHeld
                          have hHeld := hHeld2
                          clear hHeld2
                          simp only [Act.put]
                          refine wpAnyH_tk (i := 12) (v := ?_) rfl (by kernel_rfl) (by kernel_rfl) (by kernel_rfl) (fun _ _ _ h => h) (Or.inl ⟨by rfl, ?_⟩) hHeld ?_
                          rotate_left
                          · intro w hSw
                            try dsimp only at hSw
                            go_simp
                            try with_reducible rfl
                          try simp only [Act.put, List.setIfInBounds_toArray, List.set_cons_zero, List.set_cons_succ]
                          refine wpAnyH_done (by kernel_rfl) ?_ _
                          generalize World.setRow _ _ _ = W9 at HZF ⊢
                          clear hHeld
                          clear q0 q1
                          cases ok2 with
                          | false =>
                            cases hro : rpo u xacts with
                            | true =>
                              have HRO := hide hro
                              clear hro
                              go_wp2_with fail
                              refine ⟨⟨i + 1, false, by omega, rfl, by go_num, (unhide HZF).tail, ?_⟩, by simp [intOf]; omega⟩
                              show srL k u false (ds.drop (i + 1)) = Tt
                              have z := unhide HSL
                              rw [unhide HDR] at z
                              simp only [srL] at z
                              rw [if_pos ⟨he, ha⟩] at z
                              rw [← z]
                              simp [unhide HRO]
                            | false =>
                              have HRO := hide hro
                              clear hro
                              go_wp2_with fail
                              refine ⟨⟨i + 1, false, by omega, rfl, by go_num, (unhide HZF).tail, ?_⟩, by simp [intOf]; omega⟩
                              show srL k u false (ds.drop (i + 1)) = Tt
                              have z := unhide HSL
                              rw [unhide HDR] at z
                              simp only [srL] at z
                              rw [if_pos ⟨he, ha⟩] at z
                              rw [← z]
                              simp [unhide HRO]
                          | true =>
                            cases hro : rpo u xacts with
                            | true =>
                              have HRO := hide hro
                              clear hro
                              go_wp2_with fail
                              refine ⟨⟨i + 1, true, by omega, rfl, by go_num, (unhide HZF).tail, ?_⟩, by simp [intOf]; omega⟩
                              show srL k u true (ds.drop (i + 1)) = Tt
                              have z := unhide HSL
                              rw [unhide HDR] at z
                              simp only [srL] at z
                              rw [if_pos ⟨he, ha⟩] at z
                              rw [← z]
                              simp [unhide HRO]
                            | false =>
                              have HRO := hide hro
                              clear hro
                              go_wp2_with fail
                              refine ⟨⟨i + 1, false, by omega, rfl, by go_num, (unhide HZF).tail, ?_⟩, by simp [intOf]; omega⟩
                              show srL k u false (ds.drop (i + 1)) = Tt
                              have z := unhide HSL
                              rw [unhide HDR] at z
                              simp only [srL] at z
                              rw [if_pos ⟨he, ha⟩] at z
                              rw [← z]
                              simp [unhide HRO]
                        · go_simp
                          have HA1 := hide ((unhide HA0).box (wagg (fun _ => dv)) 72)
                          rw [zeros_eq] at HA1
                          refine hK.out _ _ (And.intro ((unhide HA1).kp.cell (by simp) (unhide HZ3)) (rangeAt_var (zoo_varm (unhide HA1) (List.Mem.tail _ (List.Mem.head _))))) (fun hHeld2 => ?_)
                          clear hK K hHeld
                          have hHeld := hHeld2
                          clear hHeld2
                          try simp only [Act.put, List.setIfInBounds_toArray, List.set_cons_zero, List.set_cons_succ]
                          generalize WD.heap.size = p9 at *
                          refine wpAnyH_only (i := 6) rfl (by kernel_rfl) (fun K hK => ?_)
                          go_simp
                          rw [← unhide HLX]
                          refine (rreplay u la lc xacts _ ((unhide HLS).kp0 (unhide HA1).kp) (unhide HOK)).mono ?_
                          rintro e w6 ⟨rfl, hk6⟩
                          rw [unhide HLX]
                          have HA2 := hide ((unhide HA1).kp0 hk6)
                          clear hk6
                          go_wp2_with fail
                          refine hK.out _ _ (And.intro ((unhide HA2).kp.cell (by simp) (unhide HZ3)) (rangeAt_var (zoo_varm (unhide HA2) (List.Mem.tail _ (List.Mem.head _))))) (fun hHeld2 => ?_)
                          clear hK K hHeld
                          have hHeld := hHeld2
                          clear hHeld2
                          try simp only [Act.put, List.setIfInBounds_toArray, List.set_cons_zero, List.set_cons_succ]
                          refine wpAnyH_tk (i := 7) (v := ?_) rfl (by kernel_rfl) (by kernel_rfl) (by kernel_rfl) (fun _ _ _ h => h) (Or.inl ⟨by rfl, ?_⟩) hHeld ?_
                          rotate_left
                          · intro w hSw
                            try dsimp only at hSw
                            go_simp
                            try with_reducible rfl
                          try simp only [Act.put, List.setIfInBounds_toArray, List.set_cons_zero, List.set_cons_succ]
                          refine wpAnyH_tk (i := 8) (v := ?_) rfl (by kernel_rfl) (by kernel_rfl) (by kernel_rfl) (fun _ _ _ h => h) (Or.inl ⟨by rfl, ?_⟩) hHeld ?_
                          rotate_left
                          · intro w hSw
                            try dsimp only at hSw
                            go_simp
                            try with_reducible rfl
                          try simp only [Act.put, List.setIfInBounds_toArray, List.set_cons_zero, List.set_cons_succ]
                          refine wpAnyH_tk (i := 9) (v := ?_) rfl (by kernel_rfl) (by kernel_rfl) (by kernel_rfl) (fun _ _ _ h => h) (Or.inl ⟨by rfl, ?_⟩) hHeld ?_
                          rotate_left
                          · intro w hSw
                            try dsimp only at hSw
                            go_simp
                            try with_reducible rfl
                          try simp only [Act.put, List.setIfInBounds_toArray, List.set_cons_zero, List.set_cons_succ]
                          refine wpAnyH_only (i := 11) rfl (by kernel_rfl) (fun K hK => ?_)
                          rw [if_pos (by rfl)]
                          refine wp_store_row 72 _ _ rfl p9 (wagg (rpw u xacts)) rfl rfl 72 _ (zoo_varm (unhide HA2) (List.Mem.head _)) Try.size72 rfl (wagg_one _) ?_
                          have HZF := hide (zoo_setrL (l1 := []) (c' := wagg (rpw u xacts)) (unhide HA2))
                          refine hK.out _ _ (And.intro ((unhide HZF).kp.cell (by simp) (unhide HZ3)) (rangeAt_var (zoo_varm (unhide HZF) (List.Mem.tail _ (List.Mem.head _))))) (fun hHeld2 => ?_)
                          clear hK K hHeld
                          have hHeld := hHeld2
                          clear hHeld2
                          simp only [Act.put]
                          refine wpAnyH_tk (i := 12) (v := ?_) rfl (by kernel_rfl) (by kernel_rfl) (by kernel_rfl) (fun _ _ _ h => h) (Or.inl ⟨by rfl, ?_⟩) hHeld ?_
                          rotate_left
                          · intro w hSw
                            try dsimp only at hSw
                            go_simp
                            try with_reducible rfl
                          try simp only [Act.put, List.setIfInBounds_toArray, List.set_cons_zero, List.set_cons_succ]
                          refine wpAnyH_done (by kernel_rfl) ?_ _
                          generalize World.setRow _ _ _ = W9 at HZF ⊢
                          clear hHeld
                          clear q0 q1
                          cases ok2 with
                          | false =>
                            cases hro : rpo u xacts with
                            | true =>
                              have HRO := hide hro
                              clear hro
                              go_wp2_with fail
                              refine ⟨⟨i + 1, false, by omega, rfl, by go_num, (unhide HZF).tail, ?_⟩, by simp [intOf]; omega⟩
                              show srL k u false (ds.drop (i + 1)) = Tt
                              have z := unhide HSL
                              rw [unhide HDR] at z
                              simp only [srL] at z
                              rw [if_pos ⟨he, ha⟩] at z
                              rw [← z]
                              simp [unhide HRO]
                            | false =>
                              have HRO := hide hro
                              clear hro
                              go_wp2_with fail
                              refine ⟨⟨i + 1, false, by omega, rfl, by go_num, (unhide HZF).tail, ?_⟩, by simp [intOf]; omega⟩
                              show srL k u false (ds.drop (i + 1)) = Tt
                              have z := unhide HSL
                              rw [unhide HDR] at z
                              simp only [srL] at z
                              rw [if_pos ⟨he, ha⟩] at z
                              rw [← z]
                              simp [unhide HRO]
                          | true =>
                            cases hro : rpo u xacts with
                            | true =>
                              have HRO := hide hro
                              clear hro
                              go_wp2_with fail
                              refine ⟨⟨i + 1, true, by omega, rfl, by go_num, (unhide HZF).tail, ?_⟩, by simp [intOf]; omega⟩
                              show srL k u true (ds.drop (i + 1)) = Tt
                              have z := unhide HSL
                              rw [unhide HDR] at z
                              simp only [srL] at z
                              rw [if_pos ⟨he, ha⟩] at z
                              rw [← z]
                              simp [unhide HRO]
                            | false =>
                              have HRO := hide hro
                              clear hro
                              go_wp2_with fail
                              refine ⟨⟨i + 1, false, by omega, rfl, by go_num, (unhide HZF).tail, ?_⟩, by simp [intOf]; omega⟩
                              show srL k u false (ds.drop (i + 1)) = Tt
                              have z := unhide HSL
                              rw [unhide HDR] at z
                              simp only [srL] at z
                              rw [if_pos ⟨he, ha⟩] at z
                              rw [← z]
                              simp [unhide HRO]
                      · skip
                        have ha2 : (xa == (k : Int)) = false := by simpa using ha
                        go_wp2_with fail
                        refine ⟨⟨i + 1, ok2, by omega, rfl, by go_num, unhide HZ2, ?_⟩, by simp [intOf]; omega⟩
                        have z := unhide HSL
                        rw [unhide HDR] at z
                        simp only [srL] at z
                        rw [if_neg (fun q => ha q.2)] at z
                        exact z
                    · skip
                      have he2 : (xn == 0) = false := by simpa using he
                      go_wp2_with fail
                      refine ⟨⟨i + 1, ok2, by omega, rfl, by go_num, unhide HZ2, ?_⟩, by simp [intOf]; omega⟩
                      have z := unhide HSL
                      rw [unhide HDR] at z
                      simp only [srL] at z
                      rw [if_neg (fun q => he q.1)] at z
                      exact z
                  · have j1 : ¬ (i : Int) < (m : Int) := by omega
                    have HTO : Hid (ok2 = Tt) := by
                      have z := unhide HSL
                      rw [List.drop_eq_nil_of_le (by have := unhide HM; omega)] at z
                      exact z
                    rw [← unhide HTO] at HST2
                    go_wp2_with fail
                    exact ⟨⟨k + 1, ok2, by omega, rfl, by go_num, u, unhide HZ2, unhide HST2⟩, by simp [intOf]; omega⟩
              · have j1 : ¬ (i : Int) < (m : Int) := by omega
                clear hin
                go_wp2_with fail
                go_loopw [6, 11, 12, 13] (fun x y _ _ wr => ∃ (i : Nat) (ok2 : Bool), i ≤ m ∧ x = .bool ok2 ∧ y = .int .i64 i ∧ Hid (Zoo w wr [BoxT p5 (wagg u) 72]) ∧ Hid (srL k u ok2 (ds.drop i) = Tt)) (fun _ y _ _ _ => m - (intOf y).toNat)
                case atStart => exact ⟨0, ok2, Nat.zero_le _, rfl, rfl, unhide HZ2, unhide HT⟩
                case round =>
                  clear HZ2 HT
                  obtain ⟨i, ok2, hi2, rfl, rfl, HZ2, HSL⟩ := hrel
                  by_cases hlt2 : i < m
                  · skip
                    have j1 : (i : Int) < (m : Int) := by omega
                    have j0 : (0 : Int) ≤ (i : Int) := by omega
                    have hln : i < ds.length := by have := unhide HM; omega
                    obtain ⟨g, o, rfl, hbd⟩ := (unhide HD) (by omega)
                    obtain ⟨x, hx⟩ : ∃ x, ds[i]? = some x := ⟨_, List.getElem?_eq_getElem hln⟩
                    have hdr : ds.drop i = x :: ds.drop (i + 1) := by
                      rw [List.drop_eq_getElem_cons hln]
                      rw [List.getElem?_eq_getElem hln] at hx
                      rw [Option.some.inj hx]
                    have HDR := hide hdr
                    have hok := (unhide HO).2 x (List.mem_of_getElem? hx)
                    have hat := hbd i x hx
                    obtain ⟨la, lc, z3, hls⟩ := hat.ls
                    have q0 := (unhide HZ2).kp.cell (by simp) hat.c0
                    have q1 := (unhide HZ2).kp.cell (by simp) hat.c1
                    have q2 := hat.c2
                    have HLS := hide hls
                    clear hbd hx hls hat hdr
                    obtain ⟨xn, xa, xm, xacts⟩ := x
                    dsimp only at q0 q1 q2 z3 HLS hok
                    have HOK := hide hok
                    clear hok
                    obtain ⟨ln, hlen⟩ : ∃ ln, xacts.length = ln := ⟨_, rfl⟩
                    rw [hlen] at z3
                    have HLX := hide hlen
                    have HZ3 : Hid (w.cell? ⟨g, o + i * 4 + 3, none⟩ = some (.slice la ln lc)) := z3
                    have HQ2 := hide q2
                    clear hlen z3 q2
                    by_cases he : xn = 0
                    · by_cases ha : xa = (k : Int)
                      · go_wp2_with fail
                        refine wp_region_held_drew (S := fun w' => w'.cell? ⟨g, o + i * 4 + 3, none⟩ = some (.slice la ln lc) ∧ w'.rangeAt p5 0 (wagg u).toList) (by kernel_rfl) (And.intro ((unhide HZ2).kp.drew.cell (by simp) (unhide HZ3)) (rangeAt_var (zoo_varm ((unhide HZ2).kp0 ((Kp.refl [] wr).drew)) (List.Mem.head _)))) (fun hHeld => ?_)
                        have HA0 := hide ((unhide HZ2).kp0 ((Kp.refl [] wr).drew))
                        generalize World.drew _ = WD at HA0 hHeld ⊢
                        refine wpAnyH_tk (i := 0) rfl (by kernel_rfl) (by kernel_rfl) (by kernel_rfl) (fun _ _ _ h => h) (yields_mid (by rfl) _ rfl p5 0 rfl u (fun _ h => h.2)) hHeld ?_
                        try simp only [Act.put, List.setIfInBounds_toArray, List.set_cons_zero, List.set_cons_succ]
                        refine wpAnyH_tk (i := 1) (v := ?_) rfl (by kernel_rfl) (by kernel_rfl) (by kernel_rfl) (fun _ _ _ h => h) (Or.inl ⟨by rfl, ?_⟩) hHeld ?_
                        rotate_left
                        · intro w hSw
                          try dsimp only at hSw
                          go_simp
                          try with_reducible rfl
                        try simp only [Act.put, List.setIfInBounds_toArray, List.set_cons_zero, List.set_cons_succ]
                        refine wpAnyH_tk (i := 2) (v := ?_) rfl (by kernel_rfl) (by kernel_rfl) (by kernel_rfl) (fun _ _ _ h => h) (Or.inl ⟨by rfl, ?_⟩) hHeld ?_
                        rotate_left
                        · intro w hSw
                          try dsimp only at hSw
                          go_simp
                          try with_reducible rfl
                        try simp only [Act.put, List.setIfInBounds_toArray, List.set_cons_zero, List.set_cons_succ]
                        refine wpAnyH_tk (i := 3) (v := ?_) rfl (by kernel_rfl) (by kernel_rfl) (by kernel_rfl) (fun _ _ _ h => h) (Or.inl ⟨by rfl, ?_⟩) hHeld ?_
                        rotate_left
                        · intro w hSw
                          try dsimp only at hSw
                          go_simp
                          try with_reducible rfl
                        try simp only [Act.put, List.setIfInBounds_toArray, List.set_cons_zero, List.set_cons_succ]
                        refine wpAnyH_tk (i := 4) (v := ?_) rfl (by kernel_rfl) (by kernel_rfl) (by kernel_rfl) (fun _ _ _ h => h) (Or.inl ⟨by rfl, ?_⟩) hHeld ?_
                        rotate_left
                        · intro w hSw
                          try dsimp only at hSw
                          go_simp
                          try with_reducible rfl
                        try simp only [Act.put, List.setIfInBounds_toArray, List.set_cons_zero, List.set_cons_succ]
                        refine wpAnyH_tk (i := 5) (v := ?_) rfl (by kernel_rfl) (by kernel_rfl) (by kernel_rfl) (fun _ _ _ h => h) (Or.inl ⟨by rfl, ?_⟩) hHeld ?_
                        rotate_left
                        · intro w hSw
                          try dsimp only at hSw
                          go_simp
                          try with_reducible rfl
                        try simp only [Act.put, List.setIfInBounds_toArray, List.set_cons_zero, List.set_cons_succ]
                        refine wpAnyH_two (i := 6) (j := 10) rfl rfl (by kernel_rfl) (fun K hK => ?_) (fun K hK => ?_)
                        · go_simp
                          rw [← unhide HLX]
                          refine (rreplay u la lc xacts _ ((unhide HLS).kp0 (unhide HA0).kp) (unhide HOK)).mono ?_
                          rintro e w6 ⟨rfl, hk6⟩
                          rw [unhide HLX]
                          have HA1 := hide ((unhide HA0).kp0 hk6)
                          clear hk6
                          go_wp2_with fail
                          refine hK.out _ _ (And.intro ((unhide HA1).kp.cell (by simp) (unhide HZ3)) (rangeAt_var (zoo_varm (unhide HA1) (List.Mem.head _)))) (fun hHeld2 => ?_)
                          clear hK K hHeld
                          have hHeld := hHeld2
                          clear hHeld2
                          try simp only [Act.put, List.setIfInBounds_toArray, List.set_cons_zero, List.set_cons_succ]
                          refine wpAnyH_tk (i := 7) (v := ?_) rfl (by kernel_rfl) (by kernel_rfl) (by kernel_rfl) (fun _ _ _ h => h) (Or.inl ⟨by rfl, ?_⟩) hHeld ?_
                          rotate_left
                          · intro w hSw
                            try dsimp only at hSw
                            go_simp
                            try with_reducible rfl
                          try simp only [Act.put, List.setIfInBounds_toArray, List.set_cons_zero, List.set_cons_succ]
                          refine wpAnyH_tk (i := 8) (v := ?_) rfl (by kernel_rfl) (by kernel_rfl) (by kernel_rfl) (fun _ _ _ h => h) (Or.inl ⟨by rfl, ?_⟩) hHeld ?_
                          rotate_left
                          · intro w hSw
                            try dsimp only at hSw
                            go_simp
                            try with_reducible rfl
                          try simp only [Act.put, List.setIfInBounds_toArray, List.set_cons_zero, List.set_cons_succ]
                          refine wpAnyH_tk (i := 9) (v := ?_) rfl (by kernel_rfl) (by kernel_rfl) (by kernel_rfl) (fun _ _ _ h => h) (Or.inl ⟨by rfl, ?_⟩) hHeld ?_
                          rotate_left
                          · intro w hSw
                            try dsimp only at hSw
                            go_simp
                            try with_reducible rfl
                          try simp only [Act.put, List.setIfInBounds_toArray, List.set_cons_zero, List.set_cons_succ]
                          refine wpAnyH_only (i := 10) rfl (by kernel_rfl) (fun K hK => ?_)
                          go_simp
                          have HA2 := hide ((unhide HA1).box (wagg (fun _ => dv)) 72)
                          rw [zeros_eq] at HA2
                          refine hK.out _ _ (And.intro ((unhide HA2).kp.cell (by simp) (unhide HZ3)) (rangeAt_var (zoo_varm (unhide HA2) (List.Mem.tail _ (List.Mem.head _))))) (fun hHeld2 => ?_)
                          clear hK K hHeld
                          have hHeld := hHeld2
                          clear hHeld2
                          try simp only [Act.put, List.setIfInBounds_toArray, List.set_cons_zero, List.set_cons_succ]
                          generalize w6.heap.size = p9 at *
                          refine wpAnyH_only (i := 11) rfl (by kernel_rfl) (fun K hK => ?_)
                          rw [if_pos (by rfl)]
                          refine wp_store_row 72 _ _ rfl p9 (wagg (rpw u xacts)) rfl rfl 72 _ (zoo_varm (unhide HA2) (List.Mem.head _)) Try.size72 rfl (wagg_one _) ?_
                          have HZF := hide (zoo_setrL (l1 := []) (c' := wagg (rpw u xacts)) (unhide HA2))
                          refine hK.out _ _ (And.intro ((unhide HZF).kp.cell (by simp) (unhide HZ3)) (rangeAt_var (zoo_varm (unhide HZF) (List.Mem.tail _ (List.Mem.head _))))) (fun hHeld2 => ?_)
                          clear hK K hHeld
                          have hHeld := hHeld2
                          clear hHeld2
                          simp only [Act.put]
                          refine wpAnyH_tk (i := 12) (v := ?_) rfl (by kernel_rfl) (by kernel_rfl) (by kernel_rfl) (fun _ _ _ h => h) (Or.inl ⟨by rfl, ?_⟩) hHeld ?_
                          rotate_left
                          · intro w hSw
                            try dsimp only at hSw
                            go_simp
                            try with_reducible rfl
                          try simp only [Act.put, List.setIfInBounds_toArray, List.set_cons_zero, List.set_cons_succ]
                          refine wpAnyH_done (by kernel_rfl) ?_ _
                          generalize World.setRow _ _ _ = W9 at HZF ⊢
                          clear hHeld
                          clear q0 q1
                          cases ok2 with
                          | false =>
                            cases hro : rpo u xacts with
                            | true =>
                              have HRO := hide hro
                              clear hro
                              go_wp2_with fail
                              refine ⟨⟨i + 1, false, by omega, rfl, by go_num, (unhide HZF).tail, ?_⟩, by simp [intOf]; omega⟩
                              show srL k u false (ds.drop (i + 1)) = Tt
                              have z := unhide HSL
                              rw [unhide HDR] at z
                              simp only [srL] at z
                              rw [if_pos ⟨he, ha⟩] at z
                              rw [← z]
                              simp [unhide HRO]
                            | false =>
                              have HRO := hide hro
                              clear hro
                              go_wp2_with fail
                              refine ⟨⟨i + 1, false, by omega, rfl, by go_num, (unhide HZF).tail, ?_⟩, by simp [intOf]; omega⟩
                              show srL k u false (ds.drop (i + 1)) = Tt
                              have z := unhide HSL
                              rw [unhide HDR] at z
                              simp only [srL] at z
                              rw [if_pos ⟨he, ha⟩] at z
                              rw [← z]
                              simp [unhide HRO]
                          | true =>
                            cases hro : rpo u xacts with
                            | true =>
                              have HRO := hide hro
                              clear hro
                              go_wp2_with fail
                              refine ⟨⟨i + 1, true, by omega, rfl, by go_num, (unhide HZF).tail, ?_⟩, by simp [intOf]; omega⟩
                              show srL k u true (ds.drop (i + 1)) = Tt
                              have z := unhide HSL
                              rw [unhide HDR] at z
                              simp only [srL] at z
                              rw [if_pos ⟨he, ha⟩] at z
                              rw [← z]
                              simp [unhide HRO]
                            | false =>
                              have HRO := hide hro
                              clear hro
                              go_wp2_with fail
                              refine ⟨⟨i + 1, false, by omega, rfl, by go_num, (unhide HZF).tail, ?_⟩, by simp [intOf]; omega⟩
                              show srL k u false (ds.drop (i + 1)) = Tt
                              have z := unhide HSL
                              rw [unhide HDR] at z
                              simp only [srL] at z
                              rw [if_pos ⟨he, ha⟩] at z
                              rw [← z]
                              simp [unhide HRO]
                        · go_simp
                          have HA1 := hide ((unhide HA0).box (wagg (fun _ => dv)) 72)
                          rw [zeros_eq] at HA1
                          refine hK.out _ _ (And.intro ((unhide HA1).kp.cell (by simp) (unhide HZ3)) (rangeAt_var (zoo_varm (unhide HA1) (List.Mem.tail _ (List.Mem.head _))))) (fun hHeld2 => ?_)
                          clear hK K hHeld
                          have hHeld := hHeld2
                          clear hHeld2
                          try simp only [Act.put, List.setIfInBounds_toArray, List.set_cons_zero, List.set_cons_succ]
                          generalize WD.heap.size = p9 at *
                          refine wpAnyH_only (i := 6) rfl (by kernel_rfl) (fun K hK => ?_)
                          go_simp
                          rw [← unhide HLX]
                          refine (rreplay u la lc xacts _ ((unhide HLS).kp0 (unhide HA1).kp) (unhide HOK)).mono ?_
                          rintro e w6 ⟨rfl, hk6⟩
                          rw [unhide HLX]
                          have HA2 := hide ((unhide HA1).kp0 hk6)
                          clear hk6
                          go_wp2_with fail
                          refine hK.out _ _ (And.intro ((unhide HA2).kp.cell (by simp) (unhide HZ3)) (rangeAt_var (zoo_varm (unhide HA2) (List.Mem.tail _ (List.Mem.head _))))) (fun hHeld2 => ?_)
                          clear hK K hHeld
                          have hHeld := hHeld2
                          clear hHeld2
                          try simp only [Act.put, List.setIfInBounds_toArray, List.set_cons_zero, List.set_cons_succ]
                          refine wpAnyH_tk (i := 7) (v := ?_) rfl (by kernel_rfl) (by kernel_rfl) (by kernel_rfl) (fun _ _ _ h => h) (Or.inl ⟨by rfl, ?_⟩) hHeld ?_
                          rotate_left
                          · intro w hSw
                            try dsimp only at hSw
                            go_simp
                            try with_reducible rfl
                          try simp only [Act.put, List.setIfInBounds_toArray, List.set_cons_zero, List.set_cons_succ]
                          refine wpAnyH_tk (i := 8) (v := ?_) rfl (by kernel_rfl) (by kernel_rfl) (by kernel_rfl) (fun _ _ _ h => h) (Or.inl ⟨by rfl, ?_⟩) hHeld ?_
                          rotate_left
                          · intro w hSw
                            try dsimp only at hSw
                            go_simp
                            try with_reducible rfl
                          try simp only [Act.put, List.setIfInBounds_toArray, List.set_cons_zero, List.set_cons_succ]
                          refine wpAnyH_tk (i := 9) (v := ?_) rfl (by kernel_rfl) (by kernel_rfl) (by kernel_rfl) (fun _ _ _ h => h) (Or.inl ⟨by rfl, ?_⟩) hHeld ?_
                          rotate_left
                          · intro w hSw
                            try dsimp only at hSw
                            go_simp
                            try with_reducible rfl
                          try simp only [Act.put, List.setIfInBounds_toArray, List.set_cons_zero, List.set_cons_succ]
                          refine wpAnyH_only (i := 11) rfl (by kernel_rfl) (fun K hK => ?_)
                          rw [if_pos (by rfl)]
                          refine wp_store_row 72 _ _ rfl p9 (wagg (rpw u xacts)) rfl rfl 72 _ (zoo_varm (unhide HA2) (List.Mem.head _)) Try.size72 rfl (wagg_one _) ?_
                          have HZF := hide (zoo_setrL (l1 := []) (c' := wagg (rpw u xacts)) (unhide HA2))
                          refine hK.out _ _ (And.intro ((unhide HZF).kp.cell (by simp) (unhide HZ3)) (rangeAt_var (zoo_varm (unhide HZF) (List.Mem.tail _ (List.Mem.head _))))) (fun hHeld2 => ?_)
                          clear hK K hHeld
                          have hHeld := hHeld2
                          clear hHeld2
                          simp only [Act.put]
                          refine wpAnyH_tk (i := 12) (v := ?_) rfl (by kernel_rfl) (by kernel_rfl) (by kernel_rfl) (fun _ _ _ h => h) (Or.inl ⟨by rfl, ?_⟩) hHeld ?_
                          rotate_left
                          · intro w hSw
                            try dsimp only at hSw
                            go_simp
                            try with_reducible rfl
                          try simp only [Act.put, List.setIfInBounds_toArray, List.set_cons_zero, List.set_cons_succ]
                          refine wpAnyH_done (by kernel_rfl) ?_ _
                          generalize World.setRow _ _ _ = W9 at HZF ⊢
                          clear hHeld
                          clear q0 q1
                          cases ok2 with
                          | false =>
                            cases hro : rpo u xacts with
                            | true =>
                              have HRO := hide hro
                              clear hro
                              go_wp2_with fail
                              refine ⟨⟨i + 1, false, by omega, rfl, by go_num, (unhide HZF).tail, ?_⟩, by simp [intOf]; omega⟩
                              show srL k u false (ds.drop (i + 1)) = Tt
                              have z := unhide HSL
                              rw [unhide HDR] at z
                              simp only [srL] at z
                              rw [if_pos ⟨he, ha⟩] at z
                              rw [← z]
                              simp [unhide HRO]
                            | false =>
                              have HRO := hide hro
                              clear hro
                              go_wp2_with fail
                              refine ⟨⟨i + 1, false, by omega, rfl, by go_num, (unhide HZF).tail, ?_⟩, by simp [intOf]; omega⟩
                              show srL k u false (ds.drop (i + 1)) = Tt
                              have z := unhide HSL
                              rw [unhide HDR] at z
                              simp only [srL] at z
                              rw [if_pos ⟨he, ha⟩] at z
                              rw [← z]
                              simp [unhide HRO]
                          | true =>
                            cases hro : rpo u xacts with
                            | true =>
                              have HRO := hide hro
                              clear hro
                              go_wp2_with fail
                              refine ⟨⟨i + 1, true, by omega, rfl, by go_num, (unhide HZF).tail, ?_⟩, by simp [intOf]; omega⟩
                              show srL k u true (ds.drop (i + 1)) = Tt
                              have z := unhide HSL
                              rw [unhide HDR] at z
                              simp only [srL] at z
                              rw [if_pos ⟨he, ha⟩] at z
                              rw [← z]
                              simp [unhide HRO]
                            | false =>
                              have HRO := hide hro
                              clear hro
                              go_wp2_with fail
                              refine ⟨⟨i + 1, false, by omega, rfl, by go_num, (unhide HZF).tail, ?_⟩, by simp [intOf]; omega⟩
                              show srL k u false (ds.drop (i + 1)) = Tt
                              have z := unhide HSL
                              rw [unhide HDR] at z
                              simp only [srL] at z
                              rw [if_pos ⟨he, ha⟩] at z
                              rw [← z]
                              simp [unhide HRO]
                      · skip
                        have ha2 : (xa == (k : Int)) = false := by simpa using ha
                        go_wp2_with fail
                        refine ⟨⟨i + 1, ok2, by omega, rfl, by go_num, unhide HZ2, ?_⟩, by simp [intOf]; omega⟩
                        have z := unhide HSL
                        rw [unhide HDR] at z
                        simp only [srL] at z
                        rw [if_neg (fun q => ha q.2)] at z
                        exact z
                    · skip
                      have he2 : (xn == 0) = false := by simpa using he
                      go_wp2_with fail
                      refine ⟨⟨i + 1, ok2, by omega, rfl, by go_num, unhide HZ2, ?_⟩, by simp [intOf]; omega⟩
                      have z := unhide HSL
                      rw [unhide HDR] at z
                      simp only [srL] at z
                      rw [if_neg (fun q => he q.1)] at z
                      exact z
                  · have j1 : ¬ (i : Int) < (m : Int) := by omega
                    have HTO : Hid (ok2 = Tt) := by
                      have z := unhide HSL
                      rw [List.drop_eq_nil_of_le (by have := unhide HM; omega)] at z
                      exact z
                    rw [← unhide HTO] at HST2
                    go_wp2_with fail
                    exact ⟨⟨k + 1, ok2, by omega, rfl, by go_num, u, unhide HZ2, unhide HST2⟩, by simp [intOf]; omega⟩
        · have k1 : ¬ (k : Int) ≤ (M : Int) := by omega
          have e1 : k = M + 1 := by omega
          have HOK2 : Hid (ok = R) := by
            have z := unhide HRR
            rw [e1, Nat.sub_self] at z
            exact z
          go_wp2_with fail
          go_ret
          exact ⟨congrArg (fun z => Ending.returned (Value.bool z)) (unhide HOK2), (unhide HZ).kp⟩
end Go.Proofs.Ytapmlleemopcnac
