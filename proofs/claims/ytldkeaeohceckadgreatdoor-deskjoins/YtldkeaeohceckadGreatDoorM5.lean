/- Bound together for a claim. -/
import Derived.Test.YtldkeaeohceckadGreatDoorM4
namespace Go.Proofs.YtldkeaeohceckadGreatDoor
set_option maxRecDepth 20000
set_option maxHeartbeats 64000000
/- DeskJoins: what lines tell one behind the other they tell together. -/
section
open Go.RowKit
attribute [local go_sem ↓] Go.wp_at_zero Go.wp_at_succ

theorem Wrd.take {w : World} {a : Option Addr} {ws : List (List UInt8)} (h : Wrd w a ws) (k : Nat) : Wrd w a (ws.take k) := fun hp => by
  obtain ⟨g, o, e, h1⟩ := h (by rw [List.length_take] at hp; omega)
  refine ⟨g, o, e, fun j l hl => h1 j l ?_⟩
  rw [List.getElem?_take] at hl
  split at hl
  · exact hl
  · cases hl
theorem sl_cases {b : Bool} {p : Prop} (h : b = false → p) : (b = false ∧ p) ∨ b = true := by
  cases b with
  | false => exact .inl ⟨rfl, h rfl⟩
  | true => exact .inr rfl
theorem lft_small {ls : List (List UInt8)} (h : ls.length ≤ 150) : lft ls = lfg 0 ls := by unfold lft; rw [if_neg (by omega)]
theorem lft_parts {ls : List (List UInt8)} (h : ls.length ≤ 150) (k : Nat) : (lft ls).1 = 0 ↔ (lft (ls.take k)).1 = 0 ∧ (lft (ls.drop k)).1 = 0 := by
  rw [lft_small h, lft_small (by rw [List.length_take]; omega), lft_small (by rw [List.length_drop]; omega), lfg_iff, lfg_iff, lfg_iff]
  constructor
  · intro q
    exact ⟨fun l hl => q l (List.mem_of_mem_take hl), fun l hl => q l (List.mem_of_mem_drop hl)⟩
  · rintro ⟨q1, q2⟩ l hl
    rw [← List.take_append_drop k ls] at hl
    rcases List.mem_append.1 hl with e | e
    · exact q1 l e
    · exact q2 l e
theorem dox_join {ls : List (List UInt8)} (h : ls.length ≤ 150) (k : Nat) (h0 : HSt) (hz : (lft ls).1 = 0) : (dox h0 (ls.take k)).2 ++ (dox (dox h0 (ls.take k)).1 (ls.drop k)).2 = (dox h0 ls).2 := by
  obtain ⟨h1, h2⟩ := (lft_parts h k).1 hz
  have e0 : dox h0 ls = drun h0 ls := if_neg (fun q => q hz)
  have e1 : dox h0 (ls.take k) = drun h0 (ls.take k) := if_neg (fun q => q h1)
  have e2 : dox (drun h0 (ls.take k)).1 (ls.drop k) = drun (drun h0 (ls.take k)).1 (ls.drop k) := if_neg (fun q => q h2)
  rw [e0, e1, e2]
  have := drun_app h0 (ls.take k) (ls.drop k)
  rw [List.take_append_drop] at this
  rw [this]
set_option maxHeartbeats 8000000 in
theorem djoins (a : Option Addr) (n cap : Nat) (ls : List (List UInt8)) (ct : Int) (w : World) (hn : n = ls.length) (hnm : n ≤ 9223372036854775807) (hcap : n ≤ cap) (hw : Wrd w a ls) (hl : ∀ l ∈ ls, l.length ≤ 140737488355327) (hnone : a = none → cap = 0) (hg : Gnd w) :
    Calls Tryz.prog 4 #[.slice a n cap, .int .i64 ct] w fun e w' => e = .returned (.bool true) ∧ Below w.heap.size w w' := by
  have HB := hide (dbegun w hg)
  have HG := hide hg
  have HN := hide hn
  have HL := hide hl
  have HW := hide hw
  have HS := hide (fun W (hk : Kp [] w W) => dslow ls n hn a cap W (hw.kp0 hk) hnm hl)
  clear hg hn hl hw
  go_enter Tryz.func4, Tryz.ntmps4
  by_cases hbig : 150 < n
  · have i1 : (150 : Int) < (n : Int) := by omega
    go_wp2_with (go_at_call 5; refine (unhide HB).mono ?_; rintro e w1 ⟨rfl, hk1⟩; have HK1 := hide hk1; clear hk1)
    go_ret
    exact ⟨rfl, below_of_kp (unhide HK1)⟩
  have i1 : ¬ (150 : Int) < (n : Int) := by omega
  obtain ⟨k, hcut, hkn⟩ := cut_of ct (n := n) (by omega)
  have d0 : (0 : Int) ≤ (k : Int) := by omega
  have d1 : (k : Int) ≤ (cap : Int) := by omega
  have d2 : (k : Int) ≤ (n : Int) := by omega
  have hlen : ls.length ≤ 150 := by rw [← unhide HN]; omega
  have htk : (ls.take k).length = k := by rw [List.length_take, ← unhide HN]; omega
  have hdk : (ls.drop k).length = n - k := by rw [List.length_drop, ← unhide HN]
  have HTK := hide htk
  have HDK := hide hdk
  have HLE := hide hlen
  clear htk hdk hlen
  obtain ⟨⟨c1, p1⟩, hc1⟩ : ∃ q, lft (ls.take k) = q := ⟨_, rfl⟩
  obtain ⟨⟨c2, p2⟩, hc2⟩ : ∃ q, lft ls = q := ⟨_, rfl⟩
  obtain ⟨⟨c3, p3⟩, hc3⟩ : ∃ q, lft (ls.drop k) = q := ⟨_, rfl⟩
  obtain ⟨⟨s1, t1⟩, hT1⟩ : ∃ q, dox h00 (ls.take k) = q := ⟨_, rfl⟩
  obtain ⟨⟨s2, t2⟩, hT2⟩ : ∃ q, dox h00 ls = q := ⟨_, rfl⟩
  obtain ⟨⟨s3, t3⟩, hT3⟩ : ∃ q, dox s1 (ls.drop k) = q := ⟨_, rfl⟩
  have hpar := lft_parts (unhide HLE) k
  rw [hc1, hc2, hc3] at hpar
  dsimp only at hpar
  have hjoin : c2 = 0 → t1 ++ t3 = t2 := fun e => by
    have q := dox_join (unhide HLE) k h00 (by rw [hc2]; exact e)
    rw [hT1, hT2] at q
    dsimp only at q
    rw [hT3] at q
    exact q
  have hd1 : lsum ls ≤ 9000 → ∀ (W : World) (r : List Thing) (d hb : Nat) (aa : Option Addr) (cc : Nat), Wrd w aa (ls.take k) → Zoo w W (HalT hb h00 :: DskT d hb [] :: r) → Calls Tryz.prog 9 #[.pointer (some ⟨d, 0, none⟩), .slice aa k cc] W fun e w' => e = .returned (.tuple #[.string ⟨t1.toArray⟩, .agg #[.int .i64 c1, .int .i64 p1]]) ∧ t1.length ≤ 90000 ∧ Zoo w w' (HalT hb s1 :: DskT d hb [] :: r) := fun hs W r d hb aa cc hw1 hz1 => by
    have q := ddo (ls.take k) k (unhide HTK).symm aa cc (fun W' _ hz' => hw1.kp0 hz'.kp) (fun l hl => Nat.le_trans (lsum_mem (List.mem_of_mem_take hl)) (by omega)) (unhide HG) hz1
    unfold DoEnd at q
    rw [hT1, hc1] at q
    exact q
  have hd2 : lsum ls ≤ 9000 → ∀ (W : World) (r : List Thing) (d hb : Nat) (aa : Option Addr) (cc : Nat), Wrd w aa ls → Zoo w W (HalT hb h00 :: DskT d hb [] :: r) → Calls Tryz.prog 9 #[.pointer (some ⟨d, 0, none⟩), .slice aa n cc] W fun e w' => e = .returned (.tuple #[.string ⟨t2.toArray⟩, .agg #[.int .i64 c2, .int .i64 p2]]) ∧ t2.length ≤ 90000 ∧ Zoo w w' (HalT hb s2 :: DskT d hb [] :: r) := fun hs W r d hb aa cc hw1 hz1 => by
    have q := ddo ls n (unhide HN) aa cc (fun W' _ hz' => hw1.kp0 hz'.kp) (fun l hl => Nat.le_trans (lsum_mem hl) (by omega)) (unhide HG) hz1
    unfold DoEnd at q
    rw [hT2, hc2] at q
    exact q
  have hd3 : lsum ls ≤ 9000 → ∀ (W : World) (r : List Thing) (d hb : Nat) (aa : Option Addr) (cc : Nat), Wrd w aa (ls.drop k) → Zoo w W (HalT hb s1 :: DskT d hb [] :: r) → Calls Tryz.prog 9 #[.pointer (some ⟨d, 0, none⟩), .slice aa (n - k) cc] W fun e w' => e = .returned (.tuple #[.string ⟨t3.toArray⟩, .agg #[.int .i64 c3, .int .i64 p3]]) ∧ t3.length ≤ 90000 ∧ Zoo w w' (HalT hb s3 :: DskT d hb [] :: r) := fun hs W r d hb aa cc hw1 hz1 => by
    have q := ddo (ls.drop k) (n - k) (unhide HDK).symm aa cc (fun W' _ hz' => hw1.kp0 hz'.kp) (fun l hl => Nat.le_trans (lsum_mem (List.mem_of_mem_drop hl)) (by omega)) (unhide HG) hz1
    unfold DoEnd at q
    rw [hT3, hc3] at q
    exact q
  have HD1 := hide hd1
  have HD2 := hide hd2
  have HD3 := hide hd3
  have HJ := hide hjoin
  have hcase : (c2 = 0 ∧ c1 = 0 ∧ c3 = 0) ∨ (c2 ≠ 0 ∧ c1 ≠ 0) ∨ (c2 ≠ 0 ∧ c1 = 0 ∧ c3 ≠ 0) := by omega
  clear hd1 hd2 hd3 hjoin hc1 hc2 hc3 hT1 hT2 hT3 hpar
  have HW1 := hide ((unhide HW).take k)
  cases a with
  | none =>
    have hc0 := hnone rfl
    subst hc0
    have hn0 : n = 0 := by omega
    subst hn0
    have hk0 : k = 0 := by omega
    subst hk0
    have HWD : Hid (∀ aa, Wrd w aa (ls.drop 0)) := fun aa hp => by rw [List.drop_zero, ← unhide HN] at hp; omega
    rcases hcase with ⟨rfl, rfl, rfl⟩ | ⟨g2, g1⟩ | ⟨g2, rfl, g3⟩
    · have ht := unhide HJ rfl
      subst ht
      have hmk := mk_app t1 t3
      go_wp2_with (first | (go_at_call 5; refine (unhide HB).mono ?_; rintro e w1 ⟨rfl, hk1⟩; have HK1 := hide hk1; clear hk1) | (go_at_call 6; refine (unhide HS _ (unhide HK1)).mono ?_; rintro e w1b ⟨b, rfl, hb, hw1⟩; subst w1b; obtain ⟨rfl, hs⟩ | rfl := sl_cases hb) | (go_at_call 7; refine (dnew (unhide HZ2)).mono ?_; rintro e w3 ⟨dd2, hb2, rfl, HZ3⟩) | (go_at_call 7; refine (dnew (zoo_nil (unhide HK1))).mono ?_; rintro e w2 ⟨dd1, hb1, rfl, HZ2⟩) | (go_at_call 9; refine (unhide HD2 hs _ _ _ _ _ _ (unhide HW) (unhide HZ7)).mono ?_; rintro e w8 ⟨rfl, b4, hz8⟩; have HZ8 := hide (hz8.box #[.int .i64 0, .int .i64 p2] 31); have e3 := cell_of_block (i := 0) (zoo_varm (unhide HZ8) (List.Mem.tail _ (List.Mem.tail _ (List.Mem.tail _ (List.Mem.head _))))) rfl; have e4 := cell_of_block (i := 0) (zoo_varm (unhide HZ8) (List.Mem.tail _ (List.Mem.tail _ (List.Mem.tail _ (List.Mem.tail _ (List.Mem.tail _ (List.Mem.tail _ (List.Mem.tail _ (List.Mem.tail _ (List.Mem.tail _ (List.Mem.head _))))))))))) rfl; clear hz8) | (go_at_call 7; refine (dnew (unhide HZ6)).mono ?_; rintro e w7 ⟨dd3, hb3, rfl, HZ7⟩) | (go_at_call 9; refine (unhide HD3 hs _ _ _ _ _ _ (unhide HWD _) (zoo_42 (unhide HZ5))).mono ?_; rintro e w6 ⟨rfl, b3, hz6⟩; have hcat : ¬ 9223372036854775807 < t1.length + t3.length := (by omega); have HZ6 := hide (hz6.box #[.int .i64 0, .int .i64 p3] 31); have e1 := cell_of_block (i := 0) (zoo_varm (unhide HZ6) (List.Mem.tail _ (List.Mem.tail _ (List.Mem.tail _ (List.Mem.head _))))) rfl; have e2 := cell_of_block (i := 0) (zoo_varm (unhide HZ6) (List.Mem.tail _ (List.Mem.tail _ (List.Mem.tail _ (List.Mem.tail _ (List.Mem.tail _ (List.Mem.tail _ (List.Mem.head _)))))))) rfl; clear hz6) | (go_at_call 9; refine (unhide HD2 hs _ _ _ _ _ _ (unhide HW) (zoo_32 (unhide HZ4))).mono ?_; rintro e w5 ⟨rfl, b2, hz5⟩; have HZ5 := hide (hz5.box #[.int .i64 0, .int .i64 p2] 31); clear hz5) | (go_at_call 9; refine (unhide HD1 hs _ _ _ _ _ _ (unhide HW1) (zoo_22 (unhide HZ3))).mono ?_; rintro e w4 ⟨rfl, b1, hz4⟩; have HZ4 := hide (hz4.box #[.int .i64 0, .int .i64 p1] 31); clear hz4))
      all_goals (go_ret; first | exact ⟨rfl, below_of_kp (unhide HZ8).kp⟩ | exact ⟨rfl, below_of_kp (unhide HZ6).kp⟩ | exact ⟨rfl, below_of_kp (unhide HK1)⟩)
    · have g2b : (c2 != 0) = true := by simpa using g2
      have g1b : (c1 != 0) = true := by simpa using g1
      go_wp2_with (first | (go_at_call 5; refine (unhide HB).mono ?_; rintro e w1 ⟨rfl, hk1⟩; have HK1 := hide hk1; clear hk1) | (go_at_call 6; refine (unhide HS _ (unhide HK1)).mono ?_; rintro e w1b ⟨b, rfl, hb, hw1⟩; subst w1b; obtain ⟨rfl, hs⟩ | rfl := sl_cases hb) | (go_at_call 7; refine (dnew (unhide HZ2)).mono ?_; rintro e w3 ⟨dd2, hb2, rfl, HZ3⟩) | (go_at_call 7; refine (dnew (zoo_nil (unhide HK1))).mono ?_; rintro e w2 ⟨dd1, hb1, rfl, HZ2⟩) | (go_at_call 9; refine (unhide HD3 hs _ _ _ _ _ _ (unhide HWD _) (zoo_42 (unhide HZ5))).mono ?_; rintro e w6 ⟨rfl, b3, hz6⟩; have hcat : ¬ 9223372036854775807 < t1.length + t3.length := (by omega); have HZ6 := hide (hz6.box #[.int .i64 c3, .int .i64 p3] 31); have e1 := cell_of_block (i := 0) (zoo_varm (unhide HZ6) (List.Mem.tail _ (List.Mem.tail _ (List.Mem.tail _ (List.Mem.head _))))) rfl; have e2 := cell_of_block (i := 0) (zoo_varm (unhide HZ6) (List.Mem.tail _ (List.Mem.tail _ (List.Mem.tail _ (List.Mem.tail _ (List.Mem.tail _ (List.Mem.tail _ (List.Mem.head _)))))))) rfl; clear hz6) | (go_at_call 9; refine (unhide HD2 hs _ _ _ _ _ _ (unhide HW) (zoo_32 (unhide HZ4))).mono ?_; rintro e w5 ⟨rfl, b2, hz5⟩; have HZ5 := hide (hz5.box #[.int .i64 c2, .int .i64 p2] 31); clear hz5) | (go_at_call 9; refine (unhide HD1 hs _ _ _ _ _ _ (unhide HW1) (zoo_22 (unhide HZ3))).mono ?_; rintro e w4 ⟨rfl, b1, hz4⟩; have HZ4 := hide (hz4.box #[.int .i64 c1, .int .i64 p1] 31); clear hz4))
      all_goals (go_ret; first | exact ⟨rfl, below_of_kp (unhide HZ8).kp⟩ | exact ⟨rfl, below_of_kp (unhide HZ6).kp⟩ | exact ⟨rfl, below_of_kp (unhide HK1)⟩)
    · have g2b : (c2 != 0) = true := by simpa using g2
      have g3b : (c3 != 0) = true := by simpa using g3
      go_wp2_with (first | (go_at_call 5; refine (unhide HB).mono ?_; rintro e w1 ⟨rfl, hk1⟩; have HK1 := hide hk1; clear hk1) | (go_at_call 6; refine (unhide HS _ (unhide HK1)).mono ?_; rintro e w1b ⟨b, rfl, hb, hw1⟩; subst w1b; obtain ⟨rfl, hs⟩ | rfl := sl_cases hb) | (go_at_call 7; refine (dnew (unhide HZ2)).mono ?_; rintro e w3 ⟨dd2, hb2, rfl, HZ3⟩) | (go_at_call 7; refine (dnew (zoo_nil (unhide HK1))).mono ?_; rintro e w2 ⟨dd1, hb1, rfl, HZ2⟩) | (go_at_call 9; refine (unhide HD3 hs _ _ _ _ _ _ (unhide HWD _) (zoo_42 (unhide HZ5))).mono ?_; rintro e w6 ⟨rfl, b3, hz6⟩; have hcat : ¬ 9223372036854775807 < t1.length + t3.length := (by omega); have HZ6 := hide (hz6.box #[.int .i64 c3, .int .i64 p3] 31); have e1 := cell_of_block (i := 0) (zoo_varm (unhide HZ6) (List.Mem.tail _ (List.Mem.tail _ (List.Mem.tail _ (List.Mem.head _))))) rfl; have e2 := cell_of_block (i := 0) (zoo_varm (unhide HZ6) (List.Mem.tail _ (List.Mem.tail _ (List.Mem.tail _ (List.Mem.tail _ (List.Mem.tail _ (List.Mem.tail _ (List.Mem.head _)))))))) rfl; clear hz6) | (go_at_call 9; refine (unhide HD2 hs _ _ _ _ _ _ (unhide HW) (zoo_32 (unhide HZ4))).mono ?_; rintro e w5 ⟨rfl, b2, hz5⟩; have HZ5 := hide (hz5.box #[.int .i64 c2, .int .i64 p2] 31); clear hz5) | (go_at_call 9; refine (unhide HD1 hs _ _ _ _ _ _ (unhide HW1) (zoo_22 (unhide HZ3))).mono ?_; rintro e w4 ⟨rfl, b1, hz4⟩; have HZ4 := hide (hz4.box #[.int .i64 0, .int .i64 p1] 31); clear hz4))
      all_goals (go_ret; first | exact ⟨rfl, below_of_kp (unhide HZ8).kp⟩ | exact ⟨rfl, below_of_kp (unhide HZ6).kp⟩ | exact ⟨rfl, below_of_kp (unhide HK1)⟩)
  | some ad =>
    by_cases hn0 : n = 0
    · subst hn0
      have hk0 : k = 0 := by omega
      subst hk0
      have HWD : Hid (∀ aa, Wrd w aa (ls.drop 0)) := fun aa hp => by rw [List.drop_zero, ← unhide HN] at hp; omega
      have HW : Hid (∀ aa, Wrd w aa ls) := fun aa hp => by rw [← unhide HN] at hp; omega
      have HW1 : Hid (∀ aa, Wrd w aa (ls.take 0)) := fun aa hp => by simp at hp
      by_cases hc0 : cap = 0
      · subst hc0
        rcases hcase with ⟨rfl, rfl, rfl⟩ | ⟨g2, g1⟩ | ⟨g2, rfl, g3⟩
        · have ht := unhide HJ rfl
          subst ht
          have hmk := mk_app t1 t3
          go_wp2_with (first | (go_at_call 5; refine (unhide HB).mono ?_; rintro e w1 ⟨rfl, hk1⟩; have HK1 := hide hk1; clear hk1) | (go_at_call 6; refine (unhide HS _ (unhide HK1)).mono ?_; rintro e w1b ⟨b, rfl, hb, hw1⟩; subst w1b; obtain ⟨rfl, hs⟩ | rfl := sl_cases hb) | (go_at_call 7; refine (dnew (unhide HZ2)).mono ?_; rintro e w3 ⟨dd2, hb2, rfl, HZ3⟩) | (go_at_call 7; refine (dnew (zoo_nil (unhide HK1))).mono ?_; rintro e w2 ⟨dd1, hb1, rfl, HZ2⟩) | (go_at_call 9; refine (unhide HD2 hs _ _ _ _ _ _ (unhide HW _) (unhide HZ7)).mono ?_; rintro e w8 ⟨rfl, b4, hz8⟩; have HZ8 := hide (hz8.box #[.int .i64 0, .int .i64 p2] 31); have e3 := cell_of_block (i := 0) (zoo_varm (unhide HZ8) (List.Mem.tail _ (List.Mem.tail _ (List.Mem.tail _ (List.Mem.head _))))) rfl; have e4 := cell_of_block (i := 0) (zoo_varm (unhide HZ8) (List.Mem.tail _ (List.Mem.tail _ (List.Mem.tail _ (List.Mem.tail _ (List.Mem.tail _ (List.Mem.tail _ (List.Mem.tail _ (List.Mem.tail _ (List.Mem.tail _ (List.Mem.head _))))))))))) rfl; clear hz8) | (go_at_call 7; refine (dnew (unhide HZ6)).mono ?_; rintro e w7 ⟨dd3, hb3, rfl, HZ7⟩) | (go_at_call 9; refine (unhide HD3 hs _ _ _ _ _ _ (unhide HWD _) (zoo_42 (unhide HZ5))).mono ?_; rintro e w6 ⟨rfl, b3, hz6⟩; have hcat : ¬ 9223372036854775807 < t1.length + t3.length := (by omega); have HZ6 := hide (hz6.box #[.int .i64 0, .int .i64 p3] 31); have e1 := cell_of_block (i := 0) (zoo_varm (unhide HZ6) (List.Mem.tail _ (List.Mem.tail _ (List.Mem.tail _ (List.Mem.head _))))) rfl; have e2 := cell_of_block (i := 0) (zoo_varm (unhide HZ6) (List.Mem.tail _ (List.Mem.tail _ (List.Mem.tail _ (List.Mem.tail _ (List.Mem.tail _ (List.Mem.tail _ (List.Mem.head _)))))))) rfl; clear hz6) | (go_at_call 9; refine (unhide HD2 hs _ _ _ _ _ _ (unhide HW _) (zoo_32 (unhide HZ4))).mono ?_; rintro e w5 ⟨rfl, b2, hz5⟩; have HZ5 := hide (hz5.box #[.int .i64 0, .int .i64 p2] 31); clear hz5) | (go_at_call 9; refine (unhide HD1 hs _ _ _ _ _ _ (unhide HW1 _) (zoo_22 (unhide HZ3))).mono ?_; rintro e w4 ⟨rfl, b1, hz4⟩; have HZ4 := hide (hz4.box #[.int .i64 0, .int .i64 p1] 31); clear hz4))
          all_goals (go_ret; first | exact ⟨rfl, below_of_kp (unhide HZ8).kp⟩ | exact ⟨rfl, below_of_kp (unhide HZ6).kp⟩ | exact ⟨rfl, below_of_kp (unhide HK1)⟩)
        · have g2b : (c2 != 0) = true := by simpa using g2
          have g1b : (c1 != 0) = true := by simpa using g1
          go_wp2_with (first | (go_at_call 5; refine (unhide HB).mono ?_; rintro e w1 ⟨rfl, hk1⟩; have HK1 := hide hk1; clear hk1) | (go_at_call 6; refine (unhide HS _ (unhide HK1)).mono ?_; rintro e w1b ⟨b, rfl, hb, hw1⟩; subst w1b; obtain ⟨rfl, hs⟩ | rfl := sl_cases hb) | (go_at_call 7; refine (dnew (unhide HZ2)).mono ?_; rintro e w3 ⟨dd2, hb2, rfl, HZ3⟩) | (go_at_call 7; refine (dnew (zoo_nil (unhide HK1))).mono ?_; rintro e w2 ⟨dd1, hb1, rfl, HZ2⟩) | (go_at_call 9; refine (unhide HD3 hs _ _ _ _ _ _ (unhide HWD _) (zoo_42 (unhide HZ5))).mono ?_; rintro e w6 ⟨rfl, b3, hz6⟩; have hcat : ¬ 9223372036854775807 < t1.length + t3.length := (by omega); have HZ6 := hide (hz6.box #[.int .i64 c3, .int .i64 p3] 31); have e1 := cell_of_block (i := 0) (zoo_varm (unhide HZ6) (List.Mem.tail _ (List.Mem.tail _ (List.Mem.tail _ (List.Mem.head _))))) rfl; have e2 := cell_of_block (i := 0) (zoo_varm (unhide HZ6) (List.Mem.tail _ (List.Mem.tail _ (List.Mem.tail _ (List.Mem.tail _ (List.Mem.tail _ (List.Mem.tail _ (List.Mem.head _)))))))) rfl; clear hz6) | (go_at_call 9; refine (unhide HD2 hs _ _ _ _ _ _ (unhide HW _) (zoo_32 (unhide HZ4))).mono ?_; rintro e w5 ⟨rfl, b2, hz5⟩; have HZ5 := hide (hz5.box #[.int .i64 c2, .int .i64 p2] 31); clear hz5) | (go_at_call 9; refine (unhide HD1 hs _ _ _ _ _ _ (unhide HW1 _) (zoo_22 (unhide HZ3))).mono ?_; rintro e w4 ⟨rfl, b1, hz4⟩; have HZ4 := hide (hz4.box #[.int .i64 c1, .int .i64 p1] 31); clear hz4))
          all_goals (go_ret; first | exact ⟨rfl, below_of_kp (unhide HZ8).kp⟩ | exact ⟨rfl, below_of_kp (unhide HZ6).kp⟩ | exact ⟨rfl, below_of_kp (unhide HK1)⟩)
        · have g2b : (c2 != 0) = true := by simpa using g2
          have g3b : (c3 != 0) = true := by simpa using g3
          go_wp2_with (first | (go_at_call 5; refine (unhide HB).mono ?_; rintro e w1 ⟨rfl, hk1⟩; have HK1 := hide hk1; clear hk1) | (go_at_call 6; refine (unhide HS _ (unhide HK1)).mono ?_; rintro e w1b ⟨b, rfl, hb, hw1⟩; subst w1b; obtain ⟨rfl, hs⟩ | rfl := sl_cases hb) | (go_at_call 7; refine (dnew (unhide HZ2)).mono ?_; rintro e w3 ⟨dd2, hb2, rfl, HZ3⟩) | (go_at_call 7; refine (dnew (zoo_nil (unhide HK1))).mono ?_; rintro e w2 ⟨dd1, hb1, rfl, HZ2⟩) | (go_at_call 9; refine (unhide HD3 hs _ _ _ _ _ _ (unhide HWD _) (zoo_42 (unhide HZ5))).mono ?_; rintro e w6 ⟨rfl, b3, hz6⟩; have hcat : ¬ 9223372036854775807 < t1.length + t3.length := (by omega); have HZ6 := hide (hz6.box #[.int .i64 c3, .int .i64 p3] 31); have e1 := cell_of_block (i := 0) (zoo_varm (unhide HZ6) (List.Mem.tail _ (List.Mem.tail _ (List.Mem.tail _ (List.Mem.head _))))) rfl; have e2 := cell_of_block (i := 0) (zoo_varm (unhide HZ6) (List.Mem.tail _ (List.Mem.tail _ (List.Mem.tail _ (List.Mem.tail _ (List.Mem.tail _ (List.Mem.tail _ (List.Mem.head _)))))))) rfl; clear hz6) | (go_at_call 9; refine (unhide HD2 hs _ _ _ _ _ _ (unhide HW _) (zoo_32 (unhide HZ4))).mono ?_; rintro e w5 ⟨rfl, b2, hz5⟩; have HZ5 := hide (hz5.box #[.int .i64 c2, .int .i64 p2] 31); clear hz5) | (go_at_call 9; refine (unhide HD1 hs _ _ _ _ _ _ (unhide HW1 _) (zoo_22 (unhide HZ3))).mono ?_; rintro e w4 ⟨rfl, b1, hz4⟩; have HZ4 := hide (hz4.box #[.int .i64 0, .int .i64 p1] 31); clear hz4))
          all_goals (go_ret; first | exact ⟨rfl, below_of_kp (unhide HZ8).kp⟩ | exact ⟨rfl, below_of_kp (unhide HZ6).kp⟩ | exact ⟨rfl, below_of_kp (unhide HK1)⟩)
      · have hc1 : ¬ (0 : Nat) = cap := fun e => hc0 e.symm
        have hcz : (0 : Int) ≤ (cap : Int) := by omega
        rcases hcase with ⟨rfl, rfl, rfl⟩ | ⟨g2, g1⟩ | ⟨g2, rfl, g3⟩
        · have ht := unhide HJ rfl
          subst ht
          have hmk := mk_app t1 t3
          go_wp2_with (first | (go_at_call 5; refine (unhide HB).mono ?_; rintro e w1 ⟨rfl, hk1⟩; have HK1 := hide hk1; clear hk1) | (go_at_call 6; refine (unhide HS _ (unhide HK1)).mono ?_; rintro e w1b ⟨b, rfl, hb, hw1⟩; subst w1b; obtain ⟨rfl, hs⟩ | rfl := sl_cases hb) | (go_at_call 7; refine (dnew (unhide HZ2)).mono ?_; rintro e w3 ⟨dd2, hb2, rfl, HZ3⟩) | (go_at_call 7; refine (dnew (zoo_nil (unhide HK1))).mono ?_; rintro e w2 ⟨dd1, hb1, rfl, HZ2⟩) | (go_at_call 9; refine (unhide HD2 hs _ _ _ _ _ _ (unhide HW _) (unhide HZ7)).mono ?_; rintro e w8 ⟨rfl, b4, hz8⟩; have HZ8 := hide (hz8.box #[.int .i64 0, .int .i64 p2] 31); have e3 := cell_of_block (i := 0) (zoo_varm (unhide HZ8) (List.Mem.tail _ (List.Mem.tail _ (List.Mem.tail _ (List.Mem.head _))))) rfl; have e4 := cell_of_block (i := 0) (zoo_varm (unhide HZ8) (List.Mem.tail _ (List.Mem.tail _ (List.Mem.tail _ (List.Mem.tail _ (List.Mem.tail _ (List.Mem.tail _ (List.Mem.tail _ (List.Mem.tail _ (List.Mem.tail _ (List.Mem.head _))))))))))) rfl; clear hz8) | (go_at_call 7; refine (dnew (unhide HZ6)).mono ?_; rintro e w7 ⟨dd3, hb3, rfl, HZ7⟩) | (go_at_call 9; refine (unhide HD3 hs _ _ _ _ _ _ (unhide HWD _) (zoo_42 (unhide HZ5))).mono ?_; rintro e w6 ⟨rfl, b3, hz6⟩; have hcat : ¬ 9223372036854775807 < t1.length + t3.length := (by omega); have HZ6 := hide (hz6.box #[.int .i64 0, .int .i64 p3] 31); have e1 := cell_of_block (i := 0) (zoo_varm (unhide HZ6) (List.Mem.tail _ (List.Mem.tail _ (List.Mem.tail _ (List.Mem.head _))))) rfl; have e2 := cell_of_block (i := 0) (zoo_varm (unhide HZ6) (List.Mem.tail _ (List.Mem.tail _ (List.Mem.tail _ (List.Mem.tail _ (List.Mem.tail _ (List.Mem.tail _ (List.Mem.head _)))))))) rfl; clear hz6) | (go_at_call 9; refine (unhide HD2 hs _ _ _ _ _ _ (unhide HW _) (zoo_32 (unhide HZ4))).mono ?_; rintro e w5 ⟨rfl, b2, hz5⟩; have HZ5 := hide (hz5.box #[.int .i64 0, .int .i64 p2] 31); clear hz5) | (go_at_call 9; refine (unhide HD1 hs _ _ _ _ _ _ (unhide HW1 _) (zoo_22 (unhide HZ3))).mono ?_; rintro e w4 ⟨rfl, b1, hz4⟩; have HZ4 := hide (hz4.box #[.int .i64 0, .int .i64 p1] 31); clear hz4))
          all_goals (go_ret; first | exact ⟨rfl, below_of_kp (unhide HZ8).kp⟩ | exact ⟨rfl, below_of_kp (unhide HZ6).kp⟩ | exact ⟨rfl, below_of_kp (unhide HK1)⟩)
        · have g2b : (c2 != 0) = true := by simpa using g2
          have g1b : (c1 != 0) = true := by simpa using g1
          go_wp2_with (first | (go_at_call 5; refine (unhide HB).mono ?_; rintro e w1 ⟨rfl, hk1⟩; have HK1 := hide hk1; clear hk1) | (go_at_call 6; refine (unhide HS _ (unhide HK1)).mono ?_; rintro e w1b ⟨b, rfl, hb, hw1⟩; subst w1b; obtain ⟨rfl, hs⟩ | rfl := sl_cases hb) | (go_at_call 7; refine (dnew (unhide HZ2)).mono ?_; rintro e w3 ⟨dd2, hb2, rfl, HZ3⟩) | (go_at_call 7; refine (dnew (zoo_nil (unhide HK1))).mono ?_; rintro e w2 ⟨dd1, hb1, rfl, HZ2⟩) | (go_at_call 9; refine (unhide HD3 hs _ _ _ _ _ _ (unhide HWD _) (zoo_42 (unhide HZ5))).mono ?_; rintro e w6 ⟨rfl, b3, hz6⟩; have hcat : ¬ 9223372036854775807 < t1.length + t3.length := (by omega); have HZ6 := hide (hz6.box #[.int .i64 c3, .int .i64 p3] 31); have e1 := cell_of_block (i := 0) (zoo_varm (unhide HZ6) (List.Mem.tail _ (List.Mem.tail _ (List.Mem.tail _ (List.Mem.head _))))) rfl; have e2 := cell_of_block (i := 0) (zoo_varm (unhide HZ6) (List.Mem.tail _ (List.Mem.tail _ (List.Mem.tail _ (List.Mem.tail _ (List.Mem.tail _ (List.Mem.tail _ (List.Mem.head _)))))))) rfl; clear hz6) | (go_at_call 9; refine (unhide HD2 hs _ _ _ _ _ _ (unhide HW _) (zoo_32 (unhide HZ4))).mono ?_; rintro e w5 ⟨rfl, b2, hz5⟩; have HZ5 := hide (hz5.box #[.int .i64 c2, .int .i64 p2] 31); clear hz5) | (go_at_call 9; refine (unhide HD1 hs _ _ _ _ _ _ (unhide HW1 _) (zoo_22 (unhide HZ3))).mono ?_; rintro e w4 ⟨rfl, b1, hz4⟩; have HZ4 := hide (hz4.box #[.int .i64 c1, .int .i64 p1] 31); clear hz4))
          all_goals (go_ret; first | exact ⟨rfl, below_of_kp (unhide HZ8).kp⟩ | exact ⟨rfl, below_of_kp (unhide HZ6).kp⟩ | exact ⟨rfl, below_of_kp (unhide HK1)⟩)
        · have g2b : (c2 != 0) = true := by simpa using g2
          have g3b : (c3 != 0) = true := by simpa using g3
          go_wp2_with (first | (go_at_call 5; refine (unhide HB).mono ?_; rintro e w1 ⟨rfl, hk1⟩; have HK1 := hide hk1; clear hk1) | (go_at_call 6; refine (unhide HS _ (unhide HK1)).mono ?_; rintro e w1b ⟨b, rfl, hb, hw1⟩; subst w1b; obtain ⟨rfl, hs⟩ | rfl := sl_cases hb) | (go_at_call 7; refine (dnew (unhide HZ2)).mono ?_; rintro e w3 ⟨dd2, hb2, rfl, HZ3⟩) | (go_at_call 7; refine (dnew (zoo_nil (unhide HK1))).mono ?_; rintro e w2 ⟨dd1, hb1, rfl, HZ2⟩) | (go_at_call 9; refine (unhide HD3 hs _ _ _ _ _ _ (unhide HWD _) (zoo_42 (unhide HZ5))).mono ?_; rintro e w6 ⟨rfl, b3, hz6⟩; have hcat : ¬ 9223372036854775807 < t1.length + t3.length := (by omega); have HZ6 := hide (hz6.box #[.int .i64 c3, .int .i64 p3] 31); have e1 := cell_of_block (i := 0) (zoo_varm (unhide HZ6) (List.Mem.tail _ (List.Mem.tail _ (List.Mem.tail _ (List.Mem.head _))))) rfl; have e2 := cell_of_block (i := 0) (zoo_varm (unhide HZ6) (List.Mem.tail _ (List.Mem.tail _ (List.Mem.tail _ (List.Mem.tail _ (List.Mem.tail _ (List.Mem.tail _ (List.Mem.head _)))))))) rfl; clear hz6) | (go_at_call 9; refine (unhide HD2 hs _ _ _ _ _ _ (unhide HW _) (zoo_32 (unhide HZ4))).mono ?_; rintro e w5 ⟨rfl, b2, hz5⟩; have HZ5 := hide (hz5.box #[.int .i64 c2, .int .i64 p2] 31); clear hz5) | (go_at_call 9; refine (unhide HD1 hs _ _ _ _ _ _ (unhide HW1 _) (zoo_22 (unhide HZ3))).mono ?_; rintro e w4 ⟨rfl, b1, hz4⟩; have HZ4 := hide (hz4.box #[.int .i64 0, .int .i64 p1] 31); clear hz4))
          all_goals (go_ret; first | exact ⟨rfl, below_of_kp (unhide HZ8).kp⟩ | exact ⟨rfl, below_of_kp (unhide HZ6).kp⟩ | exact ⟨rfl, below_of_kp (unhide HK1)⟩)
    · obtain ⟨g, o, e, hcells⟩ := unhide HW (by rw [← unhide HN]; omega)
      cases e
      by_cases hck : cap = k
      · subst hck
        have hnk : n = cap := by omega
        subst hnk
        rw [Nat.sub_self] at HD3
        have HWD : Hid (∀ aa, Wrd w aa (ls.drop n)) := fun aa hp => by rw [List.length_drop, ← unhide HN] at hp; omega
        clear hcells
        rcases hcase with ⟨rfl, rfl, rfl⟩ | ⟨g2, g1⟩ | ⟨g2, rfl, g3⟩
        · have ht := unhide HJ rfl
          subst ht
          have hmk := mk_app t1 t3
          go_wp2_with (first | (go_at_call 5; refine (unhide HB).mono ?_; rintro e w1 ⟨rfl, hk1⟩; have HK1 := hide hk1; clear hk1) | (go_at_call 6; refine (unhide HS _ (unhide HK1)).mono ?_; rintro e w1b ⟨b, rfl, hb, hw1⟩; subst w1b; obtain ⟨rfl, hs⟩ | rfl := sl_cases hb) | (go_at_call 7; refine (dnew (unhide HZ2)).mono ?_; rintro e w3 ⟨dd2, hb2, rfl, HZ3⟩) | (go_at_call 7; refine (dnew (zoo_nil (unhide HK1))).mono ?_; rintro e w2 ⟨dd1, hb1, rfl, HZ2⟩) | (go_at_call 9; refine (unhide HD2 hs _ _ _ _ _ _ (unhide HW) (unhide HZ7)).mono ?_; rintro e w8 ⟨rfl, b4, hz8⟩; have HZ8 := hide (hz8.box #[.int .i64 0, .int .i64 p2] 31); have e3 := cell_of_block (i := 0) (zoo_varm (unhide HZ8) (List.Mem.tail _ (List.Mem.tail _ (List.Mem.tail _ (List.Mem.head _))))) rfl; have e4 := cell_of_block (i := 0) (zoo_varm (unhide HZ8) (List.Mem.tail _ (List.Mem.tail _ (List.Mem.tail _ (List.Mem.tail _ (List.Mem.tail _ (List.Mem.tail _ (List.Mem.tail _ (List.Mem.tail _ (List.Mem.tail _ (List.Mem.head _))))))))))) rfl; clear hz8) | (go_at_call 7; refine (dnew (unhide HZ6)).mono ?_; rintro e w7 ⟨dd3, hb3, rfl, HZ7⟩) | (go_at_call 9; refine (unhide HD3 hs _ _ _ _ _ _ (unhide HWD _) (zoo_42 (unhide HZ5))).mono ?_; rintro e w6 ⟨rfl, b3, hz6⟩; have hcat : ¬ 9223372036854775807 < t1.length + t3.length := (by omega); have HZ6 := hide (hz6.box #[.int .i64 0, .int .i64 p3] 31); have e1 := cell_of_block (i := 0) (zoo_varm (unhide HZ6) (List.Mem.tail _ (List.Mem.tail _ (List.Mem.tail _ (List.Mem.head _))))) rfl; have e2 := cell_of_block (i := 0) (zoo_varm (unhide HZ6) (List.Mem.tail _ (List.Mem.tail _ (List.Mem.tail _ (List.Mem.tail _ (List.Mem.tail _ (List.Mem.tail _ (List.Mem.head _)))))))) rfl; clear hz6) | (go_at_call 9; refine (unhide HD2 hs _ _ _ _ _ _ (unhide HW) (zoo_32 (unhide HZ4))).mono ?_; rintro e w5 ⟨rfl, b2, hz5⟩; have HZ5 := hide (hz5.box #[.int .i64 0, .int .i64 p2] 31); clear hz5) | (go_at_call 9; refine (unhide HD1 hs _ _ _ _ _ _ (unhide HW1) (zoo_22 (unhide HZ3))).mono ?_; rintro e w4 ⟨rfl, b1, hz4⟩; have HZ4 := hide (hz4.box #[.int .i64 0, .int .i64 p1] 31); clear hz4))
          all_goals (go_ret; first | exact ⟨rfl, below_of_kp (unhide HZ8).kp⟩ | exact ⟨rfl, below_of_kp (unhide HZ6).kp⟩ | exact ⟨rfl, below_of_kp (unhide HK1)⟩)
        · have g2b : (c2 != 0) = true := by simpa using g2
          have g1b : (c1 != 0) = true := by simpa using g1
          go_wp2_with (first | (go_at_call 5; refine (unhide HB).mono ?_; rintro e w1 ⟨rfl, hk1⟩; have HK1 := hide hk1; clear hk1) | (go_at_call 6; refine (unhide HS _ (unhide HK1)).mono ?_; rintro e w1b ⟨b, rfl, hb, hw1⟩; subst w1b; obtain ⟨rfl, hs⟩ | rfl := sl_cases hb) | (go_at_call 7; refine (dnew (unhide HZ2)).mono ?_; rintro e w3 ⟨dd2, hb2, rfl, HZ3⟩) | (go_at_call 7; refine (dnew (zoo_nil (unhide HK1))).mono ?_; rintro e w2 ⟨dd1, hb1, rfl, HZ2⟩) | (go_at_call 9; refine (unhide HD3 hs _ _ _ _ _ _ (unhide HWD _) (zoo_42 (unhide HZ5))).mono ?_; rintro e w6 ⟨rfl, b3, hz6⟩; have hcat : ¬ 9223372036854775807 < t1.length + t3.length := (by omega); have HZ6 := hide (hz6.box #[.int .i64 c3, .int .i64 p3] 31); have e1 := cell_of_block (i := 0) (zoo_varm (unhide HZ6) (List.Mem.tail _ (List.Mem.tail _ (List.Mem.tail _ (List.Mem.head _))))) rfl; have e2 := cell_of_block (i := 0) (zoo_varm (unhide HZ6) (List.Mem.tail _ (List.Mem.tail _ (List.Mem.tail _ (List.Mem.tail _ (List.Mem.tail _ (List.Mem.tail _ (List.Mem.head _)))))))) rfl; clear hz6) | (go_at_call 9; refine (unhide HD2 hs _ _ _ _ _ _ (unhide HW) (zoo_32 (unhide HZ4))).mono ?_; rintro e w5 ⟨rfl, b2, hz5⟩; have HZ5 := hide (hz5.box #[.int .i64 c2, .int .i64 p2] 31); clear hz5) | (go_at_call 9; refine (unhide HD1 hs _ _ _ _ _ _ (unhide HW1) (zoo_22 (unhide HZ3))).mono ?_; rintro e w4 ⟨rfl, b1, hz4⟩; have HZ4 := hide (hz4.box #[.int .i64 c1, .int .i64 p1] 31); clear hz4))
          all_goals (go_ret; first | exact ⟨rfl, below_of_kp (unhide HZ8).kp⟩ | exact ⟨rfl, below_of_kp (unhide HZ6).kp⟩ | exact ⟨rfl, below_of_kp (unhide HK1)⟩)
        · have g2b : (c2 != 0) = true := by simpa using g2
          have g3b : (c3 != 0) = true := by simpa using g3
          go_wp2_with (first | (go_at_call 5; refine (unhide HB).mono ?_; rintro e w1 ⟨rfl, hk1⟩; have HK1 := hide hk1; clear hk1) | (go_at_call 6; refine (unhide HS _ (unhide HK1)).mono ?_; rintro e w1b ⟨b, rfl, hb, hw1⟩; subst w1b; obtain ⟨rfl, hs⟩ | rfl := sl_cases hb) | (go_at_call 7; refine (dnew (unhide HZ2)).mono ?_; rintro e w3 ⟨dd2, hb2, rfl, HZ3⟩) | (go_at_call 7; refine (dnew (zoo_nil (unhide HK1))).mono ?_; rintro e w2 ⟨dd1, hb1, rfl, HZ2⟩) | (go_at_call 9; refine (unhide HD3 hs _ _ _ _ _ _ (unhide HWD _) (zoo_42 (unhide HZ5))).mono ?_; rintro e w6 ⟨rfl, b3, hz6⟩; have hcat : ¬ 9223372036854775807 < t1.length + t3.length := (by omega); have HZ6 := hide (hz6.box #[.int .i64 c3, .int .i64 p3] 31); have e1 := cell_of_block (i := 0) (zoo_varm (unhide HZ6) (List.Mem.tail _ (List.Mem.tail _ (List.Mem.tail _ (List.Mem.head _))))) rfl; have e2 := cell_of_block (i := 0) (zoo_varm (unhide HZ6) (List.Mem.tail _ (List.Mem.tail _ (List.Mem.tail _ (List.Mem.tail _ (List.Mem.tail _ (List.Mem.tail _ (List.Mem.head _)))))))) rfl; clear hz6) | (go_at_call 9; refine (unhide HD2 hs _ _ _ _ _ _ (unhide HW) (zoo_32 (unhide HZ4))).mono ?_; rintro e w5 ⟨rfl, b2, hz5⟩; have HZ5 := hide (hz5.box #[.int .i64 c2, .int .i64 p2] 31); clear hz5) | (go_at_call 9; refine (unhide HD1 hs _ _ _ _ _ _ (unhide HW1) (zoo_22 (unhide HZ3))).mono ?_; rintro e w4 ⟨rfl, b1, hz4⟩; have HZ4 := hide (hz4.box #[.int .i64 0, .int .i64 p1] 31); clear hz4))
          all_goals (go_ret; first | exact ⟨rfl, below_of_kp (unhide HZ8).kp⟩ | exact ⟨rfl, below_of_kp (unhide HZ6).kp⟩ | exact ⟨rfl, below_of_kp (unhide HK1)⟩)
      · have HWD : Hid (Wrd w (some ⟨g, o + k, none⟩) (ls.drop k)) := fun _ => ⟨g, o + k, rfl, fun j l hl => by
          rw [List.getElem?_drop] at hl
          have := hcells (k + j) l hl
          rwa [show o + k + j = o + (k + j) by omega]⟩
        clear hcells
        rcases hcase with ⟨rfl, rfl, rfl⟩ | ⟨g2, g1⟩ | ⟨g2, rfl, g3⟩
        · have ht := unhide HJ rfl
          subst ht
          have hmk := mk_app t1 t3
          go_wp2_with (first | (go_at_call 5; refine (unhide HB).mono ?_; rintro e w1 ⟨rfl, hk1⟩; have HK1 := hide hk1; clear hk1) | (go_at_call 6; refine (unhide HS _ (unhide HK1)).mono ?_; rintro e w1b ⟨b, rfl, hb, hw1⟩; subst w1b; obtain ⟨rfl, hs⟩ | rfl := sl_cases hb) | (go_at_call 7; refine (dnew (unhide HZ2)).mono ?_; rintro e w3 ⟨dd2, hb2, rfl, HZ3⟩) | (go_at_call 7; refine (dnew (zoo_nil (unhide HK1))).mono ?_; rintro e w2 ⟨dd1, hb1, rfl, HZ2⟩) | (go_at_call 9; refine (unhide HD2 hs _ _ _ _ _ _ (unhide HW) (unhide HZ7)).mono ?_; rintro e w8 ⟨rfl, b4, hz8⟩; have HZ8 := hide (hz8.box #[.int .i64 0, .int .i64 p2] 31); have e3 := cell_of_block (i := 0) (zoo_varm (unhide HZ8) (List.Mem.tail _ (List.Mem.tail _ (List.Mem.tail _ (List.Mem.head _))))) rfl; have e4 := cell_of_block (i := 0) (zoo_varm (unhide HZ8) (List.Mem.tail _ (List.Mem.tail _ (List.Mem.tail _ (List.Mem.tail _ (List.Mem.tail _ (List.Mem.tail _ (List.Mem.tail _ (List.Mem.tail _ (List.Mem.tail _ (List.Mem.head _))))))))))) rfl; clear hz8) | (go_at_call 7; refine (dnew (unhide HZ6)).mono ?_; rintro e w7 ⟨dd3, hb3, rfl, HZ7⟩) | (go_at_call 9; refine (unhide HD3 hs _ _ _ _ _ _ (unhide HWD) (zoo_42 (unhide HZ5))).mono ?_; rintro e w6 ⟨rfl, b3, hz6⟩; have hcat : ¬ 9223372036854775807 < t1.length + t3.length := (by omega); have HZ6 := hide (hz6.box #[.int .i64 0, .int .i64 p3] 31); have e1 := cell_of_block (i := 0) (zoo_varm (unhide HZ6) (List.Mem.tail _ (List.Mem.tail _ (List.Mem.tail _ (List.Mem.head _))))) rfl; have e2 := cell_of_block (i := 0) (zoo_varm (unhide HZ6) (List.Mem.tail _ (List.Mem.tail _ (List.Mem.tail _ (List.Mem.tail _ (List.Mem.tail _ (List.Mem.tail _ (List.Mem.head _)))))))) rfl; clear hz6) | (go_at_call 9; refine (unhide HD2 hs _ _ _ _ _ _ (unhide HW) (zoo_32 (unhide HZ4))).mono ?_; rintro e w5 ⟨rfl, b2, hz5⟩; have HZ5 := hide (hz5.box #[.int .i64 0, .int .i64 p2] 31); clear hz5) | (go_at_call 9; refine (unhide HD1 hs _ _ _ _ _ _ (unhide HW1) (zoo_22 (unhide HZ3))).mono ?_; rintro e w4 ⟨rfl, b1, hz4⟩; have HZ4 := hide (hz4.box #[.int .i64 0, .int .i64 p1] 31); clear hz4))
          all_goals (go_ret; first | exact ⟨rfl, below_of_kp (unhide HZ8).kp⟩ | exact ⟨rfl, below_of_kp (unhide HZ6).kp⟩ | exact ⟨rfl, below_of_kp (unhide HK1)⟩)
        · have g2b : (c2 != 0) = true := by simpa using g2
          have g1b : (c1 != 0) = true := by simpa using g1
          go_wp2_with (first | (go_at_call 5; refine (unhide HB).mono ?_; rintro e w1 ⟨rfl, hk1⟩; have HK1 := hide hk1; clear hk1) | (go_at_call 6; refine (unhide HS _ (unhide HK1)).mono ?_; rintro e w1b ⟨b, rfl, hb, hw1⟩; subst w1b; obtain ⟨rfl, hs⟩ | rfl := sl_cases hb) | (go_at_call 7; refine (dnew (unhide HZ2)).mono ?_; rintro e w3 ⟨dd2, hb2, rfl, HZ3⟩) | (go_at_call 7; refine (dnew (zoo_nil (unhide HK1))).mono ?_; rintro e w2 ⟨dd1, hb1, rfl, HZ2⟩) | (go_at_call 9; refine (unhide HD3 hs _ _ _ _ _ _ (unhide HWD) (zoo_42 (unhide HZ5))).mono ?_; rintro e w6 ⟨rfl, b3, hz6⟩; have hcat : ¬ 9223372036854775807 < t1.length + t3.length := (by omega); have HZ6 := hide (hz6.box #[.int .i64 c3, .int .i64 p3] 31); have e1 := cell_of_block (i := 0) (zoo_varm (unhide HZ6) (List.Mem.tail _ (List.Mem.tail _ (List.Mem.tail _ (List.Mem.head _))))) rfl; have e2 := cell_of_block (i := 0) (zoo_varm (unhide HZ6) (List.Mem.tail _ (List.Mem.tail _ (List.Mem.tail _ (List.Mem.tail _ (List.Mem.tail _ (List.Mem.tail _ (List.Mem.head _)))))))) rfl; clear hz6) | (go_at_call 9; refine (unhide HD2 hs _ _ _ _ _ _ (unhide HW) (zoo_32 (unhide HZ4))).mono ?_; rintro e w5 ⟨rfl, b2, hz5⟩; have HZ5 := hide (hz5.box #[.int .i64 c2, .int .i64 p2] 31); clear hz5) | (go_at_call 9; refine (unhide HD1 hs _ _ _ _ _ _ (unhide HW1) (zoo_22 (unhide HZ3))).mono ?_; rintro e w4 ⟨rfl, b1, hz4⟩; have HZ4 := hide (hz4.box #[.int .i64 c1, .int .i64 p1] 31); clear hz4))
          all_goals (go_ret; first | exact ⟨rfl, below_of_kp (unhide HZ8).kp⟩ | exact ⟨rfl, below_of_kp (unhide HZ6).kp⟩ | exact ⟨rfl, below_of_kp (unhide HK1)⟩)
        · have g2b : (c2 != 0) = true := by simpa using g2
          have g3b : (c3 != 0) = true := by simpa using g3
          go_wp2_with (first | (go_at_call 5; refine (unhide HB).mono ?_; rintro e w1 ⟨rfl, hk1⟩; have HK1 := hide hk1; clear hk1) | (go_at_call 6; refine (unhide HS _ (unhide HK1)).mono ?_; rintro e w1b ⟨b, rfl, hb, hw1⟩; subst w1b; obtain ⟨rfl, hs⟩ | rfl := sl_cases hb) | (go_at_call 7; refine (dnew (unhide HZ2)).mono ?_; rintro e w3 ⟨dd2, hb2, rfl, HZ3⟩) | (go_at_call 7; refine (dnew (zoo_nil (unhide HK1))).mono ?_; rintro e w2 ⟨dd1, hb1, rfl, HZ2⟩) | (go_at_call 9; refine (unhide HD3 hs _ _ _ _ _ _ (unhide HWD) (zoo_42 (unhide HZ5))).mono ?_; rintro e w6 ⟨rfl, b3, hz6⟩; have hcat : ¬ 9223372036854775807 < t1.length + t3.length := (by omega); have HZ6 := hide (hz6.box #[.int .i64 c3, .int .i64 p3] 31); have e1 := cell_of_block (i := 0) (zoo_varm (unhide HZ6) (List.Mem.tail _ (List.Mem.tail _ (List.Mem.tail _ (List.Mem.head _))))) rfl; have e2 := cell_of_block (i := 0) (zoo_varm (unhide HZ6) (List.Mem.tail _ (List.Mem.tail _ (List.Mem.tail _ (List.Mem.tail _ (List.Mem.tail _ (List.Mem.tail _ (List.Mem.head _)))))))) rfl; clear hz6) | (go_at_call 9; refine (unhide HD2 hs _ _ _ _ _ _ (unhide HW) (zoo_32 (unhide HZ4))).mono ?_; rintro e w5 ⟨rfl, b2, hz5⟩; have HZ5 := hide (hz5.box #[.int .i64 c2, .int .i64 p2] 31); clear hz5) | (go_at_call 9; refine (unhide HD1 hs _ _ _ _ _ _ (unhide HW1) (zoo_22 (unhide HZ3))).mono ?_; rintro e w4 ⟨rfl, b1, hz4⟩; have HZ4 := hide (hz4.box #[.int .i64 0, .int .i64 p1] 31); clear hz4))
          all_goals (go_ret; first | exact ⟨rfl, below_of_kp (unhide HZ8).kp⟩ | exact ⟨rfl, below_of_kp (unhide HZ6).kp⟩ | exact ⟨rfl, below_of_kp (unhide HK1)⟩)
end
end Go.Proofs.YtldkeaeohceckadGreatDoor
