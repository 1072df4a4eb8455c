/- The document's bytes of a commit, by their contract. -/
import Derived.Test.YtfcfoabdangfhabQ3
namespace Go.Proofs.Ytfcfoabdangfhab
open Go.RowKit
set_option maxRecDepth 20000
attribute [local go_sem ↓] Go.wp_at_zero Go.wp_at_succ

theorem at12 {w w2 : World} {ga o k : Nat} {ps : List Ver} {t : Bool} (hs : SlA w ga o ps) (hk : Kp [] w w2) (hlt : k < ps.length) (ht : vt ps k = t) :
    w2.cell? ⟨ga, o + k * 3 + 1, none⟩ = some (.bool t) ∧ w2.cell? ⟨ga, o + k * 3 + 1 + 1, none⟩ = some (.string (vb ps k)) := by
  have h := hs.kp hk (by simp)
  subst ht
  exact ⟨h.at1 k hlt, h.at2 k hlt⟩
theorem Row.src {w0 w : World} {g cap n : Nat} {bs : List UInt8} (h : Row w0 w g cap bs) (hn : n = bs.length) : Src Try.prog 1 23 (.slice (some ⟨g, 0, none⟩) n cap) bs.length (bcells bs) w := by
  subst hn
  exact h.byt.src cap

/-- '[]byte(s)': the new row's bytes. -/
theorem conv_byt (w : World) (s : ByteArray) (cap : Nat) (fr : Nat × Nat) : Byt (w.drew.alloc (.cells (bytesRow s cap) 5 fr)) (some ⟨w.heap.size, 0, none⟩) s.data.toList := fun _ => by
  refine ⟨w.heap.size, 0, rfl, fun j hj => ?_⟩
  have hj' : j < s.data.size := by simpa using hj
  have := World.cell?_alloc_mark w.drew (bytesRow s cap) 5 fr j
  rw [bytesRow_at s cap j hj'] at this
  rw [Nat.zero_add]
  have e : s.data[j]? = some s.data[j] := Array.getElem?_eq_getElem hj'
  simpa [ub, List.getD_eq_getElem?_getD, e] using this
theorem conv_src (w : World) (s : ByteArray) (n cap c : Nat) (fr : Nat × Nat) (hn : n = s.size) : Src Try.prog 1 23 (.slice (some ⟨w.heap.size, 0, none⟩) n c) s.data.toList.length (bcells s.data.toList) (w.drew.alloc (.cells (bytesRow s cap) 5 fr)) := by
  subst hn
  have := (conv_byt w s cap fr).src c
  rw [bytes_size] at this ⊢
  exact this

set_option maxHeartbeats 1000000 in
theorem bytesOf11 (a : Option Addr) (c : Nat) (ps : List Ver) (w : World) (h : Prs w a ps) (hp : pf (-1) ps = 0) :
    Calls Try.prog 15 #[.slice a ps.length c] w fun e w' => ApEnd w (enc ps) e w' := by
  have hcv := fun (W : World) (s : ByteArray) => run_bytes_of_string (P := Try.prog) W 9 23 5 s Try.underlying9 Try.underlying23 Try.underlying5
  have h8 := pf_len8 hp
  have h112 := pbs_len112 hp
  have HP := hide h
  have HS := hide (pf_str hp)
  have HPF := hide hp
  clear h hp
  go_enter Try.func15, Try.ntmps15
  go_wp2_with fail
  go_loopw [3, 4] (fun b i wr => ∃ k g cap n : Nat, k ≤ ps.length ∧ b = .slice (some ⟨g, 0, none⟩) n cap ∧ i = .int .i64 k ∧ Hid (EnI w [b8 ps.length] ps k g cap n wr)) (fun _ i _ => ps.length - (intOf i).toNat)
  case atStart => exact ⟨0, w.heap.size, 1, 1, by omega, rfl, rfl, enI_start w w (Kp.refl _ _) ps [b8 ps.length] _ (by simp [bcells, ← mod_b8]; omega) (by simp) _ _ rfl rfl⟩
  case round =>
    obtain ⟨k, g, cap, n, hk, rfl, rfl, HE⟩ := hrel
    by_cases hlt : k < ps.length
    · obtain ⟨ga, o, rfl, hs⟩ := (unhide HP).mem (by omega)
      have hs2 := hs.kp (unhide HE).row.kp (by simp)
      have q0 := hs2.at0 k hlt
      have hbl : (vb ps k).size ≤ 12 := unhide HS k hlt
      have htl : (pbs (ps.take k)).length ≤ 112 := by have := pbs_take_le ps k; omega
      have i0 : (0 : Int) ≤ (k : Int) := by omega
      have i1 : (k : Int) < (ps.length : Int) := by omega
      have HS1 := hide hs
      clear hs hs2
      cases ht : vt ps k with
      | false =>
        have HT := hide ht
        clear ht
        go_wp2_with (first | (at_builtin; refine wpList_app (by rfl) (.tmp 15) (.tmp 22) 23 rfl ((unhide HE).row.kp0 ((Kp.refl [] _).alloc _)) n (unhide HE).len (.slice (some ⟨wr.heap.size, 0, none⟩) 1 1) [b8 (va ps k)] rfl rfl (one_src _ rfl (b8 (va ps k)) _ (mod_b8 (va ps k))) (by simp; omega) ?_; intro g2 c2 n2 w2 hn2 hr2 hk2 hg2; obtain ⟨r1, r2⟩ := at12 (unhide HS1) (unhide hr2).kp hlt (unhide HT)) | (at_builtin; refine wpList_app (by rfl) (.tmp 50) (.tmp 51) 23 rfl ((unhide hr2).kp0 ((Kp.refl [] _).alloc _)) n2 (unhide hn2) (.slice (some ⟨w2.heap.size, 0, none⟩) 1 1) [255] rfl rfl (one_src _ rfl 255 _ rfl) (by simp; omega) ?_; intro g3 c3 n3 w3 hn3 hr3 hk3 hg3; clear r1 r2))
        refine ⟨⟨k + 1, g3, c3, n3, by omega, rfl, by go_num, EnI.next hlt ?_ ?_⟩, by simp [intOf]; omega⟩
        · rw [unhide hn3]; simp [pb, unhide HT]
        · have := unhide hr3; simpa [pb, unhide HT] using this
      | true =>
        have HT := hide ht
        clear ht
        go_wp2_with (first | (at_builtin; refine wpList_app (by rfl) (.tmp 15) (.tmp 22) 23 rfl ((unhide HE).row.kp0 ((Kp.refl [] _).alloc _)) n (unhide HE).len (.slice (some ⟨wr.heap.size, 0, none⟩) 1 1) [b8 (va ps k)] rfl rfl (one_src _ rfl (b8 (va ps k)) _ (mod_b8 (va ps k))) (by simp; omega) ?_; intro g2 c2 n2 w2 hn2 hr2 hk2 hg2; obtain ⟨r1, r2⟩ := at12 (unhide HS1) (unhide hr2).kp hlt (unhide HT)) | (at_builtin; refine wpList_app (by rfl) (.tmp 30) (.tmp 39) 23 rfl ((unhide hr2).kp0 ((Kp.refl [] _).alloc _)) n2 (unhide hn2) (.slice (some ⟨w2.heap.size, 0, none⟩) 1 1) [b8 (vb ps k).size] rfl rfl (one_src _ rfl (b8 (vb ps k).size) _ (by rw [← mod_b8]; omega)) (by simp; omega) ?_; intro g3 c3 n3 w3 hn3 hr3 hk3 hg3; clear r1 r2; obtain ⟨_, r3⟩ := at12 (unhide HS1) (unhide hr3).kp hlt (unhide HT)) | (at_builtin; refine wpList_app (by rfl) (.tmp 41) (.tmp 48) 23 rfl ((unhide hr3).kp0 ((Kp.refl [] _).drew.alloc _)) n3 (unhide hn3) (.slice (some ⟨w3.heap.size, 0, none⟩) (vb ps k).size _) (vb ps k).data.toList rfl rfl (conv_src w3 (vb ps k) _ _ _ _ rfl) (by simp; omega) ?_; intro g4 c4 n4 w4 hn4 hr4 hk4 hg4; clear r3))
        refine ⟨⟨k + 1, g4, c4, n4, by omega, rfl, by go_num, EnI.next hlt ?_ ?_⟩, by simp [intOf]; omega⟩
        · rw [unhide hn4]; simp [pb, unhide HT]
        · have := unhide hr4; simpa [pb, unhide HT] using this
    · have e : k = ps.length := by omega
      subst e
      have hl := (unhide HE).last
      have hn0 : n ≤ 200 := by rw [hl.1]; simp; omega
      have HLL := hide hl
      clear hl
      go_wp2_with (at_builtin; refine wpList_app (by rfl) (.tmp 57) (.tmp 58) 23 rfl (row_lit w wr (unhide HLL).2.kp [b8 ((n : Int) + 1)] _ (by simp [bcells, ← mod_b8]; try omega) (by simp)) 1 rfl (.slice (some ⟨g, 0, none⟩) n cap) ([b8 ps.length] ++ pbs ps) rfl rfl (((unhide HLL).2.kp0 ((Kp.refl [] _).alloc _)).src (unhide HLL).1) (by simp; omega) ?_; intro g5 c5 n5 w5 hn5 hr5 hk5 hg5)
      go_ret
      have en : b8 ((n : Int) + 1) = b8 ((pbs ps).length + 2 : Nat) := by
        rw [(unhide HLL).1]; congr 1
      refine apEnd_mk ?_ ?_
      · rw [unhide hn5]; simp [enc]
      · have := unhide hr5
        rw [en] at this
        exact this
end Go.Proofs.Ytfcfoabdangfhab
