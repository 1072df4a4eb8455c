/- Plain words for logs: commits one behind the other, their bytes, what Put, Tear and Table make of them; no statement of the program yet. -/
import Derived.Test.YtfcfoabdangfhabQ0
import Derived.Test.YtfcfoabdangfhabT0
namespace Go.Proofs.Ytfcfoabdangfhab
open Go.RowKit
set_option maxRecDepth 20000

/-- The bytes of commits, one behind the other. -/
def lb : List (List Ver) → List UInt8
  | [] => []
  | c :: r => enc c ++ lb r
theorem lb_append (xs ys : List (List Ver)) : lb (xs ++ ys) = lb xs ++ lb ys := by
  induction xs with
  | nil => rfl
  | cons c r ih => simp only [List.cons_append, lb, ih, List.append_assoc]
theorem lb_snoc (xs : List (List Ver)) (c : List Ver) : lb (xs ++ [c]) = lb xs ++ enc c := by rw [lb_append]; simp [lb]

/-- What is so of a log's commits. -/
structure LInv (cs : List (List Ver)) : Prop where
  pf : ∀ c ∈ cs, pf (-1) c = 0
  n40 : cs.length ≤ 40
  b3000 : (lb cs).length ≤ 3000
theorem linv_nil : LInv [] := ⟨fun c hc => by simp at hc, by simp, by simp [lb]⟩

/-- What Put tells; what Tear leaves: the commits, the torn bytes. -/
def lcode (cs : List (List Ver)) (ps : List Ver) : Int := if pf (-1) ps = 0 then (if 40 ≤ cs.length ∨ 3000 < (lb cs).length + (enc ps).length then 9 else 0) else pf (-1) ps
def ltear (cs : List (List Ver)) (ps : List Ver) (keep : Int) : List (List Ver) := if lcode cs ps = 0 ∧ ((enc ps).length : Int) ≤ keep then cs ++ [ps] else cs
def ltorn (cs : List (List Ver)) (ps : List Ver) (keep : Int) : List UInt8 := if lcode cs ps = 0 ∧ ¬ ((enc ps).length : Int) ≤ keep then (enc ps).take keep.toNat else []
def lput (cs : List (List Ver)) (ps : List Ver) : List (List Ver) := if lcode cs ps = 0 then cs ++ [ps] else cs

theorem enc_le {ps : List Ver} (h : pf (-1) ps = 0) : 2 ≤ (enc ps).length ∧ (enc ps).length ≤ 114 := by
  have := pbs_len112 h
  rw [enc_length]; omega

theorem lcode_bad {cs : List (List Ver)} {ps : List Ver} (h : pf (-1) ps ≠ 0) : lcode cs ps = pf (-1) ps := by unfold lcode; rw [if_neg h]
theorem lcode_full {cs : List (List Ver)} {ps : List Ver} (h : pf (-1) ps = 0) (hf : 40 ≤ cs.length ∨ 3000 < (lb cs).length + (enc ps).length) : lcode cs ps = 9 := by unfold lcode; rw [if_pos h, if_pos hf]
theorem lcode_ok {cs : List (List Ver)} {ps : List Ver} (h : pf (-1) ps = 0) (hf : ¬ (40 ≤ cs.length ∨ 3000 < (lb cs).length + (enc ps).length)) : lcode cs ps = 0 := by unfold lcode; rw [if_pos h, if_neg hf]
theorem lcode_zero {cs : List (List Ver)} {ps : List Ver} (h : lcode cs ps = 0) : pf (-1) ps = 0 ∧ cs.length < 40 ∧ (lb cs).length + (enc ps).length ≤ 3000 := by
  unfold lcode at h
  split at h
  · split at h
    · simp at h
    · exact ⟨by assumption, by omega, by omega⟩
  · rename_i h1; exact absurd h h1

theorem ltear_code {cs : List (List Ver)} {ps : List Ver} (keep : Int) (h : lcode cs ps ≠ 0) : ltear cs ps keep = cs ∧ ltorn cs ps keep = [] := by
  unfold ltear ltorn
  rw [if_neg (fun q => h q.1), if_neg (fun q => h q.1)]
  exact ⟨rfl, rfl⟩
theorem ltear_all {cs : List (List Ver)} {ps : List Ver} {keep : Int} (h : lcode cs ps = 0) (hk : ((enc ps).length : Int) ≤ keep) : ltear cs ps keep = cs ++ [ps] ∧ ltorn cs ps keep = [] := by
  unfold ltear ltorn
  rw [if_pos ⟨h, hk⟩, if_neg (fun q => q.2 hk)]
  exact ⟨rfl, rfl⟩
theorem ltear_cut {cs : List (List Ver)} {ps : List Ver} {keep : Int} (h : lcode cs ps = 0) (hk : ¬ ((enc ps).length : Int) ≤ keep) : ltear cs ps keep = cs ∧ ltorn cs ps keep = (enc ps).take keep.toNat := by
  unfold ltear ltorn
  rw [if_neg (fun q => hk q.2), if_pos ⟨h, hk⟩]
  exact ⟨rfl, rfl⟩
theorem lput_is {cs : List (List Ver)} {ps : List Ver} : ltear cs ps 9223372036854775807 = lput cs ps ∧ ltorn cs ps 9223372036854775807 = [] := by
  by_cases h : lcode cs ps = 0
  · have := enc_le (lcode_zero h).1
    obtain ⟨h1, h2⟩ := ltear_all (keep := 9223372036854775807) h (by omega)
    exact ⟨by rw [h1]; unfold lput; rw [if_pos h], h2⟩
  · obtain ⟨h1, h2⟩ := ltear_code 9223372036854775807 h
    exact ⟨by rw [h1]; unfold lput; rw [if_neg h], h2⟩

theorem LInv.snoc {cs : List (List Ver)} {ps : List Ver} (h : LInv cs) (hc : lcode cs ps = 0) : LInv (cs ++ [ps]) := by
  obtain ⟨h1, h2, h3⟩ := lcode_zero hc
  refine ⟨fun c hm => ?_, by simp; omega, by rw [lb_snoc]; simp; omega⟩
  rcases List.mem_append.1 hm with e | e
  · exact h.pf c e
  · rw [List.mem_singleton.1 e]; exact h1
theorem LInv.tear {cs : List (List Ver)} {ps : List Ver} (h : LInv cs) (keep : Int) : LInv (ltear cs ps keep) := by
  unfold ltear
  split
  · rename_i q; exact h.snoc q.1
  · exact h
theorem LInv.put {cs : List (List Ver)} {ps : List Ver} (h : LInv cs) : LInv (lput cs ps) := by
  unfold lput
  split
  · rename_i q; exact h.snoc q
  · exact h
theorem LInv.at_ {cs : List (List Ver)} (h : LInv cs) {i : Nat} (hi : i < cs.length) : Ytfcfoabdangfhab.pf (-1) (cs.getD i []) = 0 := by
  simp only [List.getD_eq_getElem?_getD, List.getElem?_eq_getElem hi, Option.getD_some]
  exact h.pf _ (List.getElem_mem hi)
theorem ltorn_len {cs : List (List Ver)} {ps : List Ver} (keep : Int) : (ltorn cs ps keep).length ≤ 114 := by
  unfold ltorn
  split
  · rename_i q
    have := enc_le (lcode_zero q.1).1
    simp; omega
  · simp

theorem lb_take_succ {cs : List (List Ver)} {k : Nat} (h : k < cs.length) : lb (cs.take (k + 1)) = lb (cs.take k) ++ enc (cs.getD k []) := by
  rw [List.take_succ_eq_append_getElem h, lb_snoc]
  simp [List.getD_eq_getElem?_getD, List.getElem?_eq_getElem h]
theorem lb_take_le (cs : List (List Ver)) (k : Nat) : (lb (cs.take k)).length ≤ (lb cs).length := by
  have := congrArg (fun l => (lb l).length) (List.take_append_drop k cs)
  simp only [lb_append, List.length_append] at this
  omega

/-- The commits with which bytes begin, at most m. -/
def dcs : Nat → List UInt8 → List (List Ver)
  | 0, _ => []
  | m + 1, bs => if (dec bs).2.2 = 0 then (dec bs).1 :: dcs m (bs.drop (dec bs).2.1) else []

theorem dcs_nil (m : Nat) : dcs m [] = [] := by
  cases m with
  | zero => rfl
  | succ m => rfl

/-- Of the first bytes of commits: those that end in these. -/
theorem dcs_take {cs : List (List Ver)} (h : ∀ c ∈ cs, pf (-1) c = 0) : ∀ (m k : Nat), cs.length ≤ m →
    dcs m ((lb cs).take k) = cs.take (dcs m ((lb cs).take k)).length ∧ (dcs m ((lb cs).take k)).length ≤ cs.length ∧ (lb (dcs m ((lb cs).take k))).length ≤ k ∧
      ((dcs m ((lb cs).take k)).length < cs.length → k < (lb (dcs m ((lb cs).take k))).length + (enc (cs.getD (dcs m ((lb cs).take k)).length [])).length) := by
  induction cs with
  | nil =>
    intro m k _
    have e : dcs m ((lb []).take k) = [] := by simp [lb, dcs_nil]
    rw [e]
    simp [lb]
  | cons c r ih =>
    intro m k hm
    cases m with
    | zero => simp at hm
    | succ m =>
      have hc := h c (by simp)
      have ih := ih (fun x hx => h x (by simp [hx]))
      by_cases hk : k < (enc c).length
      · have e : (lb (c :: r)).take k = (enc c).take k := by
          simp only [lb]
          rw [List.take_append_of_le_length (by omega)]
        have e2 : dcs (m + 1) ((lb (c :: r)).take k) = [] := by
          rw [e]
          simp only [dcs]
          rw [dec_cut hc hk]
          simp
        rw [e2]
        simp [lb]
        omega
      · have e : (lb (c :: r)).take k = enc c ++ (lb r).take (k - (enc c).length) := by
          simp only [lb]
          rw [List.take_append, List.take_of_length_le (by omega)]
        have e2 : dcs (m + 1) ((lb (c :: r)).take k) = c :: dcs m ((lb r).take (k - (enc c).length)) := by
          rw [e]
          simp only [dcs]
          rw [dec_enc _ hc]
          simp
        obtain ⟨h1, h2, h3, h4⟩ := ih m (k - (enc c).length) (by simpa using hm)
        rw [e2]
        refine ⟨?_, by simpa using h2, by simp only [lb, List.length_append]; omega, fun hl => ?_⟩
        · simp only [List.length_cons, List.take_succ_cons]
          rw [← h1]
        · have := h4 (by simpa using hl)
          simp only [lb, List.length_append, List.length_cons, List.getD_cons_succ]
          omega

theorem dcs_pf : ∀ (m : Nat) (bs : List UInt8), (∀ c ∈ dcs m bs, pf (-1) c = 0) ∧ (dcs m bs).length ≤ m ∧ (lb (dcs m bs)).length ≤ bs.length := by
  intro m
  induction m with
  | zero => intro bs; simp [dcs, lb]
  | succ m ih =>
    intro bs
    simp only [dcs]
    split
    · rename_i h
      obtain ⟨h1, h2, h3, h4⟩ := dec_ok h
      obtain ⟨i1, i2, i3⟩ := ih (bs.drop (dec bs).2.1)
      refine ⟨fun c hc => ?_, by simp; omega, ?_⟩
      · rcases List.mem_cons.1 hc with e | e
        · rw [e]; exact h1
        · exact i1 c e
      · simp only [lb, List.length_append]
        simp only [List.length_drop] at i3
        omega
    · simp [lb]

/-- The versions of all keys behind commits. -/
def wal (f : Nat → List Ver) (n : Nat) : List (List Ver) → Nat → List Ver
  | [] => f
  | c :: r => wal (wst f n c) (n + 1) r
theorem wal_snoc (f : Nat → List Ver) (n : Nat) (xs : List (List Ver)) (c : List Ver) : wal f n (xs ++ [c]) = wst (wal f n xs) (n + xs.length) c := by
  induction xs generalizing f n with
  | nil => rfl
  | cons x r ih =>
    simp only [List.cons_append, wal, ih, List.length_cons]
    rw [show n + 1 + r.length = n + (r.length + 1) by omega]
def wal0 (xs : List (List Ver)) : Nat → List Ver := wal (fun _ => [dv]) 0 xs
theorem wal0_snoc (xs : List (List Ver)) (c : List Ver) : wal0 (xs ++ [c]) = wst (wal0 xs) xs.length c := by
  unfold wal0
  rw [wal_snoc, Nat.zero_add]
theorem wcode_ok {n : Nat} {c : List Ver} (h : pf (-1) c = 0) (hn : n < 40) : wcode n c = 0 ∧ wn n c = n + 1 := by
  have e : wcode n c = 0 := by unfold wcode; rw [if_pos h, if_neg (by omega)]
  exact ⟨e, by unfold wn; rw [if_pos e]⟩
theorem wcode_full {n : Nat} {c : List Ver} (h : pf (-1) c = 0) (hn : 40 ≤ n) : wcode n c = 9 := by unfold wcode; rw [if_pos h, if_pos hn]
end Go.Proofs.Ytfcfoabdangfhab
