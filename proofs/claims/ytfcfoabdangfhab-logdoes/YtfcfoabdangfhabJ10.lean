/- logs: a log and a roll, by steps, tell the same, step by step. -/
import Derived.Test.YtfcfoabdangfhabJ9
namespace Go.Proofs.Ytfcfoabdangfhab
open Go.RowKit
set_option maxRecDepth 20000
attribute [local go_sem ↓] Go.wp_at_zero Go.wp_at_succ

/-- What a step, and what the first steps, make of the commits. -/
def lstep (cs : List (List Ver)) (s : TStep) : List (List Ver) := if s.d = 0 then lput cs s.ps else if s.d = 1 then ltear cs s.ps s.l else cs
def lrun (st : Nat → TStep) : Nat → List (List Ver)
  | 0 => []
  | k + 1 => lstep (lrun st k) (st k)
theorem lrun_put {st : Nat → TStep} {k : Nat} {cs cs' : List (List Ver)} (h : lrun st k = cs) (hd : (st k).d = 0) (hc : lput cs (st k).ps = cs') : lrun st (k + 1) = cs' := by
  show lstep (lrun st k) (st k) = cs'
  unfold lstep
  rw [if_pos hd, h, hc]
theorem lrun_tear {st : Nat → TStep} {k : Nat} {cs cs' : List (List Ver)} (h : lrun st k = cs) (hd : (st k).d = 1) (hc : ltear cs (st k).ps (st k).l = cs') : lrun st (k + 1) = cs' := by
  show lstep (lrun st k) (st k) = cs'
  unfold lstep
  rw [if_neg (by omega), if_pos hd, h, hc]
theorem lrun_none {st : Nat → TStep} {k : Nat} {cs : List (List Ver)} (h : lrun st k = cs) (hd : ¬ (st k).d = 0) (hd1 : ¬ (st k).d = 1) : lrun st (k + 1) = cs := by
  show lstep (lrun st k) (st k) = cs
  unfold lstep
  rw [if_neg hd, if_neg hd1, h]

def LsEnd (st : Nat → TStep) (n1 : Nat) (w : World) (e : Ending) (w' : World) : Prop := ∃ gb rb cs, e = .returned (.tuple #[.pointer (some ⟨gb, 0, none⟩), .pointer (some ⟨rb, 0, none⟩), .bool true]) ∧ Hid (lrun st n1 = cs) ∧ Hid (Duo w w' gb rb cs [] cs [])

/-- The cells of a step that a region may read. -/
structure Stc (w : World) (b o k : Nat) (s : TStep) : Prop where
  c1 : w.cell? ⟨b, o + k * 3 + 1, none⟩ = some (.int .i64 s.l)
  c2 : w.cell? ⟨b, o + k * 3 + 1 + 1, none⟩ = some (.slice s.a s.ps.length s.c)
theorem StT.stc {w0 w : World} {b o n : Nat} {st : Nat → TStep} (h : StT w0 b o n st) (hk : Kp [] w0 w) {k : Nat} (hlt : k < n) : Stc w b o k (st k) := by
  obtain ⟨_, h1, h2, _⟩ := (h.kp0 hk) k hlt
  exact ⟨h1, h2⟩

section
variable {w0 wr : World} {gb rb lb' lo k n1 : Nat} {st : Nat → TStep} {cs : List (List Ver)}
theorem dputL (h : Duo w0 wr gb rb cs [] cs []) (hs : StT w0 lb' lo n1 st) (hk : k < n1) (hp : (st k).ps.length ≤ 50) {z : Int} (hz : lcode cs (st k).ps = z) {cs' : List (List Ver)} (hc : lput cs (st k).ps = cs') :
    Calls Try.prog 31 #[.pointer (some ⟨gb, 0, none⟩), .slice (st k).a (st k).ps.length (st k).c] wr fun e w' => e = .returned (.int .i64 z) ∧ w'.cell? ⟨lb', lo + k * 3 + 1 + 1, none⟩ = some (.slice (st k).a (st k).ps.length (st k).c) ∧ Hid (Duo w0 w' gb rb cs' [] cs []) := by
  refine (duo_put _ _ _ h (hs k hk).2.2.2 (by omega)).mono ?_
  rintro e w' ⟨rfl, hb⟩
  subst hz hc
  exact ⟨rfl, (hs.stc (unhide hb).kp hk).c2, hb⟩
theorem dputR {cs' : List (List Ver)} (h : Duo w0 wr gb rb cs' [] cs []) (hs : StT w0 lb' lo n1 st) (hk : k < n1) (hp : (st k).ps.length ≤ 50) {z : Int} (hz : lcode cs (st k).ps = z) (hc : lput cs (st k).ps = cs') :
    Calls Try.prog 42 #[.pointer (some ⟨rb, 0, none⟩), .slice (st k).a (st k).ps.length (st k).c] wr fun e w' => e = .returned (.int .i64 z) ∧ w'.cell? ⟨lb', lo + k * 3 + 1 + 1, none⟩ = some (.slice (st k).a (st k).ps.length (st k).c) ∧ Hid (Duo w0 w' gb rb cs' [] cs' []) := by
  refine (duo_rput _ _ _ h (hs k hk).2.2.2 (by omega)).mono ?_
  rintro e w' ⟨rfl, hb⟩
  subst hz hc
  exact ⟨rfl, (hs.stc (unhide hb).kp hk).c2, hb⟩

/-- What stands while a step that tears is done. -/
structure Tri (w0 w : World) (lb' lo k : Nat) (s : TStep) : Prop where
  stc : Stc w lb' lo k s
theorem dtearL (h : Duo w0 wr gb rb cs [] cs []) (hs : StT w0 lb' lo n1 st) (hk : k < n1) (hp : (st k).ps.length ≤ 50) {z : Int} (hz : lcode cs (st k).ps = z) {cs' : List (List Ver)} (hc : ltear cs (st k).ps (st k).l = cs') {t : List UInt8} (ht : ltorn cs (st k).ps (st k).l = t) :
    Calls Try.prog 30 #[.pointer (some ⟨gb, 0, none⟩), .slice (st k).a (st k).ps.length (st k).c, .int .i64 (st k).l] wr fun e w' => e = .returned (.int .i64 z) ∧ (w'.cell? ⟨lb', lo + k * 3 + 1, none⟩ = some (.int .i64 (st k).l) ∧ w'.cell? ⟨lb', lo + k * 3 + 1 + 1, none⟩ = some (.slice (st k).a (st k).ps.length (st k).c)) ∧ Hid (Duo w0 w' gb rb cs' t cs []) := by
  refine (duo_tear _ _ _ _ h (hs k hk).2.2.2 (by omega)).mono ?_
  rintro e w' ⟨rfl, hb⟩
  subst hz hc ht
  exact ⟨rfl, ⟨(hs.stc (unhide hb).kp hk).c1, (hs.stc (unhide hb).kp hk).c2⟩, hb⟩
theorem dtearR {cs' : List (List Ver)} {t : List UInt8} (h : Duo w0 wr gb rb cs' t cs []) (hs : StT w0 lb' lo n1 st) (hk : k < n1) (hp : (st k).ps.length ≤ 50) {z : Int} (hz : lcode cs (st k).ps = z) (hc : ltear cs (st k).ps (st k).l = cs') (ht : ltorn cs (st k).ps (st k).l = t) :
    Calls Try.prog 43 #[.pointer (some ⟨rb, 0, none⟩), .slice (st k).a (st k).ps.length (st k).c, .int .i64 (st k).l] wr fun e w' => ∃ aL capL, e = .returned (.int .i64 z) ∧ (w'.cell? ⟨lb', lo + k * 3 + 1, none⟩ = some (.int .i64 (st k).l) ∧ w'.cell? ⟨lb', lo + k * 3 + 1 + 1, none⟩ = some (.slice (st k).a (st k).ps.length (st k).c)) ∧ w'.cell? ⟨rb, 0, none⟩ = some (.slice aL cs'.length capL) ∧ Hid (Duo w0 w' gb rb cs' t cs' t) := by
  refine (duo_rtear _ _ _ _ h (hs k hk).2.2.2 (by omega)).mono ?_
  rintro e w' ⟨rfl, hb⟩
  subst hz hc ht
  obtain ⟨aL, capL, hcell, _⟩ := (unhide hb).cell
  exact ⟨aL, capL, rfl, ⟨(hs.stc (unhide hb).kp hk).c1, (hs.stc (unhide hb).kp hk).c2⟩, hcell, hb⟩
theorem dbytL {cs' : List (List Ver)} {t : List UInt8} {aL : Option Addr} {capL C : Nat} (h : Duo w0 wr gb rb cs' t cs' t) (hs : StT w0 lb' lo n1 st) (hk : k < n1) (hcell : wr.cell? ⟨rb, 0, none⟩ = some (.slice aL C capL)) {bs : List UInt8} (hbs : lb cs' ++ t = bs) :
    Calls Try.prog 23 #[.pointer (some ⟨gb, 0, none⟩)] wr fun e w' => ∃ a n c, e = .returned (.slice a n c) ∧ (w'.cell? ⟨lb', lo + k * 3 + 1, none⟩ = some (.int .i64 (st k).l) ∧ w'.cell? ⟨lb', lo + k * 3 + 1 + 1, none⟩ = some (.slice (st k).a (st k).ps.length (st k).c)) ∧ w'.cell? ⟨rb, 0, none⟩ = some (.slice aL C capL) ∧
      (convert 23 9 (.slice a n c)).run Try.prog w' = .ok (.string ⟨bs.toArray⟩) w' ∧ Hid (Duo w0 w' gb rb cs' t cs' t) ∧ Hid (Byt w' a bs ∧ n = bs.length) := by
  refine (duo_bytes h).mono ?_
  rintro e w' ⟨a, n, c, rfl, hn, hc, hb, hkp⟩
  subst hbs
  have hd := h.kp0 hkp
  exact ⟨a, n, c, rfl, ⟨(hs.stc hd.kp hk).c1, (hs.stc hd.kp hk).c2⟩, hkp.cell (by simp) hcell, str_of hb n c hn w' (Kp.refl _ _), hd, hb, hn⟩
theorem dbytR {cs' : List (List Ver)} {t : List UInt8} {aL : Option Addr} {capL C : Nat} (h : Duo w0 wr gb rb cs' t cs' t) (hs : StT w0 lb' lo n1 st) (hk : k < n1) (hcell : wr.cell? ⟨rb, 0, none⟩ = some (.slice aL C capL)) {bs : List UInt8} (hbs : lb cs' ++ t = bs) {a1 : Option Addr} {m1 : Nat} (c1 : Nat) (hb1 : Byt wr a1 bs ∧ m1 = bs.length) :
    Calls Try.prog 24 #[.pointer (some ⟨rb, 0, none⟩)] wr fun e w' => ∃ a n c, e = .returned (.slice a n c) ∧ (w'.cell? ⟨lb', lo + k * 3 + 1, none⟩ = some (.int .i64 (st k).l) ∧ w'.cell? ⟨lb', lo + k * 3 + 1 + 1, none⟩ = some (.slice (st k).a (st k).ps.length (st k).c)) ∧ w'.cell? ⟨rb, 0, none⟩ = some (.slice aL C capL) ∧
      (convert 23 9 (.slice a n c)).run Try.prog w' = .ok (.string ⟨bs.toArray⟩) w' ∧ (convert 23 9 (.slice a1 m1 c1)).run Try.prog w' = .ok (.string ⟨bs.toArray⟩) w' ∧ Hid (Duo w0 w' gb rb cs' t cs' t) := by
  refine (duo_rbytes h).mono ?_
  rintro e w' ⟨a, n, c, rfl, hn, hc, hb, hkp⟩
  subst hbs
  have hd := h.kp0 hkp
  exact ⟨a, n, c, rfl, ⟨(hs.stc hd.kp hk).c1, (hs.stc hd.kp hk).c2⟩, hkp.cell (by simp) hcell, str_of hb n c hn w' (Kp.refl _ _), str_of (hb1.1.kp0 hkp) m1 c1 hb1.2 w' (Kp.refl _ _), hd⟩
end

/-- A stronger condition serves. -/
theorem wpAnyH_switch {P : Program} {md : Region.Mode} {ops : Array Oper} {Q : Exit → Act → World → Prop} {S S' : World → Prop} (hS : ∀ w, S' w → S w) : ∀ {fuel : Nat} {listed : Array Bool} {a : Act} {w : World}, wpAnyH P md ops Q S' fuel listed a w → wpAnyH P md ops Q S fuel listed a w
  | 0, _, _, _, h => h
  | _ + 1, _, _, _, h => ⟨h.1, fun i hi => wpOp_mono (fun _ _ h' => ⟨hS _ h'.1, wpAnyH_switch hS h'.2⟩) (h.2 i hi)⟩

theorem drop_at {l rest : List Oper} {i : Nat} {o : Oper} (h : l.drop i = o :: rest) : l.toArray[i]? = some o := by
  have := congrArg List.head? h
  rw [List.head?_drop] at this
  simpa using this
theorem wpAnyH_tk {P : Program} {md : Region.Mode} {l rest : List Oper} {Q : Exit → Act → World → Prop} {S : World → Prop} {i : Nat} {oi : Oper} {v : Value} {fuel : Nat} {listed : Array Bool} {a : Act} {w : World} (hi : l.drop i = oi :: rest)
    (hs : Region.noSelect l.toArray = true) (hf : Region.free md l.toArray listed i = true) (hr : (Region.ready md l.toArray listed).contains i = true)
    (hQ : ∀ c a w, Q (.panic c) (a.put oi.dst v) w → Q (.panic c) a w) (hy : YieldsIf P l.toArray S oi v a) (hS : S w)
    (h : wpAnyH P md l.toArray Q S fuel (listed.setIfInBounds i true) (a.put oi.dst v) w) : wpAnyH P md l.toArray Q S (fuel + 1) listed a w := wpAnyH_take (drop_at hi) hs hf hr hQ hy hS h
theorem wpAnyH_only {P : Program} {md : Region.Mode} {l rest : List Oper} {Q : Exit → Act → World → Prop} {S : World → Prop} {i : Nat} {o : Oper} {fuel : Nat} {listed : Array Bool} {a : Act} {w : World} (hi : l.drop i = o :: rest) (hr : Region.ready md l.toArray listed = [i])
    (h : ∀ K' : Act → World → Prop, Shut (∀ a w, S w → (S w → wpAnyH P md l.toArray Q S fuel (listed.setIfInBounds i true) a w) → K' a w) → if Region.wanted o (yielded l.toArray a.tmps) = true then Oper.wp P o a w K' Q else K' (a.put o.dst undef) w) :
    wpAnyH P md l.toArray Q S (fuel + 1) listed a w := wpAnyH_ready hr (by simp) (AllReadyH.cons (drop_at hi) h AllReadyH.nil)

set_option maxHeartbeats 8000000 in
theorem logs21 (a : Option Addr) (n1 c : Nat) (st : Nat → TStep) (w : World) (h : TSts w a n1 st) (hn : n1 ≤ 80) (hps : ∀ i, i < n1 → (st i).ps.length ≤ 50) :
    Calls Try.prog 21 #[.slice a n1 c] w fun e w' => LsEnd st n1 w e w' := by
  have HS := hide h
  have HPS := hide hps
  clear h hps
  go_enter Try.func21, Try.ntmps21
  go_wp2_with fail
  refine (lnew w).mono ?_
  rintro e w1 ⟨rfl, ht, hk⟩
  have HB := hide (duo_start ht hk (rl_new w1) ((Kp.refl [] w1).alloc _))
  clear ht hk
  go_wp2_with fail
  generalize htb : w.heap.size = gb at *
  clear htb
  generalize hW : w1.alloc (.cells #[.slice none 0 0, .slice none 0 0] 50) = W at *
  clear hW
  generalize w1.heap.size = rb at *
  go_loopw [7, 8] (fun ok i wr => ∃ (k : Nat) (cs : List (List Ver)), k ≤ n1 ∧ ok = .bool true ∧ i = .int .i64 k ∧ Hid (lrun st k = cs) ∧ Hid (Duo w wr gb rb cs [] cs [])) (fun _ i _ => n1 - (intOf i).toNat)
  case atStart => exact ⟨0, _, Nat.zero_le _, rfl, rfl, rfl, HB⟩
  case round =>
    obtain ⟨k, cs, hk, rfl, rfl, HRUN, HB⟩ := hrel
    by_cases hlt : k < n1
    · obtain ⟨lb', lo, rfl, hst⟩ := (unhide HS).2 (by omega)
      have hi0 : (0 : Int) ≤ (k : Int) := by omega
      have hi1 : (k : Int) < (n1 : Int) := by omega
      obtain ⟨q0, _, _, _⟩ := (hst.kp0 (unhide HB).kp) k hlt
      obtain ⟨q1, q2⟩ := hst.stc (unhide HB).kp hlt
      have HST := hide hst
      have hp50 := (unhide HPS) k hlt
      clear hst
      by_cases hd : (st k).d = 0
      · have HD0 := hide hd
        rw [hd] at q0
        clear hd
        obtain ⟨z, hz⟩ : ∃ z, lcode cs (st k).ps = z := ⟨_, rfl⟩
        obtain ⟨cs', hc'⟩ : ∃ cs', lput cs (st k).ps = cs' := ⟨_, rfl⟩
        have HZ := hide hz
        have HC := hide hc'
        clear hz hc'
        go_wp2_with fail
        go_region_held3 (fun w' => w'.cell? ⟨lb', lo + k * 3 + 1 + 1, none⟩ = some (.slice (st k).a (st k).ps.length (st k).c)) (first | go_keep | exact z1 | exact y1)
          ((first | (go_at_call 31; refine (dputL ((unhide HB).kp0 (Kp.refl [] _).drew) (unhide HST) hlt hp50 (unhide HZ) (unhide HC)).mono ?_; rintro e w4 ⟨rfl, y1, HM⟩) | (go_at_call 42; refine (dputR (unhide HM) (unhide HST) hlt hp50 (unhide HZ) (unhide HC)).mono ?_; rintro e w5 ⟨rfl, z1, HR2⟩)))
        go_wp2_with fail
        exact ⟨⟨k + 1, _, by omega, by simp, by go_num, lrun_put (unhide HRUN) (unhide HD0) (unhide HC), HR2⟩, by simp [intOf]; omega⟩
      · by_cases hd1 : (st k).d = 1
        · have HD1 := hide hd1
          rw [hd1] at q0
          clear hd hd1
          obtain ⟨z, hz⟩ : ∃ z, lcode cs (st k).ps = z := ⟨_, rfl⟩
          obtain ⟨cs', hc'⟩ : ∃ cs', ltear cs (st k).ps (st k).l = cs' := ⟨_, rfl⟩
          obtain ⟨t, ht'⟩ : ∃ t, ltorn cs (st k).ps (st k).l = t := ⟨_, rfl⟩
          obtain ⟨bs, hbs⟩ : ∃ bs, lb cs' ++ t = bs := ⟨_, rfl⟩
          have HZ := hide hz
          have HC := hide hc'
          have HT := hide ht'
          have HBS := hide hbs
          clear hz hc' ht' hbs
          go_wp2_with fail
          refine wp_region_held_drew (S := fun w' => w'.cell? ⟨lb', lo + k * 3 + 1, none⟩ = some (.int .i64 (st k).l) ∧ w'.cell? ⟨lb', lo + k * 3 + 1 + 1, none⟩ = some (.slice (st k).a (st k).ps.length (st k).c)) (by kernel_rfl) ⟨q1, q2⟩ (fun hHeld => ?_)
          refine wpAnyH_tk (i := 0) (v := ?_) rfl (by kernel_rfl) (by kernel_rfl) (by kernel_rfl) (fun _ _ _ h => h) (Or.inl ⟨by rfl, ?_⟩) hHeld ?_
          rotate_left
          · intro w hSw
            try dsimp only at hSw
            go_simp
            try with_reducible rfl
          try simp only [Act.put, List.setIfInBounds_toArray, List.set_cons_zero, List.set_cons_succ]
          refine wpAnyH_tk (i := 1) (v := ?_) rfl (by kernel_rfl) (by kernel_rfl) (by kernel_rfl) (fun _ _ _ h => h) (Or.inl ⟨by rfl, ?_⟩) hHeld ?_
          rotate_left
          · intro w hSw
            try dsimp only at hSw
            go_simp
            try with_reducible rfl
          try simp only [Act.put, List.setIfInBounds_toArray, List.set_cons_zero, List.set_cons_succ]
          refine wpAnyH_tk (i := 2) (v := ?_) rfl (by kernel_rfl) (by kernel_rfl) (by kernel_rfl) (fun _ _ _ h => h) (Or.inl ⟨by rfl, ?_⟩) hHeld ?_
          rotate_left
          · intro w hSw
            try dsimp only at hSw
            go_simp
            try with_reducible rfl
          try simp only [Act.put, List.setIfInBounds_toArray, List.set_cons_zero, List.set_cons_succ]
          refine wpAnyH_tk (i := 3) (v := ?_) rfl (by kernel_rfl) (by kernel_rfl) (by kernel_rfl) (fun _ _ _ h => h) (Or.inl ⟨by rfl, ?_⟩) hHeld ?_
          rotate_left
          · intro w hSw
            try dsimp only at hSw
            go_simp
            try with_reducible rfl
          try simp only [Act.put, List.setIfInBounds_toArray, List.set_cons_zero, List.set_cons_succ]
          refine wpAnyH_tk (i := 4) (v := ?_) rfl (by kernel_rfl) (by kernel_rfl) (by kernel_rfl) (fun _ _ _ h => h) (Or.inl ⟨by rfl, ?_⟩) hHeld ?_
          rotate_left
          · intro w hSw
            try dsimp only at hSw
            go_simp
            try with_reducible rfl
          try simp only [Act.put, List.setIfInBounds_toArray, List.set_cons_zero, List.set_cons_succ]
          refine wpAnyH_tk (i := 5) (v := ?_) rfl (by kernel_rfl) (by kernel_rfl) (by kernel_rfl) (fun _ _ _ h => h) (Or.inl ⟨by rfl, ?_⟩) hHeld ?_
          rotate_left
          · intro w hSw
            try dsimp only at hSw
            go_simp
            try with_reducible rfl
          try simp only [Act.put, List.setIfInBounds_toArray, List.set_cons_zero, List.set_cons_succ]
          refine wpAnyH_tk (i := 6) (v := ?_) rfl (by kernel_rfl) (by kernel_rfl) (by kernel_rfl) (fun _ _ _ h => h) (Or.inl ⟨by rfl, ?_⟩) hHeld ?_
          rotate_left
          · intro w hSw
            try dsimp only at hSw
            go_simp
            try with_reducible rfl
          try simp only [Act.put, List.setIfInBounds_toArray, List.set_cons_zero, List.set_cons_succ]
          refine wpAnyH_tk (i := 7) (v := ?_) rfl (by kernel_rfl) (by kernel_rfl) (by kernel_rfl) (fun _ _ _ h => h) (Or.inl ⟨by rfl, ?_⟩) hHeld ?_
          rotate_left
          · intro w hSw
            try dsimp only at hSw
            go_simp
            try with_reducible rfl
          try simp only [Act.put, List.setIfInBounds_toArray, List.set_cons_zero, List.set_cons_succ]
          refine wpAnyH_tk (i := 8) (v := ?_) rfl (by kernel_rfl) (by kernel_rfl) (by kernel_rfl) (fun _ _ _ h => h) (Or.inl ⟨by rfl, ?_⟩) hHeld ?_
          rotate_left
          · intro w hSw
            try dsimp only at hSw
            go_simp
            try with_reducible rfl
          try simp only [Act.put, List.setIfInBounds_toArray, List.set_cons_zero, List.set_cons_succ]
          refine wpAnyH_tk (i := 9) (v := ?_) rfl (by kernel_rfl) (by kernel_rfl) (by kernel_rfl) (fun _ _ _ h => h) (Or.inl ⟨by rfl, ?_⟩) hHeld ?_
          rotate_left
          · intro w hSw
            try dsimp only at hSw
            go_simp
            try with_reducible rfl
          try simp only [Act.put, List.setIfInBounds_toArray, List.set_cons_zero, List.set_cons_succ]
          refine wpAnyH_tk (i := 10) (v := ?_) rfl (by kernel_rfl) (by kernel_rfl) (by kernel_rfl) (fun _ _ _ h => h) (Or.inl ⟨by rfl, ?_⟩) hHeld ?_
          rotate_left
          · intro w hSw
            try dsimp only at hSw
            go_simp
            try with_reducible rfl
          try simp only [Act.put, List.setIfInBounds_toArray, List.set_cons_zero, List.set_cons_succ]
          refine wpAnyH_tk (i := 12) (v := ?_) rfl (by kernel_rfl) (by kernel_rfl) (by kernel_rfl) (fun _ _ _ h => h) (Or.inl ⟨by rfl, ?_⟩) hHeld ?_
          rotate_left
          · intro w hSw
            try dsimp only at hSw
            go_simp
            try with_reducible rfl
          try simp only [Act.put, List.setIfInBounds_toArray, List.set_cons_zero, List.set_cons_succ]
          refine wpAnyH_tk (i := 13) (v := ?_) rfl (by kernel_rfl) (by kernel_rfl) (by kernel_rfl) (fun _ _ _ h => h) (Or.inl ⟨by rfl, ?_⟩) hHeld ?_
          rotate_left
          · intro w hSw
            try dsimp only at hSw
            go_simp
            try with_reducible rfl
          try simp only [Act.put, List.setIfInBounds_toArray, List.set_cons_zero, List.set_cons_succ]
          refine wpAnyH_tk (i := 14) (v := ?_) rfl (by kernel_rfl) (by kernel_rfl) (by kernel_rfl) (fun _ _ _ h => h) (Or.inl ⟨by rfl, ?_⟩) hHeld ?_
          rotate_left
          · intro w hSw
            try dsimp only at hSw
            go_simp
            try with_reducible rfl
          try simp only [Act.put, List.setIfInBounds_toArray, List.set_cons_zero, List.set_cons_succ]
          refine wpAnyH_tk (i := 15) (v := ?_) rfl (by kernel_rfl) (by kernel_rfl) (by kernel_rfl) (fun _ _ _ h => h) (Or.inl ⟨by rfl, ?_⟩) hHeld ?_
          rotate_left
          · intro w hSw
            try dsimp only at hSw
            go_simp
            try with_reducible rfl
          try simp only [Act.put, List.setIfInBounds_toArray, List.set_cons_zero, List.set_cons_succ]
          refine wpAnyH_tk (i := 16) (v := ?_) rfl (by kernel_rfl) (by kernel_rfl) (by kernel_rfl) (fun _ _ _ h => h) (Or.inl ⟨by rfl, ?_⟩) hHeld ?_
          rotate_left
          · intro w hSw
            try dsimp only at hSw
            go_simp
            try with_reducible rfl
          try simp only [Act.put, List.setIfInBounds_toArray, List.set_cons_zero, List.set_cons_succ]
          refine wpAnyH_tk (i := 17) (v := ?_) rfl (by kernel_rfl) (by kernel_rfl) (by kernel_rfl) (fun _ _ _ h => h) (Or.inl ⟨by rfl, ?_⟩) hHeld ?_
          rotate_left
          · intro w hSw
            try dsimp only at hSw
            go_simp
            try with_reducible rfl
          try simp only [Act.put, List.setIfInBounds_toArray, List.set_cons_zero, List.set_cons_succ]
          refine wpAnyH_tk (i := 18) (v := ?_) rfl (by kernel_rfl) (by kernel_rfl) (by kernel_rfl) (fun _ _ _ h => h) (Or.inl ⟨by rfl, ?_⟩) hHeld ?_
          rotate_left
          · intro w hSw
            try dsimp only at hSw
            go_simp
            try with_reducible rfl
          try simp only [Act.put, List.setIfInBounds_toArray, List.set_cons_zero, List.set_cons_succ]
          refine wpAnyH_tk (i := 19) (v := ?_) rfl (by kernel_rfl) (by kernel_rfl) (by kernel_rfl) (fun _ _ _ h => h) (Or.inl ⟨by rfl, ?_⟩) hHeld ?_
          rotate_left
          · intro w hSw
            try dsimp only at hSw
            go_simp
            try with_reducible rfl
          try simp only [Act.put, List.setIfInBounds_toArray, List.set_cons_zero, List.set_cons_succ]
          refine wpAnyH_tk (i := 20) (v := ?_) rfl (by kernel_rfl) (by kernel_rfl) (by kernel_rfl) (fun _ _ _ h => h) (Or.inl ⟨by rfl, ?_⟩) hHeld ?_
          rotate_left
          · intro w hSw
            try dsimp only at hSw
            go_simp
            try with_reducible rfl
          try simp only [Act.put, List.setIfInBounds_toArray, List.set_cons_zero, List.set_cons_succ]
          refine wpAnyH_tk (i := 21) (v := ?_) rfl (by kernel_rfl) (by kernel_rfl) (by kernel_rfl) (fun _ _ _ h => h) (Or.inl ⟨by rfl, ?_⟩) hHeld ?_
          rotate_left
          · intro w hSw
            try dsimp only at hSw
            go_simp
            try with_reducible rfl
          try simp only [Act.put, List.setIfInBounds_toArray, List.set_cons_zero, List.set_cons_succ]
          refine wpAnyH_tk (i := 22) (v := ?_) rfl (by kernel_rfl) (by kernel_rfl) (by kernel_rfl) (fun _ _ _ h => h) (Or.inl ⟨by rfl, ?_⟩) hHeld ?_
          rotate_left
          · intro w hSw
            try dsimp only at hSw
            go_simp
            try with_reducible rfl
          try simp only [Act.put, List.setIfInBounds_toArray, List.set_cons_zero, List.set_cons_succ]
          refine wpAnyH_only (i := 11) rfl (by kernel_rfl) (fun K hK => ?_)
          go_simp
          refine (dtearL ((unhide HB).kp0 (Kp.refl [] _).drew) (unhide HST) hlt hp50 (unhide HZ) (unhide HC) (unhide HT)).mono ?_
          rintro e w4 ⟨rfl, y1, HM⟩
          go_wp2_with fail
          refine hK.out _ _ (y1) (fun hHeld2 => ?_)
          clear hK K hHeld
          have hHeld := hHeld2
          clear hHeld2
          try simp only [Act.put, List.setIfInBounds_toArray, List.set_cons_zero, List.set_cons_succ]
          refine wpAnyH_only (i := 23) rfl (by kernel_rfl) (fun K hK => ?_)
          go_simp
          refine (dtearR (unhide HM) (unhide HST) hlt hp50 (unhide HZ) (unhide HC) (unhide HT)).mono ?_
          rintro e w5 ⟨aL, capL, rfl, z1, z2, HR2⟩
          go_wp2_with fail
          refine hK.out _ _ (z1) (fun hHeld2 => ?_)
          clear hK K hHeld
          have hHeld := hHeld2
          clear hHeld2
          try simp only [Act.put, List.setIfInBounds_toArray, List.set_cons_zero, List.set_cons_succ]
          refine wpAnyH_tk (i := 24) (v := ?_) rfl (by kernel_rfl) (by kernel_rfl) (by kernel_rfl) (fun _ _ _ h => h) (Or.inl ⟨by rfl, ?_⟩) hHeld ?_
          rotate_left
          · intro w hSw
            try dsimp only at hSw
            go_simp
            try with_reducible rfl
          try simp only [Act.put, List.setIfInBounds_toArray, List.set_cons_zero, List.set_cons_succ]
          refine wpAnyH_tk (i := 25) (v := ?_) rfl (by kernel_rfl) (by kernel_rfl) (by kernel_rfl) (fun _ _ _ h => h) (Or.inl ⟨by rfl, ?_⟩) hHeld ?_
          rotate_left
          · intro w hSw
            try dsimp only at hSw
            go_simp
            try with_reducible rfl
          try simp only [Act.put, List.setIfInBounds_toArray, List.set_cons_zero, List.set_cons_succ]
          refine wpAnyH_tk (i := 26) (v := ?_) rfl (by kernel_rfl) (by kernel_rfl) (by kernel_rfl) (fun _ _ _ h => h) (Or.inl ⟨by rfl, ?_⟩) hHeld ?_
          rotate_left
          · intro w hSw
            try dsimp only at hSw
            go_simp
            try with_reducible rfl
          try simp only [Act.put, List.setIfInBounds_toArray, List.set_cons_zero, List.set_cons_succ]
          refine wpAnyH_tk (i := 28) (v := ?_) rfl (by kernel_rfl) (by kernel_rfl) (by kernel_rfl) (fun _ _ _ h => h) (Or.inl ⟨by rfl, ?_⟩) hHeld ?_
          rotate_left
          · intro w hSw
            try dsimp only at hSw
            go_simp
            try with_reducible rfl
          try simp only [Act.put, List.setIfInBounds_toArray, List.set_cons_zero, List.set_cons_succ]
          refine wpAnyH_tk (i := 29) (v := ?_) rfl (by kernel_rfl) (by kernel_rfl) (by kernel_rfl) (fun _ _ _ h => h) (Or.inl ⟨by rfl, ?_⟩) hHeld ?_
          rotate_left
          · intro w hSw
            try dsimp only at hSw
            go_simp
            try with_reducible rfl
          try simp only [Act.put, List.setIfInBounds_toArray, List.set_cons_zero, List.set_cons_succ]
          refine wpAnyH_tk (i := 30) (v := ?_) rfl (by kernel_rfl) (by kernel_rfl) (by kernel_rfl) (fun _ _ _ h => h) (Or.inl ⟨by rfl, ?_⟩) hHeld ?_
          rotate_left
          · intro w hSw
            try dsimp only at hSw
            go_simp
            try with_reducible rfl
          try simp only [Act.put, List.setIfInBounds_toArray, List.set_cons_zero, List.set_cons_succ]
          refine wpAnyH_switch (S' := fun w' => w'.cell? ⟨rb, 0, none⟩ = some (.slice aL cs'.length capL) ∧ w'.cell? ⟨lb', lo + k * 3 + 1, none⟩ = some (.int .i64 (st k).l) ∧ w'.cell? ⟨lb', lo + k * 3 + 1 + 1, none⟩ = some (.slice (st k).a (st k).ps.length (st k).c)) (fun _ h => h.2) ?_
          clear hHeld
          have hHeld := And.intro z2 z1
          refine wpAnyH_tk (i := 31) (v := ?_) rfl (by kernel_rfl) (by kernel_rfl) (by kernel_rfl) (fun _ _ _ h => h) (Or.inl ⟨by rfl, ?_⟩) hHeld ?_
          rotate_left
          · intro w hSw
            try dsimp only at hSw
            go_simp
            try with_reducible rfl
          try simp only [Act.put, List.setIfInBounds_toArray, List.set_cons_zero, List.set_cons_succ]
          refine wpAnyH_tk (i := 32) (v := ?_) rfl (by kernel_rfl) (by kernel_rfl) (by kernel_rfl) (fun _ _ _ h => h) (Or.inl ⟨by rfl, ?_⟩) hHeld ?_
          rotate_left
          · intro w hSw
            try dsimp only at hSw
            go_simp
            try with_reducible rfl
          try simp only [Act.put, List.setIfInBounds_toArray, List.set_cons_zero, List.set_cons_succ]
          refine wpAnyH_only (i := 27) rfl (by kernel_rfl) (fun K hK => ?_)
          go_simp
          refine (duo_len (unhide HR2)).mono ?_
          rintro e w6 ⟨rfl, rfl⟩
          go_wp2_with fail
          refine hK.out _ _ (⟨z2, z1⟩) (fun hHeld2 => ?_)
          clear hK K hHeld
          have hHeld := hHeld2
          clear hHeld2
          try simp only [Act.put, List.setIfInBounds_toArray, List.set_cons_zero, List.set_cons_succ]
          refine wpAnyH_tk (i := 33) (v := ?_) rfl (by kernel_rfl) (by kernel_rfl) (by kernel_rfl) (fun _ _ _ h => h) (Or.inl ⟨by rfl, ?_⟩) hHeld ?_
          rotate_left
          · intro w hSw
            try dsimp only at hSw
            go_simp
            try with_reducible rfl
          try simp only [Act.put, List.setIfInBounds_toArray, List.set_cons_zero, List.set_cons_succ]
          refine wpAnyH_tk (i := 34) (v := ?_) rfl (by kernel_rfl) (by kernel_rfl) (by kernel_rfl) (fun _ _ _ h => h) (Or.inl ⟨by rfl, ?_⟩) hHeld ?_
          rotate_left
          · intro w hSw
            try dsimp only at hSw
            go_simp
            try with_reducible rfl
          try simp only [Act.put, List.setIfInBounds_toArray, List.set_cons_zero, List.set_cons_succ]
          refine wpAnyH_tk (i := 35) (v := ?_) rfl (by kernel_rfl) (by kernel_rfl) (by kernel_rfl) (fun _ _ _ h => h) (Or.inl ⟨by rfl, ?_⟩) hHeld ?_
          rotate_left
          · intro w hSw
            try dsimp only at hSw
            go_simp
            try with_reducible rfl
          try simp only [Act.put, List.setIfInBounds_toArray, List.set_cons_zero, List.set_cons_succ]
          refine wpAnyH_tk (i := 36) (v := ?_) rfl (by kernel_rfl) (by kernel_rfl) (by kernel_rfl) (fun _ _ _ h => h) (Or.inl ⟨by rfl, ?_⟩) hHeld ?_
          rotate_left
          · intro w hSw
            try dsimp only at hSw
            go_simp
            try with_reducible rfl
          try simp only [Act.put, List.setIfInBounds_toArray, List.set_cons_zero, List.set_cons_succ]
          refine wpAnyH_tk (i := 39) (v := ?_) rfl (by kernel_rfl) (by kernel_rfl) (by kernel_rfl) (fun _ _ _ h => h) (Or.inl ⟨by rfl, ?_⟩) hHeld ?_
          rotate_left
          · intro w hSw
            try dsimp only at hSw
            go_simp
            try with_reducible rfl
          try simp only [Act.put, List.setIfInBounds_toArray, List.set_cons_zero, List.set_cons_succ]
          refine wpAnyH_only (i := 37) rfl (by kernel_rfl) (fun K hK => ?_)
          go_simp
          refine (dbytL (unhide HR2) (unhide HST) hlt z2 (unhide HBS)).mono ?_
          rintro e w7 ⟨a7, n7, c7, rfl, u1, u2, u3, HR3, HY⟩
          go_wp2_with fail
          refine hK.out _ _ (⟨u2, u1⟩) (fun hHeld2 => ?_)
          clear hK K hHeld
          have hHeld := hHeld2
          clear hHeld2
          try simp only [Act.put, List.setIfInBounds_toArray, List.set_cons_zero, List.set_cons_succ]
          refine wpAnyH_switch (S' := fun w' => (convert 23 9 (.slice a7 n7 c7)).run Try.prog w' = .ok (.string ⟨bs.toArray⟩) w' ∧ w'.cell? ⟨rb, 0, none⟩ = some (.slice aL cs'.length capL) ∧ w'.cell? ⟨lb', lo + k * 3 + 1, none⟩ = some (.int .i64 (st k).l) ∧ w'.cell? ⟨lb', lo + k * 3 + 1 + 1, none⟩ = some (.slice (st k).a (st k).ps.length (st k).c)) (fun _ h => h.2) ?_
          clear hHeld
          have hHeld := And.intro u3 (And.intro u2 u1)
          refine wpAnyH_tk (i := 38) (v := ?_) rfl (by kernel_rfl) (by kernel_rfl) (by kernel_rfl) (fun _ _ _ h => h) (Or.inl ⟨by rfl, ?_⟩) hHeld ?_
          rotate_left
          · intro w hSw
            try dsimp only at hSw
            go_simp
            try with_reducible rfl
          try simp only [Act.put, List.setIfInBounds_toArray, List.set_cons_zero, List.set_cons_succ]
          refine wpAnyH_only (i := 40) rfl (by kernel_rfl) (fun K hK => ?_)
          go_simp
          refine (dbytR (unhide HR3) (unhide HST) hlt u2 (unhide HBS) c7 (unhide HY)).mono ?_
          rintro e w8 ⟨a8, n8, c8, rfl, v1, v2, v3, v4, HR4⟩
          go_wp2_with fail
          refine hK.out _ _ (⟨v4, v2, v1⟩) (fun hHeld2 => ?_)
          clear hK K hHeld
          have hHeld := hHeld2
          clear hHeld2
          try simp only [Act.put, List.setIfInBounds_toArray, List.set_cons_zero, List.set_cons_succ]
          refine wpAnyH_switch (S' := fun w' => (convert 23 9 (.slice a8 n8 c8)).run Try.prog w' = .ok (.string ⟨bs.toArray⟩) w' ∧ (convert 23 9 (.slice a7 n7 c7)).run Try.prog w' = .ok (.string ⟨bs.toArray⟩) w' ∧ w'.cell? ⟨rb, 0, none⟩ = some (.slice aL cs'.length capL) ∧ w'.cell? ⟨lb', lo + k * 3 + 1, none⟩ = some (.int .i64 (st k).l) ∧ w'.cell? ⟨lb', lo + k * 3 + 1 + 1, none⟩ = some (.slice (st k).a (st k).ps.length (st k).c)) (fun _ h => h.2) ?_
          clear hHeld
          have hHeld := And.intro v3 (And.intro v4 (And.intro v2 v1))
          refine wpAnyH_tk (i := 41) (v := ?_) rfl (by kernel_rfl) (by kernel_rfl) (by kernel_rfl) (fun _ _ _ h => h) (Or.inl ⟨by rfl, ?_⟩) hHeld ?_
          rotate_left
          · intro w hSw
            try dsimp only at hSw
            go_simp
            try with_reducible rfl
          try simp only [Act.put, List.setIfInBounds_toArray, List.set_cons_zero, List.set_cons_succ]
          refine wpAnyH_tk (i := 42) (v := ?_) rfl (by kernel_rfl) (by kernel_rfl) (by kernel_rfl) (fun _ _ _ h => h) (Or.inl ⟨by rfl, ?_⟩) hHeld ?_
          rotate_left
          · intro w hSw
            try dsimp only at hSw
            go_simp
            try with_reducible rfl
          try simp only [Act.put, List.setIfInBounds_toArray, List.set_cons_zero, List.set_cons_succ]
          refine wpAnyH_tk (i := 43) (v := ?_) rfl (by kernel_rfl) (by kernel_rfl) (by kernel_rfl) (fun _ _ _ h => h) (Or.inl ⟨by rfl, ?_⟩) hHeld ?_
          rotate_left
          · intro w hSw
            try dsimp only at hSw
            go_simp
            try with_reducible rfl
          try simp only [Act.put, List.setIfInBounds_toArray, List.set_cons_zero, List.set_cons_succ]
          refine wpAnyH_tk (i := 44) (v := ?_) rfl (by kernel_rfl) (by kernel_rfl) (by kernel_rfl) (fun _ _ _ h => h) (Or.inl ⟨by rfl, ?_⟩) hHeld ?_
          rotate_left
          · intro w hSw
            try dsimp only at hSw
            go_simp
            try with_reducible rfl
          try simp only [Act.put, List.setIfInBounds_toArray, List.set_cons_zero, List.set_cons_succ]
          refine wpAnyH_done (by kernel_rfl) ?_ _
          go_wp2_with fail
          refine (duo_mend (unhide HR4)).mono ?_
          rintro e w9 ⟨rfl, HR5⟩
          go_wp2_with fail
          refine (duo_rmend (unhide HR5)).mono ?_
          rintro e w10 ⟨rfl, HR6⟩
          go_wp2_with fail
          exact ⟨⟨k + 1, _, by omega, by simp, by go_num, lrun_tear (unhide HRUN) (unhide HD1) (unhide HC), HR6⟩, by simp [intOf]; omega⟩
        · have HN := hide (lrun_none (unhide HRUN) hd hd1)
          generalize (st k).d = d at *
          have e0 : (d == 0) = false := beq_eq_false_iff_ne.2 hd
          have e1 : (d == 1) = false := beq_eq_false_iff_ne.2 hd1
          clear hd hd1
          go_wp2_with fail
          exact ⟨⟨k + 1, _, by omega, rfl, by go_num, HN, HB⟩, by simp [intOf]; omega⟩
    · have e : k = n1 := by omega
      subst e
      go_wp2_with fail
      go_ret3
      exact ⟨gb, rb, cs, rfl, HRUN, HB⟩
end Go.Proofs.Ytfcfoabdangfhab
