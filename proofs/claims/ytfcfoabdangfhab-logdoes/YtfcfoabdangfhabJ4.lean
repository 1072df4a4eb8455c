/- The document's roll of commits: its memory; Mend and Bytes, by their contracts. -/
import Derived.Test.YtfcfoabdangfhabJ2
import Derived.Test.YtfcfoabdangfhabQ4
import Derived.Test.YtfcfoabdangfhabPq
namespace Go.Proofs.Ytfcfoabdangfhab
open Go.RowKit
set_option maxRecDepth 20000
attribute [local go_sem ↓] Go.wp_at_zero Go.wp_at_succ

/-- A commit in memory: where its pairs lie, the room there, the pairs. -/
structure El where
  a : Option Addr
  c : Nat
  ps : List Ver
def eat (xs : List El) (k : Nat) : El := xs.getD k ⟨none, 0, []⟩
def ecells (xs : List El) : List Value := xs.map fun e => .slice e.a e.ps.length e.c
def cps (xs : List El) : List (List Ver) := xs.map El.ps
theorem ecells_length (xs : List El) : (ecells xs).length = xs.length := by simp [ecells]
theorem ecells_append (xs ys : List El) : ecells (xs ++ ys) = ecells xs ++ ecells ys := by simp [ecells]
theorem cps_length (xs : List El) : (cps xs).length = xs.length := by simp [cps]
theorem cps_append (xs ys : List El) : cps (xs ++ ys) = cps xs ++ cps ys := by simp [cps]
theorem ecells_at {xs : List El} {k : Nat} (h : k < xs.length) : (ecells xs)[k]? = some (.slice (eat xs k).a (eat xs k).ps.length (eat xs k).c) := by
  simp [ecells, eat, List.getD_eq_getElem?_getD, List.getElem?_eq_getElem h]
theorem eat_mem {xs : List El} {k : Nat} (h : k < xs.length) : eat xs k ∈ xs := by
  simp only [eat, List.getD_eq_getElem?_getD, List.getElem?_eq_getElem h, Option.getD_some]
  exact List.getElem_mem h
theorem cps_at {xs : List El} {k : Nat} (h : k < xs.length) : (cps xs).getD k [] = (eat xs k).ps := by
  simp [cps, eat, List.getD_eq_getElem?_getD, List.getElem?_eq_getElem h]

/-- A row of commits that a call owns since B. -/
def OwnE (B : Nat) (w : World) (a : Option Addr) (cap : Nat) (xs : List El) : Prop := w.ownsRow B 22 1 (.slice a xs.length cap) xs.length (ecells xs)
section
variable {B : Nat} {w w' : World} {a : Option Addr} {cap : Nat} {xs : List El}
theorem ownE_nil (B : Nat) (w : World) : OwnE B w none 0 [] := World.ownsRow_nil _ _ _ _
theorem OwnE.cases (h : OwnE B w a cap xs) : (a = none ∧ cap = 0 ∧ xs = []) ∨ ∃ g, a = some ⟨g, 0, none⟩ ∧ B ≤ g ∧ g < w.heap.size ∧ xs.length ≤ cap := by
  rcases h.2 with ⟨e, _⟩ | ⟨g, c, cur, e, h1, h2, h3, _⟩
  · simp only [Value.slice.injEq] at e
    exact .inl ⟨e.1, e.2.2, List.eq_nil_of_length_eq_zero e.2.1⟩
  · simp only [Value.slice.injEq, true_and] at e
    obtain ⟨rfl, rfl⟩ := e
    exact .inr ⟨g, rfl, h1, lt_of_block h2, h3⟩
theorem OwnE.lo (h : OwnE B w a cap xs) : ∀ x ∈ ob a, B ≤ x ∧ x < w.heap.size := by
  intro x hx
  rcases h.cases with ⟨rfl, _⟩ | ⟨g, rfl, h1, h2, _⟩
  · simp [ob] at hx
  · simp [ob] at hx; omega
theorem OwnE.own_block (h : OwnE B w a cap xs) {n : Nat} : ∀ g, (Value.slice a n cap).ownBlock = some g → g ∈ ob a := by
  intro g hg
  rcases h.cases with ⟨rfl, _⟩ | ⟨g', rfl, _⟩
  · simp [Value.ownBlock] at hg
  · have : g' = g := by simpa [Value.ownBlock] using hg
    subst this
    simp [ob]
theorem OwnE.kp {S : List Nat} (h : OwnE B w a cap xs) (hk : Kp S w w') (hS : ∀ x ∈ ob a, x ∉ S) : OwnE B w' a cap xs := own_kp h hk (fun g hg => hS g (h.own_block g hg))
theorem OwnE.kp0 (h : OwnE B w a cap xs) (hk : Kp [] w w') : OwnE B w' a cap xs := h.kp hk (fun _ _ => by simp)
theorem OwnE.base {C : Nat} (h : OwnE B w a cap xs) (hC : C ≤ B) : OwnE C w a cap xs := own_base h hC
theorem OwnE.le (h : OwnE B w a cap xs) : xs.length ≤ cap := by
  rcases h.cases with ⟨_, rfl, rfl⟩ | ⟨_, _, _, _, h⟩
  · simp
  · exact h
theorem OwnE.cell (h : OwnE B w a cap xs) {k : Nat} (hk : k < xs.length) : ∃ g, a = some ⟨g, 0, none⟩ ∧ w.cell? ⟨g, k, none⟩ = some (.slice (eat xs k).a (eat xs k).ps.length (eat xs k).c) := by
  rcases h.cases with ⟨_, _, rfl⟩ | ⟨g, rfl, _⟩
  · simp at hk
  · refine ⟨g, rfl, ?_⟩
    have := World.ownsRow.cellAt h k (by omega)
    rw [this, ecells_at hk]
theorem OwnE.take (h : OwnE B w a cap xs) (k : Nat) (hk : k ≤ xs.length) : OwnE B w a cap (xs.take k) := by
  have hl : (xs.take k).length = k := by simp; omega
  refine ⟨by rw [ecells_length]; omega, ?_⟩
  rcases h.2 with ⟨e, e2⟩ | ⟨g, c, cur, e, h1, h2, h3, h4, h5, h6⟩
  · have : k = 0 := by omega
    subst this
    simp only [Value.slice.injEq] at e
    exact .inl ⟨by simp [e.1, e.2.2], by simp⟩
  · simp only [Value.slice.injEq, true_and] at e
    obtain ⟨rfl, rfl⟩ := e
    refine .inr ⟨g, cap, cur, rfl, h1, h2, by omega, h4, h5, ?_⟩
    simp only [Nat.mul_one] at h6 ⊢
    have e2 : cur.toList.take k = (cur.toList.take xs.length).take k := by rw [List.take_take, Nat.min_eq_left hk]
    rw [hl, e2, h6]
    simp [ecells, List.map_take]
end

theorem slo_prs {w : World} {a : Option Addr} {ps : List Ver} (h : SlO w a ps) (hp : pf (-1) ps = 0) : Prs w a ps :=
  ⟨by have := pf_len8 hp; unfold maxLen; omega, fun k hk => by have := pf_str hp k hk; unfold maxLen; omega, h⟩
theorem SlO.kp {S : List Nat} {w w' : World} {a : Option Addr} {vs : List Ver} (h : SlO w a vs) (hk : Kp S w w') (hS : ∀ x ∈ ob a, x ∉ S) : SlO w' a vs := fun hp => by
  obtain ⟨g, o, rfl, hs⟩ := h hp
  exact ⟨g, o, rfl, hs.kp hk (hS g (by simp [ob]))⟩

/-- A roll's memory: the box rb holds the commits and what is torn; G: all blocks that are its own. -/
structure RlL (B : Nat) (w : World) (rb : Nat) (G : List Nat) (aL : Option Addr) (capL : Nat) (xs : List El) (aT : Option Addr) (cT : Nat) (torn : List UInt8) : Prop where
  box : w.heap[rb]? = some (.cells #[.slice aL xs.length capL, .slice aT torn.length cT] 50 (0, 0))
  own : OwnE B w aL capL xs
  els : ∀ e ∈ xs, SlO w e.a e.ps ∧ ∀ x ∈ ob e.a, x ∈ G ∧ x ≠ rb ∧ x ∉ ob aL
  tb : Byt w aT torn
  tn : torn = [] → aT = none ∧ cT = 0
  tG : ∀ x ∈ ob aT, x ∈ G ∧ x ≠ rb
  ne : rb ∉ ob aL
  rG : rb ∈ G
  aG : ∀ x ∈ ob aL, x ∈ G
  lo : ∀ x ∈ G, B ≤ x ∧ x < w.heap.size
  inv : LInv (cps xs)
  tl : torn.length ≤ 114
  hB : B ≤ w.heap.size
def Rl (B : Nat) (w : World) (rb : Nat) (G : List Nat) (cs : List (List Ver)) (torn : List UInt8) : Prop := ∃ aL capL xs aT cT, RlL B w rb G aL capL xs aT cT torn ∧ cs = cps xs

section
variable {B : Nat} {w w' : World} {rb : Nat} {G S : List Nat} {aL : Option Addr} {capL : Nat} {xs : List El} {aT : Option Addr} {cT : Nat} {torn : List UInt8} {cs : List (List Ver)}
theorem Byt.kpo {bs : List UInt8} {a : Option Addr} (h : Byt w a bs) (hk : Kp S w w') (hS : ∀ x ∈ ob a, x ∉ S) : Byt w' a bs := h.kp hk (fun g o e => hS g (by subst e; simp [ob]))
theorem RlL.kp (h : RlL B w rb G aL capL xs aT cT torn) (hk : Kp S w w') (hS : ∀ x, x ∈ G → x ∉ S) : RlL B w' rb G aL capL xs aT cT torn :=
  ⟨by rw [hk.block rb (h.lo rb h.rG).2 (hS _ h.rG)]; exact h.box, h.own.kp hk (fun x hx => hS x (h.aG x hx)), fun e he => ⟨(h.els e he).1.kp hk (fun x hx => hS x ((h.els e he).2 x hx).1), (h.els e he).2⟩, h.tb.kpo hk (fun x hx => hS x (h.tG x hx).1), h.tn, h.tG, h.ne, h.rG, h.aG, fun x hx => ⟨(h.lo x hx).1, Nat.lt_of_lt_of_le (h.lo x hx).2 hk.size⟩, h.inv, h.tl, Nat.le_trans h.hB hk.size⟩
theorem Rl.kp (h : Rl B w rb G cs torn) (hk : Kp S w w') (hS : ∀ x, x ∈ G → x ∉ S) : Rl B w' rb G cs torn := by
  obtain ⟨aL, capL, xs, aT, cT, h, e⟩ := h
  exact ⟨aL, capL, xs, aT, cT, h.kp hk hS, e⟩
theorem Rl.kp0 (h : Rl B w rb G cs torn) (hk : Kp [] w w') : Rl B w' rb G cs torn := h.kp hk (fun _ _ => by simp)
theorem Rl.lo (h : Rl B w rb G cs torn) : ∀ x, x ∈ G → B ≤ x ∧ x < w.heap.size := by
  obtain ⟨aL, capL, xs, aT, cT, h, e⟩ := h
  exact h.lo
theorem Rl.inv (h : Rl B w rb G cs torn) : LInv cs := by
  obtain ⟨aL, capL, xs, aT, cT, h, e⟩ := h
  subst e
  exact h.inv
theorem Rl.base {C : Nat} (h : Rl B w rb G cs torn) (hC : C ≤ B) : Rl C w rb G cs torn := by
  obtain ⟨aL, capL, xs, aT, cT, h, e⟩ := h
  exact ⟨aL, capL, xs, aT, cT, ⟨h.box, h.own.base hC, h.els, h.tb, h.tn, h.tG, h.ne, h.rG, h.aG, fun x hx => ⟨Nat.le_trans hC (h.lo x hx).1, (h.lo x hx).2⟩, h.inv, h.tl, Nat.le_trans hC h.hB⟩, e⟩
theorem RlL.c0 (h : RlL B w rb G aL capL xs aT cT torn) : w.cell? ⟨rb, 0, none⟩ = some (.slice aL xs.length capL) := cell_of_block h.box rfl
theorem RlL.c1 (h : RlL B w rb G aL capL xs aT cT torn) : w.cell? ⟨rb, 1, none⟩ = some (.slice aT torn.length cT) := cell_of_block h.box rfl
theorem RlL.fz (h : RlL B w rb G aL capL xs aT cT torn) (i : Nat) : w.frozen? ⟨rb, i, none⟩ = false := frozen_of_block i h.box
end

/-- A roll just laid. -/
theorem rl_new (w : World) : Rl w.heap.size (w.alloc (.cells #[.slice none 0 0, .slice none 0 0] 50)) w.heap.size [w.heap.size] [] [] := by
  refine ⟨none, 0, [], none, 0, ⟨heap_alloc_new w _, ownE_nil _ _, fun e he => by simp at he, byt_nil _ _, fun _ => ⟨rfl, rfl⟩, by simp [ob], by simp [ob], by simp, by simp [ob], fun x hx => ?_, linv_nil, by simp, by simp⟩, rfl⟩
  simp at hx; subst hx; simp

theorem RlL.mend {B : Nat} {w : World} {rb : Nat} {G : List Nat} {aL : Option Addr} {capL : Nat} {xs : List El} {aT : Option Addr} {cT : Nat} {torn : List UInt8} (h : RlL B w rb G aL capL xs aT cT torn) :
    RlL B (w.setCell ⟨rb, 1, none⟩ (.slice none 0 0)) rb G aL capL xs none 0 [] ∧ Kp G w (w.setCell ⟨rb, 1, none⟩ (.slice none 0 0)) := by
  have hk : Kp [rb] w (w.setCell ⟨rb, 1, none⟩ (.slice none 0 0)) := (Kp.refl [rb] w).setCell (.inl (by simp)) _
  refine ⟨⟨?_, ?_, fun e he => ⟨?_, (h.els e he).2⟩, byt_nil _ _, fun _ => ⟨rfl, rfl⟩, by simp [ob], h.ne, h.rG, h.aG, fun x hx => ⟨(h.lo x hx).1, Nat.lt_of_lt_of_le (h.lo x hx).2 hk.size⟩, h.inv, by simp, Nat.le_trans h.hB hk.size⟩, hk.mono (fun x hx => .inl (by rw [List.mem_singleton.1 hx]; exact h.rG))⟩
  · rw [heap_setCell_at 1 _ h.box]; rfl
  · exact h.own.kp hk (fun x hx e => h.ne (by rw [← List.mem_singleton.1 e]; exact hx))
  · exact (h.els e he).1.kp hk (fun x hx e2 => ((h.els e he).2 x hx).2.1 (List.mem_singleton.1 e2))

set_option maxHeartbeats 400000 in
theorem rmend44 {B rb : Nat} {G : List Nat} {cs : List (List Ver)} {torn : List UInt8} (w : World) (h : Rl B w rb G cs torn) :
    Calls Try.prog 44 #[.pointer (some ⟨rb, 0, none⟩)] w fun e w' => e = .returned (.int .i64 torn.length) ∧ Rl B w' rb G cs [] ∧ Kp G w w' := by
  obtain ⟨aL, capL, xs, aT, cT, h, e⟩ := h
  have q1 := h.c1
  have f1 := h.fz 1
  have HM := hide h.mend
  have hT := h.tl
  have HE := hide e
  clear h e
  generalize torn.length = t at *
  go_enter Try.func44, Try.ntmps44
  go_wp2_with fail
  go_ret
  exact ⟨rfl, ⟨aL, capL, xs, none, 0, (unhide HM).1, unhide HE⟩, (unhide HM).2⟩

/-- At the head of a round of Bytes: the bytes of the first k commits. -/
structure RbI (w : World) (cs : List (List Ver)) (k : Nat) (a : Option Addr) (cap n : Nat) (wr : World) : Prop where
  len : n = (lb (cs.take k)).length
  own : OwnU w.heap.size wr a cap (lb (cs.take k))
  kp : Kp [] w wr
theorem RbI.next {w wr w2 w3 : World} {cs : List (List Ver)} {k : Nat} {a a3 : Option Addr} {cap n cap3 n3 : Nat} (h : RbI w cs k a cap n wr) (hk : k < cs.length) (hk2 : Kp [] wr w2) (hn : n3 = (lb (cs.take k) ++ enc (cs.getD k [])).length) (ho : OwnU w.heap.size w3 a3 cap3 (lb (cs.take k) ++ enc (cs.getD k [])))
    (hk3 : Kp (ob a) w2 w3) : RbI w cs (k + 1) a3 cap3 n3 w3 := by
  rw [← lb_take_succ hk] at hn ho
  exact ⟨hn, ho, (h.kp.trans0 hk2).trans hk3 (fun x hx => .inr (h.own.lo x hx).1)⟩

set_option maxHeartbeats 1000000 in
theorem rbytes24 {B rb : Nat} {G : List Nat} {cs : List (List Ver)} {torn : List UInt8} (w : World) (h : Rl B w rb G cs torn) :
    Calls Try.prog 24 #[.pointer (some ⟨rb, 0, none⟩)] w fun e w' => BtEnd (lb cs ++ torn) w e w' := by
  obtain ⟨aL, capL, xs, aT, cT, h, e⟩ := h
  have hlen : cs.length = xs.length := by rw [e, cps_length]
  have hn40 := h.inv.n40
  have hb3 := h.inv.b3000
  rw [← e] at hn40 hb3
  have htl := h.tl
  have HI := hide h.inv
  rw [← e] at HI
  have HE := hide e
  have HL := hide h
  have hx40 : xs.length ≤ 40 := by omega
  clear h e
  go_enter Try.func24, Try.ntmps24
  go_wp2_with fail
  go_loopw [3, 4] (fun o i wr => ∃ (k : Nat) (a : Option Addr) (cap n : Nat), k ≤ xs.length ∧ o = .slice a n cap ∧ i = .int .i64 k ∧ Hid (RbI w cs k a cap n wr)) (fun _ i _ => xs.length - (intOf i).toNat)
  case atStart => exact ⟨0, none, 0, 0, by omega, rfl, rfl, ⟨by simp [lb], by simpa [lb] using ownU_nil _ _, Kp.refl _ _⟩⟩
  case round =>
    obtain ⟨k, a, cap, n, hk, rfl, rfl, HR⟩ := hrel
    have q0 : wr.cell? ⟨rb, 0, none⟩ = some (.slice aL xs.length capL) := (unhide HR).kp.cell (by simp) (unhide HL).c0
    by_cases hlt : k < xs.length
    · obtain ⟨gL, rfl, hc⟩ := (unhide HL).own.cell hlt
      have q1 : wr.cell? ⟨gL, k, none⟩ = some (.slice (eat xs k).a (eat xs k).ps.length (eat xs k).c) := (unhide HR).kp.cell (by simp) hc
      have q1' : wr.cell? ⟨gL, 0 + k, none⟩ = some (.slice (eat xs k).a (eat xs k).ps.length (eat xs k).c) := by rw [Nat.zero_add]; exact q1
      have i0 : (0 : Int) ≤ (k : Int) := by omega
      have i1 : (k : Int) < (xs.length : Int) := by omega
      have hcs : cs.getD k [] = (eat xs k).ps := by rw [unhide HE, cps_at hlt]
      have hpf : pf (-1) (eat xs k).ps = 0 := by rw [← hcs]; exact (unhide HI).at_ (by omega)
      have hpr := slo_prs (((unhide HL).els _ (eat_mem hlt)).1.kp0 (unhide HR).kp) hpf
      have HB := hide (bytesOf11 (eat xs k).a (eat xs k).c (eat xs k).ps wr hpr hpf)
      have hel := enc_le hpf
      have HC := hide hcs
      have htk := lb_take_le cs k
      clear hc hcs hpf hpr
      go_wp2_with fail
      refine (unhide HB).mono ?_
      rintro e w2 ⟨g2, c2, n2, rfl, hn2, hr2⟩
      have HN2 := hide hn2
      have HR2 := hide hr2
      clear hn2 hr2 q0 q1 q1' HB
      go_wp2_with (at_builtin; refine wpList_appx (by rfl) (.tmp 14) (.tmp 22) 23 rfl ((unhide HR).own.kp0 (unhide HR2).kp) (Nat.le_trans (unhide HR).kp.size (unhide HR2).kp.size) n (unhide HR).len (.slice (some ⟨g2, 0, none⟩) n2 c2) (enc (eat xs k).ps) rfl rfl ((unhide HR2).src (unhide HN2)) (by omega) ?_; intro a3 c3 n3 w3 hn3 ho3 hk3 hx3)
      rw [← unhide HC] at hn3 ho3
      exact ⟨⟨k + 1, a3, c3, n3, by omega, rfl, by go_num, (unhide HR).next (by omega) (unhide HR2).kp (unhide hn3) (unhide ho3) (unhide hk3)⟩, by simp [intOf]; omega⟩
    · have e : k = cs.length := by omega
      have r1 : wr.cell? ⟨rb, 1, none⟩ = some (.slice aT torn.length cT) := (unhide HR).kp.cell (by simp) (unhide HL).c1
      have hA : n = (lb cs).length ∧ OwnU w.heap.size wr a cap (lb cs) := by
        have h1 := (unhide HR).len
        have h2 := (unhide HR).own
        rw [e, List.take_length] at h1 h2
        exact ⟨h1, h2⟩
      have HA := hide hA
      clear hA e
      go_wp2_with (at_builtin; refine wpList_appx (by rfl) (.tmp 24) (.tmp 28) 23 rfl (unhide HA).2 (unhide HR).kp.size n (unhide HA).1 (.slice aT torn.length cT) torn rfl rfl (((unhide HL).tb.kp0 (unhide HR).kp).src cT) (by omega) ?_; intro a3 c3 n3 w3 hn3 ho3 hk3 hx3)
      go_ret
      exact ⟨a3, n3, c3, rfl, unhide hn3, by rw [unhide hn3]; exact (unhide ho3).le, (unhide ho3).byt, (unhide HR).kp.trans (unhide hk3) (fun x hx => .inr ((unhide HA).2.lo x hx).1)⟩
end Go.Proofs.Ytfcfoabdangfhab
