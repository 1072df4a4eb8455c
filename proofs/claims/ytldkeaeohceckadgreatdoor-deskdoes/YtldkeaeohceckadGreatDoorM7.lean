/- Bound together for a claim. -/
import Derived.Test.YtldkeaeohceckadGreatDoorM6
import Derived.Deep.Cut
namespace Go.Proofs.YtldkeaeohceckadGreatDoor
set_option maxRecDepth 20000
set_option maxHeartbeats 64000000
/- The document's line: what its walk stands on. -/
section
open Go.RowKit
set_option maxRecDepth 1000000
attribute [local go_sem ↓] Go.wp_at_zero Go.wp_at_succ

theorem wgo_cnt : ∀ (l cur : List UInt8), (wgo cur l).length ≤ l.length + 1
  | [], cur => by unfold wgo; split <;> simp
  | c :: r, cur => by
    have h1 := wgo_cnt r []
    have h2 := wgo_cnt r (cur ++ [c])
    unfold wgo
    split
    · split <;> simp <;> omega
    · simp; omega
theorem ext_tl (t : List UInt8) (c : UInt8) : (ByteArray.mk (c :: t).toArray).extract 1 (t.length + 1) = ⟨t.toArray⟩ := by
  apply list_inj
  rw [ByteArray.data_extract]
  simp
def ints (ns : List Int) : List Value := ns.map fun z => .int .i64 z
theorem ints_len (ns : List Int) : (ints ns).length = ns.length := by simp [ints]
theorem ints_app (ns vs : List Int) : ints (ns ++ vs) = ints ns ++ ints vs := by simp [ints]
theorem ints_one (ns : List Int) : ∀ u ∈ ints ns, u.oneCell' = true := by
  intro u hu
  obtain ⟨z, _, rfl⟩ := List.mem_map.1 hu
  rfl
theorem Tryz.infoI : (Tryz.prog.info? 3).map (fun i => (i.zero, i.size, i.bytes)) = some (some (.int .i64 0), 1, 8) := by kernel_rfl
theorem src_ints {w : World} {g : Nat} {cs : Array Value} {T : TypeId} (ws : List Int) (hb : w.heap[g]? = some (.cells cs T (0, 0))) (hc : cs.toList = ints ws) (c : Nat) : Src Tryz.prog 1 86 (.slice (some ⟨g, 0, none⟩) ws.length c) ws.length (ints ws) w := by
  refine Src.ofSlice w Tryz.underlying86 ⟨g, 0, none⟩ ws.length c (ints ws) (by rw [ints_len]; omega) ?_ (ints_one ws)
  intro j u hj
  have h1 : cs[j]? = some u := by
    have h2 : cs.toList[j]? = some u := by rw [hc]; exact hj
    simpa using h2
  have h3 := cell_of_block (i := j) hb h1
  have h4 : (⟨g, 0, none⟩ : Addr).add j = ⟨g, j, none⟩ := by simp only [Addr.add]; split <;> simp_all
  rw [h4]; exact h3
theorem tbl_at : ∀ k, k < 13 → ∃ (x : List UInt8) (q : Nat), tbl[k]? = some (x, q) ∧ (#[.string ⟨#[115, 104, 111, 116]⟩, .string ⟨#[115, 117, 114, 101]⟩, .string ⟨#[108, 111, 111, 107]⟩, .string ⟨#[103, 101, 116]⟩, .string ⟨#[112, 117, 116]⟩, .string ⟨#[100, 114, 111, 112]⟩, .string ⟨#[108, 105, 115, 116]⟩, .string ⟨#[99, 111, 109, 109, 105, 116]⟩, .string ⟨#[97, 98, 111, 114, 116]⟩, .string ⟨#[99, 108, 101, 97, 114]⟩, .string ⟨#[99, 114, 97, 115, 104]⟩, .string ⟨#[116, 101, 97, 114]⟩, .string ⟨#[108, 97, 115, 116]⟩] : Array Value)[k]? = some (.string ⟨x.toArray⟩) ∧ (#[.int .i64 1, .int .i64 1, .int .i64 2, .int .i64 2, .int .i64 2, .int .i64 2, .int .i64 3, .int .i64 1, .int .i64 1, .int .i64 0, .int .i64 0, .int .i64 2, .int .i64 0] : Array Value)[k]? = some (.int .i64 (q : Int)) := by
  intro k hk
  match k, hk with
  | 0, _ => exact ⟨_, _, rfl, rfl, rfl⟩
  | 1, _ => exact ⟨_, _, rfl, rfl, rfl⟩
  | 2, _ => exact ⟨_, _, rfl, rfl, rfl⟩
  | 3, _ => exact ⟨_, _, rfl, rfl, rfl⟩
  | 4, _ => exact ⟨_, _, rfl, rfl, rfl⟩
  | 5, _ => exact ⟨_, _, rfl, rfl, rfl⟩
  | 6, _ => exact ⟨_, _, rfl, rfl, rfl⟩
  | 7, _ => exact ⟨_, _, rfl, rfl, rfl⟩
  | 8, _ => exact ⟨_, _, rfl, rfl, rfl⟩
  | 9, _ => exact ⟨_, _, rfl, rfl, rfl⟩
  | 10, _ => exact ⟨_, _, rfl, rfl, rfl⟩
  | 11, _ => exact ⟨_, _, rfl, rfl, rfl⟩
  | 12, _ => exact ⟨_, _, rfl, rfl, rfl⟩
theorem say4 (a b c : List UInt8) : say [[108, 97, 115, 116], a, b, c] = ([108, 97, 115, 116, 32] ++ a ++ [32] ++ b ++ [32] ++ c) ++ [10] := by
  simp [say, Lib.join, List.intercalate]
theorem nms_app : ∀ (a b : List (List UInt8)) {x y : List Int}, nms a = some x → nms b = some y → nms (a ++ b) = some (x ++ y)
  | [], b, x, y, hx, hy => by cases hx; exact hy
  | v :: r, b, x, y, hx, hy => by
    unfold nms at hx
    show nms (v :: (r ++ b)) = _
    unfold nms
    cases hv : num v with
    | none => rw [hv] at hx; cases hx
    | some z =>
      rw [hv] at hx
      cases hr : nms r with
      | none => rw [hr] at hx; cases hx
      | some q =>
        rw [hr] at hx
        cases hx
        show (nms (r ++ b)).map _ = _
        rw [nms_app r b hr hy]; rfl
theorem nms_no : ∀ {a : List (List UInt8)} {v : List UInt8}, v ∈ a → num v = none → nms a = none
  | u :: r, v, h, hv => by
    unfold nms
    rcases List.mem_cons.1 h with rfl | h
    · rw [hv]
    · rw [nms_no h hv]
      cases num u <;> rfl
/-- What follows the first statement of a sequence. -/
def cnext : Code → Code
  | .seq _ b => b
  | c => c
theorem three (ns : List Int) : ∃ y0 y1 y2 yr, ns ++ [0, 0, 0] = y0 :: y1 :: y2 :: yr := by
  match ns with
  | [] => exact ⟨_, _, _, _, rfl⟩
  | [a] => exact ⟨_, _, _, _, rfl⟩
  | [a, b] => exact ⟨_, _, _, _, rfl⟩
  | a :: b :: c :: r => exact ⟨_, _, _, _, rfl⟩
theorem krow3 {B : Nat} {w : World} {a : Option Addr} {n cap : Nat} {y0 y1 y2 : Int} {yr : List Int} (h : KRow 3 1 B w a n cap (ints (y0 :: y1 :: y2 :: yr))) : ∃ g, a = some ⟨g, 0, none⟩ ∧ w.cell? ⟨g, 0, none⟩ = some (.int .i64 y0) ∧ w.cell? ⟨g, 1, none⟩ = some (.int .i64 y1) ∧ w.cell? ⟨g, 2, none⟩ = some (.int .i64 y2) := by
  obtain ⟨g, rfl, h0⟩ := h.cell (j := 0) (v := .int .i64 y0) rfl
  obtain ⟨g1, e1, h1⟩ := h.cell (j := 1) (v := .int .i64 y1) rfl
  obtain ⟨g2, e2, h2⟩ := h.cell (j := 2) (v := .int .i64 y2) rfl
  cases e1
  cases e2
  exact ⟨_, rfl, h0, h1, h2⟩
theorem dgo_t {f : Nat → List Ver} {n : Nat} {y : Int} {ws : List Ver} : ∀ (m k : Nat) (acc : List Ver) (rs : List Int), (∀ p ∈ acc, p.t = true) → ∀ p ∈ (dgo f n y ws k m acc rs).1, p.t = true := by
  intro m
  induction m with
  | zero => intro k acc rs ha; exact ha
  | succ m ih =>
    intro k acc rs ha
    unfold dgo
    split
    · split
      · rename_i ht
        refine ih _ _ _ (fun p hp => ?_)
        rcases List.mem_append.1 hp with e | e
        · exact ha p e
        · rw [List.mem_singleton.1 e]
          simpa using ht
      · exact ih _ _ _ ha
    · intro p hp; simp at hp
theorem hev_t (h : HSt) (x : HStep) : ∀ p ∈ (hev h x).l, p.t = true := by
  have no : ∀ p ∈ ([] : List Ver), p.t = true := fun p hp => by cases hp
  unfold hev
  by_cases h1 : x.d < 1 ∨ 10 < x.d
  · rw [if_pos h1]; exact no
  rw [if_neg h1]
  by_cases h2 : x.d = 8
  · rw [if_pos h2]; exact no
  rw [if_neg h2]
  by_cases h3 : x.d = 9
  · rw [if_pos h3]; exact no
  rw [if_neg h3]
  by_cases h4 : ¬ (0 ≤ x.s ∧ x.s < 5)
  · rw [if_pos h4]; exact no
  rw [if_neg h4]
  cases hs : h.seat x.s.toNat with
  | none =>
    dsimp only
    by_cases h5 : x.d = 1
    · rw [if_pos h5]; exact no
    · rw [if_neg h5]; exact no
  | some d =>
    dsimp only
    by_cases h5 : x.d = 1
    · rw [if_pos h5]; exact no
    rw [if_neg h5]
    by_cases h6 : x.d = 2
    · rw [if_pos h6]; exact no
    rw [if_neg h6]
    by_cases h7 : x.d = 3
    · rw [if_pos h7]; exact no
    rw [if_neg h7]
    by_cases h8 : x.d = 4
    · rw [if_pos h8]; exact no
    rw [if_neg h8]
    by_cases h9 : x.d = 5
    · rw [if_pos h9]
      show ∀ p ∈ (dls h.f h.n d.y d.ws d.rs x.key x.to_).1, p.t = true
      unfold dls
      by_cases hk : keyB x.key = true ∧ keyB x.to_ = true
      · rw [if_pos hk]; exact dgo_t _ _ _ _ no
      · rw [if_neg hk]; exact no
    rw [if_neg h9]
    by_cases h10 : x.d = 6
    · rw [if_pos h10]; exact no
    rw [if_neg h10]
    by_cases h11 : x.d = 10
    · rw [if_pos h11]; exact no
    · rw [if_neg h11]; exact no
/-- What a list told stays where an event is laid beside it. -/
theorem slo_row {w : World} {a : Option Addr} {vl : List Ver} {p : Nat} {T : TypeId} {c' : Array Value} (h : SlO w a vl) (ht : ∀ v ∈ vl, v.t = true) (hb : w.heap[p]? = some (.cells #[.int .i64 0, .int .i64 0, .bool false, .string ⟨#[]⟩, .slice none 0 0] T (0, 0))) : SlO (w.setRow p c') a vl := fun hp => by
  obtain ⟨g, o, rfl, hs⟩ := h hp
  refine ⟨g, o, rfl, hs.kp (setRow_kp (cs := c') hb).2 ?_⟩
  intro e
  have e : g = p := by simpa using e
  subst e
  have h1 := hs.at1 0 hp
  have h2 : vt vl 0 = true := by
    unfold vt
    rw [List.getD_eq_getElem?_getD, List.getElem?_eq_getElem hp]
    exact ht _ (List.getElem_mem hp)
  rw [h2, cell_of_row w g _ _ _ _ hb] at h1
  match o, h1 with
  | 0, h1 => cases h1
  | 1, h1 => cases h1
  | 2, h1 => cases h1
  | 3, h1 => cases h1
  | o + 4, h1 => simp at h1
theorem join_cons : ∀ (x : List UInt8) (l : List (List UInt8)), Lib.join (x :: l) [32] = x ++ l.flatMap (fun v => [32] ++ v)
  | x, [] => by simp [Lib.join, List.intercalate]
  | x, y :: r => by
    have h : Lib.join (x :: y :: r) [32] = x ++ ([32] ++ Lib.join (y :: r) [32]) := by simp [Lib.join, List.intercalate]
    rw [h, join_cons y r]
    simp
/-- What a list's pairs are told as. -/
def jt (l : List Ver) : List UInt8 := (l.map pvx).flatMap (fun v => [32] ++ v)
theorem jt_snoc {l : List Ver} {k : Nat} {p : Ver} (h : l[k]? = some p) : jt (l.take (k + 1)) = jt (l.take k) ++ ([32] ++ Lib.itoa p.a ++ vtx p.t p.s) := by
  rw [take_snoc h]
  unfold jt
  rw [List.map_append, List.flatMap_append]
  simp [pvx]
theorem say_all (l : List Ver) : say ([97, 108, 108] :: l.map pvx) = ([97, 108, 108] ++ jt l) ++ [10] := by
  unfold say jt
  rw [join_cons]
end
/- The document's line: what is told behind its step. -/
section
open Go.RowKit
set_option maxRecDepth 1000000
attribute [local go_sem ↓] Go.wp_at_zero Go.wp_at_succ

set_option maxHeartbeats 32000000 in
theorem rtells {w0 wc : World} {r : List Thing} {rd cb pX p6 : Nat} {told t2 : List UInt8} {h2 : HSt} {xd xs xm xa xk xt xp : Int} {xb : ByteArray} {vc vn : Int} {vu : Bool} {vw : ByteArray} {vl : List Ver} {m9 c9 : Nat} {a9 : Option Addr} {u1 u2 u3 u4 u5 u6 u7 u8 u9 u10 u11 u12 u13 u14 u17 u18 u19 u20 u21 u22 u23 u24 u25 u26 u27 u28 u29 u30 u31 u32 u33 u34 u35 u36 u37 u38 u39 u40 u41 u42 u43 u44 u45 u46 u47 u48 u49 u50 u51 u52 u53 u54 u55 u56 u57 u58 u59 u60 u61 u62 u63 u64 u65 u66 u67 u68 u69 u70 u71 u72 u73 u74 u75 u76 u77 u78 u79 u80 u81 u82 u83 u84 u85 u86 u87 u88 u89 u90 u91 u92 u93 u94 u95 u96 u97 u98 u99 u100 u101 u102 u103 u104 u105 u106 u107 u108 u109 u110 u111 u112 u113 u114 u115 u116 u117 u118 u119 u120 u121 u122 u123 u124 u125 u126 u127 u128 u129 u130 u131 u132 u133 u134 u135 u136 u137 u138 u139 u140 u141 u142 u143 u144 u145 u146 u147 u148 u149 u150 u151 u152 u153 u154 u155 u156 u157 u158 u159 u160 u161 u162 u163 u164 u165 u166 u167 u168 u169 u170 u171 u172 u173 u174 u175 u176 u177 u178 u179 u180 u181 u182 u183 u184 u185 u186 u187 u188 u189 u190 u191 u192 u193 u194 u195 u196 u197 u198 u199 u200 u201 u202 u203 u204 u205 u206 u207 u208 u209 u210 u211 u212 u213 u214 u215 u216 u217 u218 u219 u220 u221 u222 u223 u224 u225 u226 u227 u228 u229 u230 u231 u232 u233 u234 u235 u236 u237 u238 u239 u240 u241 u242 u243 u244 u245 u246 u247 u248 u249 u250 u251 u252 u253 u254 u255 u256 u257 u258 u259 u260 u261 u262 u263 u264 u265 u266 u267 u268 u269 u270 u271 u272 u273 u274 u275 u276 u277 u278 u279 u280 u281 u282 u283 u284 u285 u286 u287 u288 u289 u290 u291 u292 u293 u294 u295 u296 u297 u298 u299 u300 u301 u302 u303 u304 u305 u306 u307 u308 u309 u310 u311 u312 u313 u314 u315 : Value}
    (HG : Hid (Gnd w0)) (hlen : told.length + t2.length ≤ 200000) (v0 : 0 ≤ vc) (v1 : vc ≤ 12) (v2 : 0 ≤ vn) (v3 : vn ≤ 1000) (v4 : vw.size ≤ 12) (v5 : m9 ≤ 8) (HVL : Hid (∀ p ∈ vl, p.s.size ≤ 12 ∧ 0 ≤ p.a ∧ p.a ≤ 9)) (HM9 : Hid (m9 = vl.length)) (HT2 : Hid (t2 = say (tell xd ⟨vc, vn, vu, vw, vl⟩)))
    (HZE : Hid (Zoo w0 wc (CouT cb h2 :: BoxT p6 #[.int .i64 vc, .int .i64 vn, .bool vu, .string vw, .slice a9 m9 c9] 102 :: BoxT pX (xcs ⟨xd, xs, xm, xa, xk, xt, xp, xb⟩) 79 :: BoxT rd (rdc told cb) 50 :: r))) (HSE : Hid (SlO wc a9 vl)) :
    Code.wp Tryz.prog (cnext (cnext (cnext (cnext (cnext (cnext (cnext (cnext (cnext (cnext (cnext (cnext (cnext (cnext (cnext (cnext (Tryz.f19.body.getD .skip))))))))))))))))) (bodyPost Tryz.prog Tryz.f19 fun e w' => e = .returned (.tuple #[]) ∧ Hid (Zoo w0 w' (CouT cb h2 :: BoxT rd (rdc (told ++ t2) cb) 50 :: r))) { tmps := (.pointer (some ⟨rd, 0, none⟩) :: u1 :: u2 :: u3 :: u4 :: u5 :: u6 :: u7 :: u8 :: u9 :: u10 :: u11 :: u12 :: u13 :: u14 :: .pointer (some ⟨pX, 0, none⟩) :: .pointer (some ⟨p6, 0, none⟩) :: u17 :: u18 :: u19 :: u20 :: u21 :: u22 :: u23 :: u24 :: u25 :: u26 :: u27 :: u28 :: u29 :: u30 :: u31 :: u32 :: u33 :: u34 :: u35 :: u36 :: u37 :: u38 :: u39 :: u40 :: u41 :: u42 :: u43 :: u44 :: u45 :: u46 :: u47 :: u48 :: u49 :: u50 :: u51 :: u52 :: u53 :: u54 :: u55 :: u56 :: u57 :: u58 :: u59 :: u60 :: u61 :: u62 :: u63 :: u64 :: u65 :: u66 :: u67 :: u68 :: u69 :: u70 :: u71 :: u72 :: u73 :: u74 :: u75 :: u76 :: u77 :: u78 :: u79 :: u80 :: u81 :: u82 :: u83 :: u84 :: u85 :: u86 :: u87 :: u88 :: u89 :: u90 :: u91 :: u92 :: u93 :: u94 :: u95 :: u96 :: u97 :: u98 :: u99 :: u100 :: u101 :: u102 :: u103 :: u104 :: u105 :: u106 :: u107 :: u108 :: u109 :: u110 :: u111 :: u112 :: u113 :: u114 :: u115 :: u116 :: u117 :: u118 :: u119 :: u120 :: u121 :: u122 :: u123 :: u124 :: u125 :: u126 :: u127 :: u128 :: u129 :: u130 :: u131 :: u132 :: u133 :: u134 :: u135 :: u136 :: u137 :: u138 :: u139 :: u140 :: u141 :: u142 :: u143 :: u144 :: u145 :: u146 :: u147 :: u148 :: u149 :: u150 :: u151 :: u152 :: u153 :: u154 :: u155 :: u156 :: u157 :: u158 :: u159 :: u160 :: u161 :: u162 :: u163 :: u164 :: u165 :: u166 :: u167 :: u168 :: u169 :: u170 :: u171 :: u172 :: u173 :: u174 :: u175 :: u176 :: u177 :: u178 :: u179 :: u180 :: u181 :: u182 :: u183 :: u184 :: u185 :: u186 :: u187 :: u188 :: u189 :: u190 :: u191 :: u192 :: u193 :: u194 :: u195 :: u196 :: u197 :: u198 :: u199 :: u200 :: u201 :: u202 :: u203 :: u204 :: u205 :: u206 :: u207 :: u208 :: u209 :: u210 :: u211 :: u212 :: u213 :: u214 :: u215 :: u216 :: u217 :: u218 :: u219 :: u220 :: u221 :: u222 :: u223 :: u224 :: u225 :: u226 :: u227 :: u228 :: u229 :: u230 :: u231 :: u232 :: u233 :: u234 :: u235 :: u236 :: u237 :: u238 :: u239 :: u240 :: u241 :: u242 :: u243 :: u244 :: u245 :: u246 :: u247 :: u248 :: u249 :: u250 :: u251 :: u252 :: u253 :: u254 :: u255 :: u256 :: u257 :: u258 :: u259 :: u260 :: u261 :: u262 :: u263 :: u264 :: u265 :: u266 :: u267 :: u268 :: u269 :: u270 :: u271 :: u272 :: u273 :: u274 :: u275 :: u276 :: u277 :: u278 :: u279 :: u280 :: u281 :: u282 :: u283 :: u284 :: u285 :: u286 :: u287 :: u288 :: u289 :: u290 :: u291 :: u292 :: u293 :: u294 :: u295 :: u296 :: u297 :: u298 :: u299 :: u300 :: u301 :: u302 :: u303 :: u304 :: u305 :: u306 :: u307 :: u308 :: u309 :: u310 :: u311 :: u312 :: u313 :: u314 :: u315 :: []).toArray, defers := [] } wc := by
  conv => arg 2; whnf
  have hE := zoo_varm (unhide HZE) (List.Mem.tail _ (List.Mem.head _))
  have e0 : wc.cell? ⟨p6, 0, none⟩ = some (.int .i64 vc) := cell_of_block hE rfl
  have e1 : wc.cell? ⟨p6, 1, none⟩ = some (.int .i64 vn) := cell_of_block hE rfl
  have e2 : wc.cell? ⟨p6, 2, none⟩ = some (.bool vu) := cell_of_block hE rfl
  have e3 : wc.cell? ⟨p6, 2 + 1, none⟩ = some (.string vw) := cell_of_block hE rfl
  have e4 : wc.cell? ⟨p6, 4, none⟩ = some (.slice a9 m9 c9) := cell_of_block hE rfl
  have x0 : wc.cell? ⟨pX, 0, none⟩ = some (.int .i64 xd) := cell_of_block (zoo_varm (unhide HZE) (List.Mem.tail _ (List.Mem.tail _ (List.Mem.head _)))) rfl
  clear hE
  by_cases hc : vc = 0
  · subst hc
    by_cases h2x : xd = 2
    · as_aux_lemma =>
        subst h2x
        obtain ⟨xn, hxn⟩ : ∃ x, vtx vu vw = x := ⟨_, rfl⟩
        have HXN := hide hxn
        have l1 := vtx_len vu vw (by omega)
        rw [hxn] at l1
        have ht3 : t2 = ([104, 97, 115, 32] ++ xn) ++ [10] := by rw [unhide HT2]; unfold tell telk; rw [if_neg (by simp), if_pos rfl, hxn]; simp [say, Lib.join, List.intercalate]
        obtain ⟨q1, hq1⟩ : ∃ q, q = [104, 97, 115, 32] ++ xn := ⟨_, rfl⟩
        have mk1 : ByteArray.mk #[104, 97, 115, 32] ++ ByteArray.mk xn.toArray = ByteArray.mk q1.toArray := by rw [hq1]; exact mk_app [104, 97, 115, 32] xn
        have ht2 : t2 = q1 ++ [10] := by rw [hq1, ht3]
        subst ht2
        have hl2 : told.length + (q1.length + 1) ≤ 200000 := by simpa using hlen
        have y1 : ¬ 9223372036854775807 < 4 + xn.length := by omega
        clear hxn hq1 hlen ht3
        go_wp2_with (first | (go_at_call 40; refine (rvalue vu vw wc (by omega)).mono ?_; rintro e w7 ⟨he, hk7⟩; rw [unhide HXN] at he; subst he; have HZ7 := hide ((unhide HZE).kp0 (kp_of_below hk7)); clear hk7) | (go_at_call 34; refine (rsay (l1 := [_, _, _]) q1 (unhide HZ7) hl2).mono ?_; rintro e w8 ⟨rfl, HZ8⟩))
        go_end0
        exact ⟨rfl, Zoo.drop_ (l1 := [_]) (Zoo.drop_ (l1 := [_]) (unhide HZ8))⟩
    by_cases h5 : xd = 5
    · as_aux_lemma =>
        subst h5
        have ht2 : t2 = ([97, 108, 108] ++ jt vl) ++ [10] := by rw [unhide HT2]; unfold tell telk; rw [if_neg (by simp), if_neg (by decide), if_pos rfl, say_all]
        have HT4 := hide ht2
        rw [ht2] at hlen
        clear ht2
        obtain ⟨wE, hwE⟩ : ∃ wE, wE = wc := ⟨_, rfl⟩
        subst hwE
        go_wp2_with fail
        go_loopw [17, 18] (fun t17 t18 wq => ∃ (k : Nat) (acc : List UInt8), k ≤ m9 ∧ t17 = .string ⟨acc.toArray⟩ ∧ t18 = .int .i64 k ∧ acc.length ≤ 3 + 70 * k ∧ Hid (acc = [97, 108, 108] ++ jt (vl.take k)) ∧ Hid (Kp [] wE wq)) (fun _ t _ => m9 - (intOf t).toNat)
        case atStart => exact ⟨0, [97, 108, 108], Nat.zero_le _, rfl, rfl, Nat.le_refl _, rfl, Kp.refl _ _⟩
        case round =>
          obtain ⟨k, acc, hk, rfl, rfl, hal, HAC, HQ⟩ := hrel
          have f4 := (unhide HQ).cell (by simp) e4
          by_cases hlt : k < m9
          · obtain ⟨⟨pa, pt, ps⟩, hp⟩ : ∃ p, vl[k]? = some p := ⟨_, List.getElem?_eq_getElem (by rw [← unhide HM9]; exact hlt)⟩
            obtain ⟨g9, o9, rfl, hs9⟩ := ((unhide HSE).kp0 (unhide HQ)) (by rw [← unhide HM9]; omega)
            have kl : k < vl.length := by rw [← unhide HM9]; exact hlt
            have z0 := hs9.at0 k kl
            have z1 := hs9.at1 k kl
            have z2 := hs9.at2 k kl
            rw [show va vl k = pa by unfold va; rw [List.getD_eq_getElem?_getD, hp]; rfl] at z0
            rw [show vt vl k = pt by unfold vt; rw [List.getD_eq_getElem?_getD, hp]; rfl] at z1
            rw [show vb vl k = ps by unfold vb; rw [List.getD_eq_getElem?_getD, hp]; rfl] at z2
            have hpv := unhide HVL _ (List.mem_of_getElem? hp)
            dsimp only at hpv
            obtain ⟨q1, q2, q3⟩ := hpv
            have HP := hide hp
            obtain ⟨xn, hxn⟩ : ∃ x, Lib.itoa pa = x := ⟨_, rfl⟩
            have l1 := Lib.itoa_length_le pa (by omega) (by omega)
            rw [hxn] at l1
            have HXN := hide hxn
            obtain ⟨xv, hxv⟩ : ∃ x, vtx pt ps = x := ⟨_, rfl⟩
            have l2 := vtx_len pt ps (by omega)
            rw [hxv] at l2
            have HXV := hide hxv
            have i0 : (0 : Int) ≤ (k : Int) := by omega
            have i1 : (k : Int) < (m9 : Int) := by omega
            obtain ⟨q1, hq1⟩ : ∃ q, q = [32] ++ xn := ⟨_, rfl⟩
            obtain ⟨q2, hq2⟩ : ∃ q, q = q1 ++ xv := ⟨_, rfl⟩
            obtain ⟨q3, hq3⟩ : ∃ q, q = acc ++ q2 := ⟨_, rfl⟩
            have le1 : q1.length = 1 + xn.length := by rw [hq1]; simp; omega
            have le2 : q2.length = q1.length + xv.length := by rw [hq2]; simp
            have le3 : q3.length = acc.length + q2.length := by rw [hq3]; simp
            have HLE : Hid (q3.length ≤ 3 + 70 * (k + 1)) := hide (by omega)
            have y1 : ¬ 9223372036854775807 < 1 + xn.length := by omega
            have y2 : ¬ 9223372036854775807 < q1.length + xv.length := by omega
            have y3 : ¬ 9223372036854775807 < acc.length + q2.length := by omega
            have mk1 : ByteArray.mk #[32] ++ ByteArray.mk xn.toArray = ByteArray.mk q1.toArray := by rw [hq1]; exact mk_app [32] xn
            have mk2 : ByteArray.mk q1.toArray ++ ByteArray.mk xv.toArray = ByteArray.mk q2.toArray := by rw [hq2]; exact mk_app q1 xv
            have mk3 : ByteArray.mk acc.toArray ++ ByteArray.mk q2.toArray = ByteArray.mk q3.toArray := by rw [hq3]; exact mk_app acc q2
            have HQ3 := hide hq3
            have HQ2 := hide hq2
            have HQ1 := hide hq1
            clear hp hs9 hxn hxv kl hq1 hq2 hq3 le1 le2 le3
            go_wp2_with fail
            refine wp_region_held_drew (S := fun w' => w'.cell? ⟨p6, 4, none⟩ = some (.slice (some ⟨g9, o9, none⟩) m9 c9) ∧ w'.cell? ⟨g9, o9 + k * 3, none⟩ = some (.int .i64 pa) ∧ w'.cell? ⟨g9, o9 + k * 3 + 1, none⟩ = some (.bool pt) ∧ w'.cell? ⟨g9, o9 + k * 3 + 1 + 1, none⟩ = some (.string ps)) (by kernel_rfl) ⟨((Kp.refl [] wr).drew).cell (by simp) f4, ((Kp.refl [] wr).drew).cell (by simp) z0, ((Kp.refl [] wr).drew).cell (by simp) z1, ((Kp.refl [] wr).drew).cell (by simp) z2⟩ (fun hHeld => ?_)
            have HY0 := hide ((Kp.refl [] wr).drew)
            generalize World.drew _ = WD at HY0 hHeld ⊢
            refine wpAnyH_tk (i := 0) (v := ?_) rfl (by kernel_rfl) (by kernel_rfl) (by kernel_rfl) (fun _ _ _ h => h) (Or.inl ⟨by rfl, ?_⟩) hHeld ?_
            rotate_left
            · intro w hSw
              try dsimp only at hSw
              go_simp
              try with_reducible rfl
            try simp only [Act.put, List.setIfInBounds_toArray, List.set_cons_zero, List.set_cons_succ]
            refine wpAnyH_tk (i := 1) (v := ?_) rfl (by kernel_rfl) (by kernel_rfl) (by kernel_rfl) (fun _ _ _ h => h) (Or.inl ⟨by rfl, ?_⟩) hHeld ?_
            rotate_left
            · intro w hSw
              try dsimp only at hSw
              go_simp
              try with_reducible rfl
            try simp only [Act.put, List.setIfInBounds_toArray, List.set_cons_zero, List.set_cons_succ]
            refine wpAnyH_tk (i := 2) (v := ?_) rfl (by kernel_rfl) (by kernel_rfl) (by kernel_rfl) (fun _ _ _ h => h) (Or.inl ⟨by rfl, ?_⟩) hHeld ?_
            rotate_left
            · intro w hSw
              try dsimp only at hSw
              go_simp
              try with_reducible rfl
            try simp only [Act.put, List.setIfInBounds_toArray, List.set_cons_zero, List.set_cons_succ]
            refine wpAnyH_tk (i := 3) (v := ?_) rfl (by kernel_rfl) (by kernel_rfl) (by kernel_rfl) (fun _ _ _ h => h) (Or.inl ⟨by rfl, ?_⟩) hHeld ?_
            rotate_left
            · intro w hSw
              try dsimp only at hSw
              go_simp
              try with_reducible rfl
            try simp only [Act.put, List.setIfInBounds_toArray, List.set_cons_zero, List.set_cons_succ]
            refine wpAnyH_tk (i := 4) (v := ?_) rfl (by kernel_rfl) (by kernel_rfl) (by kernel_rfl) (fun _ _ _ h => h) (Or.inl ⟨by rfl, ?_⟩) hHeld ?_
            rotate_left
            · intro w hSw
              try dsimp only at hSw
              go_simp
              try with_reducible rfl
            try simp only [Act.put, List.setIfInBounds_toArray, List.set_cons_zero, List.set_cons_succ]
            refine wpAnyH_tk (i := 5) (v := ?_) rfl (by kernel_rfl) (by kernel_rfl) (by kernel_rfl) (fun _ _ _ h => h) (Or.inl ⟨by rfl, ?_⟩) hHeld ?_
            rotate_left
            · intro w hSw
              try dsimp only at hSw
              go_simp
              try with_reducible rfl
            try simp only [Act.put, List.setIfInBounds_toArray, List.set_cons_zero, List.set_cons_succ]
            refine wpAnyH_tk (i := 6) (v := ?_) rfl (by kernel_rfl) (by kernel_rfl) (by kernel_rfl) (fun _ _ _ h => h) (Or.inl ⟨by rfl, ?_⟩) hHeld ?_
            rotate_left
            · intro w hSw
              try dsimp only at hSw
              go_simp
              try with_reducible rfl
            try simp only [Act.put, List.setIfInBounds_toArray, List.set_cons_zero, List.set_cons_succ]
            refine wpAnyH_tk (i := 9) (v := ?_) rfl (by kernel_rfl) (by kernel_rfl) (by kernel_rfl) (fun _ _ _ h => h) (Or.inl ⟨by rfl, ?_⟩) hHeld ?_
            rotate_left
            · intro w hSw
              try dsimp only at hSw
              go_simp
              try with_reducible rfl
            try simp only [Act.put, List.setIfInBounds_toArray, List.set_cons_zero, List.set_cons_succ]
            refine wpAnyH_tk (i := 10) (v := ?_) rfl (by kernel_rfl) (by kernel_rfl) (by kernel_rfl) (fun _ _ _ h => h) (Or.inl ⟨by rfl, ?_⟩) hHeld ?_
            rotate_left
            · intro w hSw
              try dsimp only at hSw
              go_simp
              try with_reducible rfl
            try simp only [Act.put, List.setIfInBounds_toArray, List.set_cons_zero, List.set_cons_succ]
            refine wpAnyH_tk (i := 11) (v := ?_) rfl (by kernel_rfl) (by kernel_rfl) (by kernel_rfl) (fun _ _ _ h => h) (Or.inl ⟨by rfl, ?_⟩) hHeld ?_
            rotate_left
            · intro w hSw
              try dsimp only at hSw
              go_simp
              try with_reducible rfl
            try simp only [Act.put, List.setIfInBounds_toArray, List.set_cons_zero, List.set_cons_succ]
            refine wpAnyH_tk (i := 12) (v := ?_) rfl (by kernel_rfl) (by kernel_rfl) (by kernel_rfl) (fun _ _ _ h => h) (Or.inl ⟨by rfl, ?_⟩) hHeld ?_
            rotate_left
            · intro w hSw
              try dsimp only at hSw
              go_simp
              try with_reducible rfl
            try simp only [Act.put, List.setIfInBounds_toArray, List.set_cons_zero, List.set_cons_succ]
            refine wpAnyH_tk (i := 13) (v := ?_) rfl (by kernel_rfl) (by kernel_rfl) (by kernel_rfl) (fun _ _ _ h => h) (Or.inl ⟨by rfl, ?_⟩) hHeld ?_
            rotate_left
            · intro w hSw
              try dsimp only at hSw
              go_simp
              try with_reducible rfl
            try simp only [Act.put, List.setIfInBounds_toArray, List.set_cons_zero, List.set_cons_succ]
            refine wpAnyH_tk (i := 14) (v := ?_) rfl (by kernel_rfl) (by kernel_rfl) (by kernel_rfl) (fun _ _ _ h => h) (Or.inl ⟨by rfl, ?_⟩) hHeld ?_
            rotate_left
            · intro w hSw
              try dsimp only at hSw
              go_simp
              try with_reducible rfl
            try simp only [Act.put, List.setIfInBounds_toArray, List.set_cons_zero, List.set_cons_succ]
            refine wpAnyH_only (i := 7) rfl (by kernel_rfl) (fun K hK => ?_)
            go_simp
            refine (rnum pa _ (gnd_kp (unhide HG) ((unhide HZE).kp.trans0 ((unhide HQ).trans0 (unhide HY0)))) (by omega) (by omega)).mono ?_
            rintro e w5 ⟨he, hk5⟩
            rw [unhide HXN] at he
            subst he
            have HY1 := hide ((unhide HY0).trans0 hk5)
            clear hk5
            go_wp2_with fail
            refine hK.out _ _ (⟨(unhide HY1).cell (by simp) f4, (unhide HY1).cell (by simp) z0, (unhide HY1).cell (by simp) z1, (unhide HY1).cell (by simp) z2⟩) (fun hHeld2 => ?_)
            clear hK K hHeld
            have hHeld := hHeld2
            clear hHeld2
            try simp only [Act.put, List.setIfInBounds_toArray, List.set_cons_zero, List.set_cons_succ]
            refine wpAnyH_tk (i := 8) (v := ?_) rfl (by kernel_rfl) (by kernel_rfl) (by kernel_rfl) (fun _ _ _ h => h) (Or.inl ⟨by rfl, ?_⟩) hHeld ?_
            rotate_left
            · intro w hSw
              try dsimp only at hSw
              go_simp
              try with_reducible rfl
            try simp only [Act.put, List.setIfInBounds_toArray, List.set_cons_zero, List.set_cons_succ]
            refine wpAnyH_only (i := 15) rfl (by kernel_rfl) (fun K hK => ?_)
            go_simp
            refine (rvalue pt ps _ (by omega)).mono ?_
            rintro e w6 ⟨he, hk6⟩
            rw [unhide HXV] at he
            subst he
            have HY2 := hide ((unhide HY1).trans0 (kp_of_below hk6))
            clear hk6
            go_wp2_with fail
            refine hK.out _ _ (⟨(unhide HY2).cell (by simp) f4, (unhide HY2).cell (by simp) z0, (unhide HY2).cell (by simp) z1, (unhide HY2).cell (by simp) z2⟩) (fun hHeld2 => ?_)
            clear hK K hHeld
            have hHeld := hHeld2
            clear hHeld2
            try simp only [Act.put, List.setIfInBounds_toArray, List.set_cons_zero, List.set_cons_succ]
            refine wpAnyH_tk (i := 16) (v := ?_) rfl (by kernel_rfl) (by kernel_rfl) (by kernel_rfl) (fun _ _ _ h => h) (Or.inl ⟨by rfl, ?_⟩) hHeld ?_
            rotate_left
            · intro w hSw
              try dsimp only at hSw
              go_simp
              try with_reducible rfl
            try simp only [Act.put, List.setIfInBounds_toArray, List.set_cons_zero, List.set_cons_succ]
            refine wpAnyH_tk (i := 17) (v := ?_) rfl (by kernel_rfl) (by kernel_rfl) (by kernel_rfl) (fun _ _ _ h => h) (Or.inl ⟨by rfl, ?_⟩) hHeld ?_
            rotate_left
            · intro w hSw
              try dsimp only at hSw
              go_simp
              try with_reducible rfl
            try simp only [Act.put, List.setIfInBounds_toArray, List.set_cons_zero, List.set_cons_succ]
            refine wpAnyH_tk (i := 18) (v := ?_) rfl (by kernel_rfl) (by kernel_rfl) (by kernel_rfl) (fun _ _ _ h => h) (Or.inl ⟨by rfl, ?_⟩) hHeld ?_
            rotate_left
            · intro w hSw
              try dsimp only at hSw
              go_simp
              try with_reducible rfl
            try simp only [Act.put, List.setIfInBounds_toArray, List.set_cons_zero, List.set_cons_succ]
            refine wpAnyH_done (by kernel_rfl) ?_ _
            clear hHeld
            go_wp2_with fail
            refine ⟨⟨k + 1, q3, by omega, rfl, by go_num, unhide HLE, ?_, (unhide HQ).trans0 (unhide HY2)⟩, by simp [intOf]; omega⟩
            exact hide (by rw [unhide HQ3, unhide HQ2, unhide HQ1, unhide HAC, jt_snoc (unhide HP)]; dsimp only; rw [unhide HXN, unhide HXV]; simp)
          · have hkm : k = m9 := by omega
            subst hkm
            have i1 : ¬ (k : Int) < (k : Int) := by omega
            have hac : acc = [97, 108, 108] ++ jt vl := by rw [unhide HAC, List.take_of_length_le (by rw [← unhide HM9]; omega)]
            have hl2 : told.length + (acc.length + 1) ≤ 200000 := by rw [hac]; simpa using hlen
            have HT3 := hide (show t2 = acc ++ [10] by rw [hac]; exact unhide HT4)
            clear hac hlen
            go_wp2_with (go_at_call 34; refine (rsay (l1 := [_, _, _]) acc ((unhide HZE).kp0 (unhide HQ)) hl2).mono ?_; rintro e w8 ⟨rfl, HZ8⟩)
            go_end0
            rw [unhide HT3]
            exact ⟨rfl, Zoo.drop_ (l1 := [_]) (Zoo.drop_ (l1 := [_]) (unhide HZ8))⟩
    by_cases h6 : xd = 6
    · as_aux_lemma =>
        subst h6
        obtain ⟨xn, hxn⟩ : ∃ x, Lib.itoa vn = x := ⟨_, rfl⟩
        have HXN := hide hxn
        have l1 := Lib.itoa_length_le vn (by omega) (by omega)
        rw [hxn] at l1
        have ht3 : t2 = ([111, 107, 32] ++ xn) ++ [10] := by rw [unhide HT2]; unfold tell telk; rw [if_neg (by simp), if_neg (by decide), if_neg (by decide), if_pos (by decide)]; rw [hxn]; simp [say, Lib.join, List.intercalate]
        obtain ⟨q1, hq1⟩ : ∃ q, q = [111, 107, 32] ++ xn := ⟨_, rfl⟩
        have mk1 : ByteArray.mk #[111, 107, 32] ++ ByteArray.mk xn.toArray = ByteArray.mk q1.toArray := by rw [hq1]; exact mk_app [111, 107, 32] xn
        have ht2 : t2 = q1 ++ [10] := by rw [hq1, ht3]
        subst ht2
        have hl2 : told.length + (q1.length + 1) ≤ 200000 := by simpa using hlen
        have y1 : ¬ 9223372036854775807 < 3 + xn.length := by omega
        clear hxn hq1 hlen ht3
        go_wp2_with (first | (go_at_call 36; refine (rnum vn wc (gnd_kp (unhide HG) (unhide HZE).kp) (by omega) (by omega)).mono ?_; rintro e w7 ⟨he, hk7⟩; rw [unhide HXN] at he; subst he; have HZ7 := hide ((unhide HZE).kp0 hk7); clear hk7) | (go_at_call 34; refine (rsay (l1 := [_, _, _]) q1 (unhide HZ7) hl2).mono ?_; rintro e w8 ⟨rfl, HZ8⟩))
        go_end0
        exact ⟨rfl, Zoo.drop_ (l1 := [_]) (Zoo.drop_ (l1 := [_]) (unhide HZ8))⟩
    by_cases h8 : xd = 8
    · as_aux_lemma =>
        subst h8
        obtain ⟨xn, hxn⟩ : ∃ x, Lib.itoa vn = x := ⟨_, rfl⟩
        have HXN := hide hxn
        have l1 := Lib.itoa_length_le vn (by omega) (by omega)
        rw [hxn] at l1
        have ht3 : t2 = ([111, 107, 32] ++ xn) ++ [10] := by rw [unhide HT2]; unfold tell telk; rw [if_neg (by simp), if_neg (by decide), if_neg (by decide), if_pos (by decide)]; rw [hxn]; simp [say, Lib.join, List.intercalate]
        obtain ⟨q1, hq1⟩ : ∃ q, q = [111, 107, 32] ++ xn := ⟨_, rfl⟩
        have mk1 : ByteArray.mk #[111, 107, 32] ++ ByteArray.mk xn.toArray = ByteArray.mk q1.toArray := by rw [hq1]; exact mk_app [111, 107, 32] xn
        have ht2 : t2 = q1 ++ [10] := by rw [hq1, ht3]
        subst ht2
        have hl2 : told.length + (q1.length + 1) ≤ 200000 := by simpa using hlen
        have y1 : ¬ 9223372036854775807 < 3 + xn.length := by omega
        clear hxn hq1 hlen ht3
        go_wp2_with (first | (go_at_call 36; refine (rnum vn wc (gnd_kp (unhide HG) (unhide HZE).kp) (by omega) (by omega)).mono ?_; rintro e w7 ⟨he, hk7⟩; rw [unhide HXN] at he; subst he; have HZ7 := hide ((unhide HZE).kp0 hk7); clear hk7) | (go_at_call 34; refine (rsay (l1 := [_, _, _]) q1 (unhide HZ7) hl2).mono ?_; rintro e w8 ⟨rfl, HZ8⟩))
        go_end0
        exact ⟨rfl, Zoo.drop_ (l1 := [_]) (Zoo.drop_ (l1 := [_]) (unhide HZ8))⟩
    by_cases h10 : xd = 10
    · as_aux_lemma =>
        subst h10
        obtain ⟨xn, hxn⟩ : ∃ x, Lib.itoa vn = x := ⟨_, rfl⟩
        have HXN := hide hxn
        have l1 := Lib.itoa_length_le vn (by omega) (by omega)
        rw [hxn] at l1
        have ht3 : t2 = ([111, 107, 32] ++ xn) ++ [10] := by rw [unhide HT2]; unfold tell telk; rw [if_neg (by simp), if_neg (by decide), if_neg (by decide), if_pos (by decide)]; rw [hxn]; simp [say, Lib.join, List.intercalate]
        obtain ⟨q1, hq1⟩ : ∃ q, q = [111, 107, 32] ++ xn := ⟨_, rfl⟩
        have mk1 : ByteArray.mk #[111, 107, 32] ++ ByteArray.mk xn.toArray = ByteArray.mk q1.toArray := by rw [hq1]; exact mk_app [111, 107, 32] xn
        have ht2 : t2 = q1 ++ [10] := by rw [hq1, ht3]
        subst ht2
        have hl2 : told.length + (q1.length + 1) ≤ 200000 := by simpa using hlen
        have y1 : ¬ 9223372036854775807 < 3 + xn.length := by omega
        clear hxn hq1 hlen ht3
        go_wp2_with (first | (go_at_call 36; refine (rnum vn wc (gnd_kp (unhide HG) (unhide HZE).kp) (by omega) (by omega)).mono ?_; rintro e w7 ⟨he, hk7⟩; rw [unhide HXN] at he; subst he; have HZ7 := hide ((unhide HZE).kp0 hk7); clear hk7) | (go_at_call 34; refine (rsay (l1 := [_, _, _]) q1 (unhide HZ7) hl2).mono ?_; rintro e w8 ⟨rfl, HZ8⟩))
        go_end0
        exact ⟨rfl, Zoo.drop_ (l1 := [_]) (Zoo.drop_ (l1 := [_]) (unhide HZ8))⟩
    as_aux_lemma =>
      have b2 : (xd == 2) = false := by simpa using h2x
      have b5 : (xd == 5) = false := by simpa using h5
      have b6 : (xd == 6) = false := by simpa using h6
      have b8 : (xd == 8) = false := by simpa using h8
      have b10 : (xd == 10) = false := by simpa using h10
      have ht2 : t2 = [111, 107] ++ [10] := by rw [unhide HT2]; unfold tell telk; rw [if_neg (by simp), if_neg h2x, if_neg h5, if_neg (by omega)]; simp [say, Lib.join, List.intercalate]
      subst ht2
      have hl2 : told.length + (([111, 107] : List UInt8).length + 1) ≤ 200000 := by simpa using hlen
      go_wp2_with (go_at_call 34; refine (rsay (l1 := [_, _, _]) [111, 107] (unhide HZE) hl2).mono ?_; rintro e w8 ⟨rfl, HZ8⟩)
      go_end0
      exact ⟨rfl, Zoo.drop_ (l1 := [_]) (Zoo.drop_ (l1 := [_]) (unhide HZ8))⟩
  · as_aux_lemma =>
      have hcb : (vc != 0) = true := by simpa using hc
      obtain ⟨xn, hxn⟩ : ∃ x, Lib.itoa vc = x := ⟨_, rfl⟩
      have HXN := hide hxn
      have l1 := Lib.itoa_length_le vc (by omega) (by omega)
      rw [hxn] at l1
      have ht3 : t2 = ([110, 111, 32] ++ xn) ++ [10] := by rw [unhide HT2]; unfold tell; rw [if_pos hc]; rw [hxn]; simp [say, Lib.join, List.intercalate]
      obtain ⟨q1, hq1⟩ : ∃ q, q = [110, 111, 32] ++ xn := ⟨_, rfl⟩
      have mk1 : ByteArray.mk #[110, 111, 32] ++ ByteArray.mk xn.toArray = ByteArray.mk q1.toArray := by rw [hq1]; exact mk_app [110, 111, 32] xn
      have ht2 : t2 = q1 ++ [10] := by rw [hq1, ht3]
      subst ht2
      have hl2 : told.length + (q1.length + 1) ≤ 200000 := by simpa using hlen
      have y1 : ¬ 9223372036854775807 < 3 + xn.length := by omega
      clear hxn hq1 hlen ht3
      go_wp2_with (first | (go_at_call 36; refine (rnum vc wc (gnd_kp (unhide HG) (unhide HZE).kp) (by omega) (by omega)).mono ?_; rintro e w7 ⟨he, hk7⟩; rw [unhide HXN] at he; subst he; have HZ7 := hide ((unhide HZE).kp0 hk7); clear hk7) | (go_at_call 34; refine (rsay (l1 := [_, _, _]) q1 (unhide HZ7) hl2).mono ?_; rintro e w8 ⟨rfl, HZ8⟩))
      go_end0
      exact ⟨rfl, Zoo.drop_ (l1 := [_]) (Zoo.drop_ (l1 := [_]) (unhide HZ8))⟩
end
/- The document's line: its step is done. -/
section
open Go.RowKit
set_option maxRecDepth 1000000
attribute [local go_sem ↓] Go.wp_at_zero Go.wp_at_succ

set_option maxHeartbeats 32000000 in
theorem rdoes {w0 wc : World} {r : List Thing} {rd cb pX : Nat} {told t2 : List UInt8} {h2 : HSt} {h : HSt} {m : Nat} {x : HStep} {u1 u2 u3 u4 u5 u6 u7 u8 u9 u10 u11 u12 u13 u14 u16 u17 u18 u19 u20 u21 u22 u23 u24 u25 u26 u27 u28 u29 u30 u31 u32 u33 u34 u35 u36 u37 u38 u39 u40 u41 u42 u43 u44 u45 u46 u47 u48 u49 u50 u51 u52 u53 u54 u55 u56 u57 u58 u59 u60 u61 u62 u63 u64 u65 u66 u67 u68 u69 u70 u71 u72 u73 u74 u75 u76 u77 u78 u79 u80 u81 u82 u83 u84 u85 u86 u87 u88 u89 u90 u91 u92 u93 u94 u95 u96 u97 u98 u99 u100 u101 u102 u103 u104 u105 u106 u107 u108 u109 u110 u111 u112 u113 u114 u115 u116 u117 u118 u119 u120 u121 u122 u123 u124 u125 u126 u127 u128 u129 u130 u131 u132 u133 u134 u135 u136 u137 u138 u139 u140 u141 u142 u143 u144 u145 u146 u147 u148 u149 u150 u151 u152 u153 u154 u155 u156 u157 u158 u159 u160 u161 u162 u163 u164 u165 u166 u167 u168 u169 u170 u171 u172 u173 u174 u175 u176 u177 u178 u179 u180 u181 u182 u183 u184 u185 u186 u187 u188 u189 u190 u191 u192 u193 u194 u195 u196 u197 u198 u199 u200 u201 u202 u203 u204 u205 u206 u207 u208 u209 u210 u211 u212 u213 u214 u215 u216 u217 u218 u219 u220 u221 u222 u223 u224 u225 u226 u227 u228 u229 u230 u231 u232 u233 u234 u235 u236 u237 u238 u239 u240 u241 u242 u243 u244 u245 u246 u247 u248 u249 u250 u251 u252 u253 u254 u255 u256 u257 u258 u259 u260 u261 u262 u263 u264 u265 u266 u267 u268 u269 u270 u271 u272 u273 u274 u275 u276 u277 u278 u279 u280 u281 u282 u283 u284 u285 u286 u287 u288 u289 u290 u291 u292 u293 u294 u295 u296 u297 u298 u299 u300 u301 u302 u303 u304 u305 u306 u307 u308 u309 u310 u311 u312 u313 u314 u315 : Value}
    (hm : m ≤ 300) (HLM : Hid (DLen h m)) (hxs : x.b.size ≤ 10000) (HG : Hid (Gnd w0)) (hlen : told.length + t2.length ≤ 200000) (HH2 : Hid (h2 = hdo h x)) (HT2 : Hid (t2 = say (tell x.d (hev h x))))
    (HZC : Hid (Zoo w0 wc (CouT cb h :: BoxT pX (xcs x) 79 :: BoxT rd (rdc told cb) 50 :: r))) :
    Code.wp Tryz.prog (cnext (cnext (cnext (cnext (cnext (cnext (cnext (cnext (cnext (cnext (cnext (cnext (cnext (cnext (cnext (Tryz.f19.body.getD .skip)))))))))))))))) (bodyPost Tryz.prog Tryz.f19 fun e w' => e = .returned (.tuple #[]) ∧ Hid (Zoo w0 w' (CouT cb h2 :: BoxT rd (rdc (told ++ t2) cb) 50 :: r))) { tmps := (.pointer (some ⟨rd, 0, none⟩) :: u1 :: u2 :: u3 :: u4 :: u5 :: u6 :: u7 :: u8 :: u9 :: u10 :: u11 :: u12 :: u13 :: u14 :: .pointer (some ⟨pX, 0, none⟩) :: u16 :: u17 :: u18 :: u19 :: u20 :: u21 :: u22 :: u23 :: u24 :: u25 :: u26 :: u27 :: u28 :: u29 :: u30 :: u31 :: u32 :: u33 :: u34 :: u35 :: u36 :: u37 :: u38 :: u39 :: u40 :: u41 :: u42 :: u43 :: u44 :: u45 :: u46 :: u47 :: u48 :: u49 :: u50 :: u51 :: u52 :: u53 :: u54 :: u55 :: u56 :: u57 :: u58 :: u59 :: u60 :: u61 :: u62 :: u63 :: u64 :: u65 :: u66 :: u67 :: u68 :: u69 :: u70 :: u71 :: u72 :: u73 :: u74 :: u75 :: u76 :: u77 :: u78 :: u79 :: u80 :: u81 :: u82 :: u83 :: u84 :: u85 :: u86 :: u87 :: u88 :: u89 :: u90 :: u91 :: u92 :: u93 :: u94 :: u95 :: u96 :: u97 :: u98 :: u99 :: u100 :: u101 :: u102 :: u103 :: u104 :: u105 :: u106 :: u107 :: u108 :: u109 :: u110 :: u111 :: u112 :: u113 :: u114 :: u115 :: u116 :: u117 :: u118 :: u119 :: u120 :: u121 :: u122 :: u123 :: u124 :: u125 :: u126 :: u127 :: u128 :: u129 :: u130 :: u131 :: u132 :: u133 :: u134 :: u135 :: u136 :: u137 :: u138 :: u139 :: u140 :: u141 :: u142 :: u143 :: u144 :: u145 :: u146 :: u147 :: u148 :: u149 :: u150 :: u151 :: u152 :: u153 :: u154 :: u155 :: u156 :: u157 :: u158 :: u159 :: u160 :: u161 :: u162 :: u163 :: u164 :: u165 :: u166 :: u167 :: u168 :: u169 :: u170 :: u171 :: u172 :: u173 :: u174 :: u175 :: u176 :: u177 :: u178 :: u179 :: u180 :: u181 :: u182 :: u183 :: u184 :: u185 :: u186 :: u187 :: u188 :: u189 :: u190 :: u191 :: u192 :: u193 :: u194 :: u195 :: u196 :: u197 :: u198 :: u199 :: u200 :: u201 :: u202 :: u203 :: u204 :: u205 :: u206 :: u207 :: u208 :: u209 :: u210 :: u211 :: u212 :: u213 :: u214 :: u215 :: u216 :: u217 :: u218 :: u219 :: u220 :: u221 :: u222 :: u223 :: u224 :: u225 :: u226 :: u227 :: u228 :: u229 :: u230 :: u231 :: u232 :: u233 :: u234 :: u235 :: u236 :: u237 :: u238 :: u239 :: u240 :: u241 :: u242 :: u243 :: u244 :: u245 :: u246 :: u247 :: u248 :: u249 :: u250 :: u251 :: u252 :: u253 :: u254 :: u255 :: u256 :: u257 :: u258 :: u259 :: u260 :: u261 :: u262 :: u263 :: u264 :: u265 :: u266 :: u267 :: u268 :: u269 :: u270 :: u271 :: u272 :: u273 :: u274 :: u275 :: u276 :: u277 :: u278 :: u279 :: u280 :: u281 :: u282 :: u283 :: u284 :: u285 :: u286 :: u287 :: u288 :: u289 :: u290 :: u291 :: u292 :: u293 :: u294 :: u295 :: u296 :: u297 :: u298 :: u299 :: u300 :: u301 :: u302 :: u303 :: u304 :: u305 :: u306 :: u307 :: u308 :: u309 :: u310 :: u311 :: u312 :: u313 :: u314 :: u315 :: []).toArray, defers := [] } wc := by
  conv => arg 2; whnf
  obtain ⟨_, _, _, _, _, hinv⟩ := cou_see (l1 := []) (unhide HZC)
  have hvs := hev_small hinv x
  have hvt := hev_t h x
  have hd : ∀ (W : World) (r1 : List Thing), Zoo w0 W (CouT cb h :: r1) → Calls Tryz.prog 39 #[.pointer (some ⟨cb, 0, none⟩), .agg #[.int .i64 x.d, .int .i64 x.s, .int .i64 x.md, .int .i64 x.at_, .int .i64 x.key, .int .i64 x.to_, .int .i64 x.keep, .string x.b]] W fun e w' => ∃ a cap, e = .returned (.agg #[.int .i64 (hev h x).c, .int .i64 (hev h x).n, .bool (hev h x).t, .string (hev h x).s, .slice a (hev h x).l.length cap]) ∧ Hid (SlO w' a (hev h x).l) ∧ Hid (Zoo w0 w' (CouT cb h2 :: r1)) := fun W r1 hz1 => by
    have q := cou_do x hm (by unfold maxLen; omega) (unhide HLM) hz1
    rw [← unhide HH2] at q
    exact q
  clear HH2 hinv HLM hxs
  generalize hev h x = v at *
  obtain ⟨xd, xs, xm, xa, xk, xt, xp, xb⟩ := x
  obtain ⟨vc, vn, vu, vw, vl⟩ := v
  dsimp only at hvt hd HT2
  have v0 := hvs.c0
  have v1 := hvs.c1
  have v2 := hvs.n0
  have v3 := hvs.n1
  have v4 := hvs.s
  have HVL := hide hvs.l
  have v5 := hvs.len
  dsimp only at v0 v1 v2 v3 v4 HVL v5
  clear hvs
  obtain ⟨m9, hm9⟩ : ∃ m, m = vl.length := ⟨_, rfl⟩
  rw [← hm9] at hd v5
  have HM9 := hide hm9
  have HD := hide hd
  have HVT := hide hvt
  clear hd hvt hm9
  go_upto_region 56 with fail
  go_cut [16] from 19 (fun s16 w' => ∃ (p6 : Nat) (a9 : Option Addr) (c9 : Nat), s16 = .pointer (some ⟨p6, 0, none⟩) ∧ Hid (Zoo w0 w' (CouT cb h2 :: BoxT p6 #[.int .i64 vc, .int .i64 vn, .bool vu, .string vw, .slice a9 m9 c9] 102 :: BoxT pX (xcs ⟨xd, xs, xm, xa, xk, xt, xp, xb⟩) 79 :: BoxT rd (rdc told cb) 50 :: r)) ∧ Hid (SlO w' a9 vl))
  case first =>
    refine wp_region_held_drew (S := fun w' => w'.cell? ⟨rd, 1, none⟩ = some (.pointer (some ⟨cb, 0, none⟩)) ∧ w'.cell? ⟨pX, 0, none⟩ = some (.int .i64 xd) ∧ w'.cell? ⟨pX, 1, none⟩ = some (.int .i64 xs) ∧ w'.cell? ⟨pX, 1 + 1, none⟩ = some (.int .i64 xm) ∧ w'.cell? ⟨pX, 1 + 1 + 1, none⟩ = some (.int .i64 xa) ∧ w'.cell? ⟨pX, 1 + 1 + 1 + 1, none⟩ = some (.int .i64 xk) ∧ w'.cell? ⟨pX, 1 + 1 + 1 + 1 + 1, none⟩ = some (.int .i64 xt) ∧ w'.cell? ⟨pX, 1 + 1 + 1 + 1 + 1 + 1, none⟩ = some (.int .i64 xp) ∧ w'.cell? ⟨pX, 1 + 1 + 1 + 1 + 1 + 1 + 1, none⟩ = some (.string xb)) (by kernel_rfl) ⟨cell_of_block (zoo_varm ((unhide HZC).kp0 (Kp.refl [] wc).drew) (List.Mem.tail _ (List.Mem.tail _ (List.Mem.head _)))) rfl, x8_of (zoo_varm ((unhide HZC).kp0 (Kp.refl [] wc).drew) (List.Mem.tail _ (List.Mem.head _)))⟩ (fun hHeld => ?_)
    have HA0 := hide ((unhide HZC).kp0 (Kp.refl [] wc).drew)
    generalize World.drew _ = WD at HA0 hHeld ⊢
    refine wpAnyH_tk (i := 0) (v := ?_) rfl (by kernel_rfl) (by kernel_rfl) (by kernel_rfl) (fun _ _ _ h => h) (Or.inl ⟨by rfl, ?_⟩) hHeld ?_
    rotate_left
    · intro w hSw
      try dsimp only at hSw
      go_simp
      try with_reducible rfl
    try simp only [Act.put, List.setIfInBounds_toArray, List.set_cons_zero, List.set_cons_succ]
    refine wpAnyH_tk (i := 1) (v := ?_) rfl (by kernel_rfl) (by kernel_rfl) (by kernel_rfl) (fun _ _ _ h => h) (Or.inl ⟨by rfl, ?_⟩) hHeld ?_
    rotate_left
    · intro w hSw
      try dsimp only at hSw
      go_simp
      try with_reducible rfl
    try simp only [Act.put, List.setIfInBounds_toArray, List.set_cons_zero, List.set_cons_succ]
    refine wpAnyH_tk (i := 2) (v := ?_) rfl (by kernel_rfl) (by kernel_rfl) (by kernel_rfl) (fun _ _ _ h => h) (Or.inl ⟨by rfl, ?_⟩) hHeld ?_
    rotate_left
    · intro w hSw
      try dsimp only at hSw
      go_simp
      try with_reducible rfl
    try simp only [Act.put, List.setIfInBounds_toArray, List.set_cons_zero, List.set_cons_succ]
    refine wpAnyH_tk (i := 3) (v := ?_) rfl (by kernel_rfl) (by kernel_rfl) (by kernel_rfl) (fun _ _ _ h => h) (Or.inl ⟨by rfl, ?_⟩) hHeld ?_
    rotate_left
    · intro w hSw
      try dsimp only at hSw
      go_simp
      try with_reducible rfl
    try simp only [Act.put, List.setIfInBounds_toArray, List.set_cons_zero, List.set_cons_succ]
    refine wpAnyH_tk (i := 4) (v := ?_) rfl (by kernel_rfl) (by kernel_rfl) (by kernel_rfl) (fun _ _ _ h => h) (Or.inl ⟨by rfl, ?_⟩) hHeld ?_
    rotate_left
    · intro w hSw
      try dsimp only at hSw
      go_simp
      try with_reducible rfl
    try simp only [Act.put, List.setIfInBounds_toArray, List.set_cons_zero, List.set_cons_succ]
    refine wpAnyH_two (i := 5) (j := 6) rfl rfl (by kernel_rfl) (fun K hK => ?_) (fun K hK => ?_)
    · as_aux_lemma =>
        go_simp
        refine (unhide HD WD _ (unhide HA0)).mono ?_
        rintro e w3 ⟨a9, c9, rfl, HSL, HA1⟩
        go_wp2_with fail
        refine hK.out _ _ (⟨cell_of_block (zoo_varm (unhide HA1) (List.Mem.tail _ (List.Mem.tail _ (List.Mem.head _)))) rfl, x8_of (zoo_varm (unhide HA1) (List.Mem.tail _ (List.Mem.head _)))⟩) (fun hHeld2 => ?_)
        clear hK K hHeld
        have hHeld := hHeld2
        clear hHeld2
        try simp only [Act.put, List.setIfInBounds_toArray, List.set_cons_zero, List.set_cons_succ]
        refine wpAnyH_only (i := 6) rfl (by kernel_rfl) (fun K hK => ?_)
        go_simp
        have HA2 := hide ((unhide HA1).box #[.int .i64 0, .int .i64 0, .bool false, .string ⟨#[]⟩, .slice none 0 0] 102)
        refine hK.out _ _ (⟨cell_of_block (zoo_varm (unhide HA2) (List.Mem.tail _ (List.Mem.tail _ (List.Mem.tail _ (List.Mem.head _))))) rfl, x8_of (zoo_varm (unhide HA2) (List.Mem.tail _ (List.Mem.tail _ (List.Mem.head _))))⟩) (fun hHeld2 => ?_)
        clear hK K hHeld
        have hHeld := hHeld2
        clear hHeld2
        try simp only [Act.put, List.setIfInBounds_toArray, List.set_cons_zero, List.set_cons_succ]
        have HSL := hide ((unhide HSL).kp0 ((Kp.refl [] w3).alloc (.cells #[.int .i64 0, .int .i64 0, .bool false, .string ⟨#[]⟩, .slice none 0 0] 102)))
        generalize w3.alloc (.cells #[.int .i64 0, .int .i64 0, .bool false, .string ⟨#[]⟩, .slice none 0 0] 102) = W6 at *
        generalize w3.heap.size = p6 at *
        refine wpAnyH_only (i := 7) rfl (by kernel_rfl) (fun K hK => ?_)
        rw [if_pos (by rfl)]
        refine wp_store_row 102 _ _ rfl p6 #[.int .i64 vc, .int .i64 vn, .bool vu, .string vw, .slice a9 m9 c9] rfl rfl 102 _ (zoo_varm (unhide HA2) (List.Mem.head _)) Tryz.sizeEv rfl (by simp [Value.oneCell']) ?_
        have HB0 := hide (zoo_setrow (c' := #[.int .i64 vc, .int .i64 vn, .bool vu, .string vw, .slice a9 m9 c9]) (l1 := []) (unhide HA2))
        have HS9 := hide (slo_row (c' := #[.int .i64 vc, .int .i64 vn, .bool vu, .string vw, .slice a9 m9 c9]) (unhide HSL) (unhide HVT) (zoo_varm (unhide HA2) (List.Mem.head _)))
        refine hK.out _ _ (⟨cell_of_block (zoo_varm (unhide HB0) (List.Mem.tail _ (List.Mem.tail _ (List.Mem.tail _ (List.Mem.head _))))) rfl, x8_of (zoo_varm (unhide HB0) (List.Mem.tail _ (List.Mem.tail _ (List.Mem.head _))))⟩) (fun hHeld2 => ?_)
        clear hK K hHeld
        have hHeld := hHeld2
        clear hHeld2
        have HB := hide (zoo_in (unhide HB0))
        clear HB0 HA0 HA1 HA2 HSL HD
        refine wpAnyH_done (by kernel_rfl) ?_ _
        clear hHeld
        generalize World.setRow _ _ _ = W8 at *
        go_wp2_with fail
        go_meet
        exact ⟨p6, a9, c9, rfl, HB, HS9⟩
    · as_aux_lemma =>
        go_simp
        have HA1 := hide ((unhide HA0).box #[.int .i64 0, .int .i64 0, .bool false, .string ⟨#[]⟩, .slice none 0 0] 102)
        refine hK.out _ _ (⟨cell_of_block (zoo_varm (unhide HA1) (List.Mem.tail _ (List.Mem.tail _ (List.Mem.tail _ (List.Mem.head _))))) rfl, x8_of (zoo_varm (unhide HA1) (List.Mem.tail _ (List.Mem.tail _ (List.Mem.head _))))⟩) (fun hHeld2 => ?_)
        clear hK K hHeld
        have hHeld := hHeld2
        clear hHeld2
        try simp only [Act.put, List.setIfInBounds_toArray, List.set_cons_zero, List.set_cons_succ]
        generalize WD.alloc (.cells #[.int .i64 0, .int .i64 0, .bool false, .string ⟨#[]⟩, .slice none 0 0] 102) = W6 at *
        generalize WD.heap.size = p6 at *
        have HA1b := hide (zoo_in (unhide HA1))
        refine wpAnyH_only (i := 5) rfl (by kernel_rfl) (fun K hK => ?_)
        go_simp
        refine (unhide HD W6 _ (unhide HA1b)).mono ?_
        rintro e w3 ⟨a9, c9, rfl, HSL, HA2⟩
        go_wp2_with fail
        refine hK.out _ _ (⟨cell_of_block (zoo_varm (unhide HA2) (List.Mem.tail _ (List.Mem.tail _ (List.Mem.tail _ (List.Mem.head _))))) rfl, x8_of (zoo_varm (unhide HA2) (List.Mem.tail _ (List.Mem.tail _ (List.Mem.head _))))⟩) (fun hHeld2 => ?_)
        clear hK K hHeld
        have hHeld := hHeld2
        clear hHeld2
        try simp only [Act.put, List.setIfInBounds_toArray, List.set_cons_zero, List.set_cons_succ]
        refine wpAnyH_only (i := 7) rfl (by kernel_rfl) (fun K hK => ?_)
        rw [if_pos (by rfl)]
        refine wp_store_row 102 _ _ rfl p6 #[.int .i64 vc, .int .i64 vn, .bool vu, .string vw, .slice a9 m9 c9] rfl rfl 102 _ (zoo_varm (unhide HA2) (List.Mem.tail _ (List.Mem.head _))) Tryz.sizeEv rfl (by simp [Value.oneCell']) ?_
        have HB := hide (zoo_setrow (c' := #[.int .i64 vc, .int .i64 vn, .bool vu, .string vw, .slice a9 m9 c9]) (l1 := [_]) (unhide HA2))
        have HS9 := hide (slo_row (c' := #[.int .i64 vc, .int .i64 vn, .bool vu, .string vw, .slice a9 m9 c9]) (unhide HSL) (unhide HVT) (zoo_varm (unhide HA2) (List.Mem.tail _ (List.Mem.head _))))
        refine hK.out _ _ (⟨cell_of_block (zoo_varm (unhide HB) (List.Mem.tail _ (List.Mem.tail _ (List.Mem.tail _ (List.Mem.head _))))) rfl, x8_of (zoo_varm (unhide HB) (List.Mem.tail _ (List.Mem.tail _ (List.Mem.head _))))⟩) (fun hHeld2 => ?_)
        clear hK K hHeld
        have hHeld := hHeld2
        clear hHeld2
        clear HA0 HA1 HA1b HA2 HSL HD
        refine wpAnyH_done (by kernel_rfl) ?_ _
        clear hHeld
        generalize World.setRow _ _ _ = W8 at *
        go_wp2_with fail
        go_meet
        exact ⟨p6, a9, c9, rfl, HB, HS9⟩
  case rest =>
    obtain ⟨p6, a9, c9, rfl, HZE, HSE⟩ := hcut
    go_step
    exact rtells HG hlen v0 v1 v2 v3 v4 v5 HVL HM9 HT2 HZE HSE
end
/- The document's line: its step is laid out. -/
section
open Go.RowKit
set_option maxRecDepth 1000000
attribute [local go_sem ↓] Go.wp_at_zero Go.wp_at_succ

set_option maxHeartbeats 32000000 in
theorem rstep {w0 wd : World} {r : List Thing} {rd cb g o g' L c2 N cap' : Nat} {told t2 : List UInt8} {h2 : HSt} {h : HSt} {m : Nat} {x : HStep} {nm bs : List UInt8} {ns yr : List Int} {pl y0 y1 y2 : Int} {u1 u2 u3 u5 u6 u8 u10 u11 u12 u14 u15 u16 u17 u18 u19 u20 u21 u22 u23 u24 u25 u26 u27 u28 u29 u30 u31 u32 u33 u34 u35 u36 u37 u38 u39 u40 u41 u42 u43 u44 u45 u46 u47 u48 u49 u50 u51 u52 u53 u54 u55 u56 u57 u58 u59 u60 u61 u62 u63 u64 u65 u66 u67 u68 u69 u70 u71 u72 u73 u74 u75 u76 u77 u78 u79 u80 u81 u82 u83 u84 u85 u86 u87 u88 u89 u90 u91 u92 u93 u94 u95 u96 u97 u98 u99 u100 u101 u102 u103 u104 u105 u106 u107 u108 u109 u110 u111 u112 u113 u114 u115 u116 u117 u118 u119 u120 u121 u122 u123 u124 u125 u126 u127 u128 u129 u130 u131 u132 u133 u134 u135 u136 u137 u138 u139 u140 u141 u142 u143 u144 u145 u146 u147 u148 u149 u150 u151 u152 u153 u154 u155 u156 u157 u158 u159 u160 u161 u162 u163 u164 u165 u166 u167 u168 u169 u170 u171 u172 u173 u174 u175 u176 u177 u178 u179 u180 u181 u182 u183 u184 u185 u186 u187 u188 u189 u190 u191 u192 u193 u194 u195 u196 u197 u198 u199 u200 u201 u202 u203 u204 u205 u206 u207 u208 u209 u210 u211 u212 u213 u214 u215 u216 u217 u218 u219 u220 u221 u222 u223 u224 u225 u226 u227 u228 u229 u230 u231 u232 u233 u234 u235 u236 u237 u238 u239 u240 u241 u242 u243 u244 u245 u246 u247 u248 u249 u250 u251 u252 u253 u254 u255 u256 u257 u258 u259 u260 u261 u262 u263 u264 u265 u266 u267 u268 u269 u270 u271 u272 u273 u274 u275 u276 u277 u278 u279 u280 u281 u282 u283 u284 u285 u286 u287 u288 u289 u290 u291 u292 u293 u294 u295 u296 u297 u298 u299 u300 u301 u302 u303 u304 u305 u306 u307 u308 u309 u310 u311 u312 u313 u314 u315 : Value}
    (hm : m ≤ 300) (HLM : Hid (DLen h m)) (hxs : x.b.size ≤ 10000) (HG : Hid (Gnd w0)) (hlen : told.length + t2.length ≤ 200000) (HH2 : Hid (h2 = hdo h x)) (HT2 : Hid (t2 = say (tell x.d (hev h x))))
    (j2 : (0 : Int) < (L : Int)) (_j5 : (0 : Int) < (N : Int)) (j6 : (1 : Int) < (N : Int)) (j7 : (2 : Int) < (N : Int)) (HO : Hid (Ordr nm ns pl bs x)) (HYY : Hid (ns ++ [0, 0, 0] = y0 :: y1 :: y2 :: yr)) (e0 : wd.cell? ⟨g', 0, none⟩ = some (.int .i64 y0)) (e1 : wd.cell? ⟨g', 1, none⟩ = some (.int .i64 y1)) (e2 : wd.cell? ⟨g', 2, none⟩ = some (.int .i64 y2)) (c0 : wd.cell? ⟨g, o, none⟩ = some (.string ⟨nm.toArray⟩)) (HZ : Hid (Zoo w0 wd (CouT cb h :: BoxT rd (rdc told cb) 50 :: r))) :
    Code.wp Tryz.prog (cnext (cnext (cnext (cnext (cnext (cnext (cnext (cnext (cnext (cnext (cnext (cnext (cnext (Tryz.f19.body.getD .skip)))))))))))))) (bodyPost Tryz.prog Tryz.f19 fun e w' => e = .returned (.tuple #[]) ∧ Hid (Zoo w0 w' (CouT cb h2 :: BoxT rd (rdc (told ++ t2) cb) 50 :: r))) { tmps := (.pointer (some ⟨rd, 0, none⟩) :: u1 :: u2 :: u3 :: .slice (some ⟨g, o, none⟩) L c2 :: u5 :: u6 :: .string ⟨bs.toArray⟩ :: u8 :: .slice (some ⟨g', 0, none⟩) N cap' :: u10 :: u11 :: u12 :: .int .i64 pl :: u14 :: u15 :: u16 :: u17 :: u18 :: u19 :: u20 :: u21 :: u22 :: u23 :: u24 :: u25 :: u26 :: u27 :: u28 :: u29 :: u30 :: u31 :: u32 :: u33 :: u34 :: u35 :: u36 :: u37 :: u38 :: u39 :: u40 :: u41 :: u42 :: u43 :: u44 :: u45 :: u46 :: u47 :: u48 :: u49 :: u50 :: u51 :: u52 :: u53 :: u54 :: u55 :: u56 :: u57 :: u58 :: u59 :: u60 :: u61 :: u62 :: u63 :: u64 :: u65 :: u66 :: u67 :: u68 :: u69 :: u70 :: u71 :: u72 :: u73 :: u74 :: u75 :: u76 :: u77 :: u78 :: u79 :: u80 :: u81 :: u82 :: u83 :: u84 :: u85 :: u86 :: u87 :: u88 :: u89 :: u90 :: u91 :: u92 :: u93 :: u94 :: u95 :: u96 :: u97 :: u98 :: u99 :: u100 :: u101 :: u102 :: u103 :: u104 :: u105 :: u106 :: u107 :: u108 :: u109 :: u110 :: u111 :: u112 :: u113 :: u114 :: u115 :: u116 :: u117 :: u118 :: u119 :: u120 :: u121 :: u122 :: u123 :: u124 :: u125 :: u126 :: u127 :: u128 :: u129 :: u130 :: u131 :: u132 :: u133 :: u134 :: u135 :: u136 :: u137 :: u138 :: u139 :: u140 :: u141 :: u142 :: u143 :: u144 :: u145 :: u146 :: u147 :: u148 :: u149 :: u150 :: u151 :: u152 :: u153 :: u154 :: u155 :: u156 :: u157 :: u158 :: u159 :: u160 :: u161 :: u162 :: u163 :: u164 :: u165 :: u166 :: u167 :: u168 :: u169 :: u170 :: u171 :: u172 :: u173 :: u174 :: u175 :: u176 :: u177 :: u178 :: u179 :: u180 :: u181 :: u182 :: u183 :: u184 :: u185 :: u186 :: u187 :: u188 :: u189 :: u190 :: u191 :: u192 :: u193 :: u194 :: u195 :: u196 :: u197 :: u198 :: u199 :: u200 :: u201 :: u202 :: u203 :: u204 :: u205 :: u206 :: u207 :: u208 :: u209 :: u210 :: u211 :: u212 :: u213 :: u214 :: u215 :: u216 :: u217 :: u218 :: u219 :: u220 :: u221 :: u222 :: u223 :: u224 :: u225 :: u226 :: u227 :: u228 :: u229 :: u230 :: u231 :: u232 :: u233 :: u234 :: u235 :: u236 :: u237 :: u238 :: u239 :: u240 :: u241 :: u242 :: u243 :: u244 :: u245 :: u246 :: u247 :: u248 :: u249 :: u250 :: u251 :: u252 :: u253 :: u254 :: u255 :: u256 :: u257 :: u258 :: u259 :: u260 :: u261 :: u262 :: u263 :: u264 :: u265 :: u266 :: u267 :: u268 :: u269 :: u270 :: u271 :: u272 :: u273 :: u274 :: u275 :: u276 :: u277 :: u278 :: u279 :: u280 :: u281 :: u282 :: u283 :: u284 :: u285 :: u286 :: u287 :: u288 :: u289 :: u290 :: u291 :: u292 :: u293 :: u294 :: u295 :: u296 :: u297 :: u298 :: u299 :: u300 :: u301 :: u302 :: u303 :: u304 :: u305 :: u306 :: u307 :: u308 :: u309 :: u310 :: u311 :: u312 :: u313 :: u314 :: u315 :: []).toArray, defers := [] } wd := by
  conv => arg 2; whnf
  have HZ9 := hide (zoo_in ((unhide HZ).box #[.int .i64 0, .int .i64 y0, .int .i64 0, .int .i64 0, .int .i64 0, .int .i64 0, .int .i64 0, .string ⟨#[]⟩] 79))
  have hk9 := (Kp.refl [] wd).alloc (.cells #[.int .i64 0, .int .i64 y0, .int .i64 0, .int .i64 0, .int .i64 0, .int .i64 0, .int .i64 0, .string ⟨#[]⟩] 79)
  have c9 : (wd.alloc (.cells #[.int .i64 0, .int .i64 y0, .int .i64 0, .int .i64 0, .int .i64 0, .int .i64 0, .int .i64 0, .string ⟨#[]⟩] 79)).cell? ⟨g, o, none⟩ = some (.string ⟨nm.toArray⟩) := hk9.cell (by simp) c0
  have d1 := hk9.cell (by simp) e1
  have d2 := hk9.cell (by simp) e2
  clear hk9
  go_upto_region 32 with fail
  clear e0 e1 e2 c0 HZ
  generalize wd.alloc (.cells #[.int .i64 0, .int .i64 y0, .int .i64 0, .int .i64 0, .int .i64 0, .int .i64 0, .int .i64 0, .string ⟨#[]⟩] 79) = W9 at *
  generalize wd.heap.size = pX at *
  iterate 13 go_step
  go_cut [15] from 19 (fun s15 w' => s15 = .pointer (some ⟨pX, 0, none⟩) ∧ Hid (Zoo w0 w' (CouT cb h :: BoxT pX (xcs x) 79 :: BoxT rd (rdc told cb) 50 :: r)))
  case first =>
    have hX9 := zoo_varm (unhide HZ9) (List.Mem.tail _ (List.Mem.head _))
    have fz := fun k => frozen_of_block k hX9
    have x0 : W9.cell? ⟨pX, 0, none⟩ = some (.int .i64 0) := cell_of_block hX9 rfl
    have x1 : W9.cell? ⟨pX, 1, none⟩ = some (.int .i64 y0) := cell_of_block hX9 rfl
    have x2 : W9.cell? ⟨pX, 2, none⟩ = some (.int .i64 0) := cell_of_block hX9 rfl
    have x3 : W9.cell? ⟨pX, 3, none⟩ = some (.int .i64 0) := cell_of_block hX9 rfl
    have x4 : W9.cell? ⟨pX, 4, none⟩ = some (.int .i64 0) := cell_of_block hX9 rfl
    have x5 : W9.cell? ⟨pX, 5, none⟩ = some (.int .i64 0) := cell_of_block hX9 rfl
    have x6 : W9.cell? ⟨pX, 6, none⟩ = some (.int .i64 0) := cell_of_block hX9 rfl
    have x7 : W9.cell? ⟨pX, 7, none⟩ = some (.string ⟨#[]⟩) := cell_of_block hX9 rfl
    clear hX9
    rcases unhide HO with ⟨rfl, s, rfl, rfl, rfl⟩ | ⟨rfl, s, rfl, rfl, rfl⟩ | ⟨rfl, s, k, rfl, rfl, rfl⟩ | ⟨rfl, s, k, rfl, rfl, rfl⟩ | ⟨rfl, s, k, rfl, rfl, rfl⟩ | ⟨rfl, s, k, rfl, rfl, rfl⟩ | ⟨rfl, s, k, t, rfl, rfl, rfl⟩ | ⟨rfl, s, rfl, rfl, rfl⟩ | ⟨rfl, s, rfl, rfl, rfl⟩ | ⟨rfl, rfl, rfl, rfl⟩ | ⟨rfl, rfl, rfl, rfl⟩ | ⟨rfl, s, k, rfl, rfl, rfl⟩
    · as_aux_lemma =>
        have hy : [s, 0, 0, 0] = y0 :: y1 :: y2 :: yr := unhide HYY
        cases hy
        clear HYY HO
        go_wp2_with fail
        go_meet
        exact ⟨rfl, hide (zoo_setc (l1 := [_]) (i := 2) (v := .int .i64 1) (zoo_setc (l1 := [_]) (i := 0) (v := .int .i64 1) (unhide HZ9)))⟩
    · as_aux_lemma =>
        have hy : [s, 0, 0, 0] = y0 :: y1 :: y2 :: yr := unhide HYY
        cases hy
        clear HYY HO
        go_wp2_with fail
        go_meet
        exact ⟨rfl, hide (zoo_setc (l1 := [_]) (i := 2) (v := .int .i64 2) (zoo_setc (l1 := [_]) (i := 0) (v := .int .i64 1) (unhide HZ9)))⟩
    · as_aux_lemma =>
        have hy : [s, k, 0, 0, 0] = y0 :: y1 :: y2 :: yr := unhide HYY
        cases hy
        clear HYY HO
        go_wp2_with fail
        go_region
        go_wp2_with fail
        go_meet
        exact ⟨rfl, hide (zoo_setc (l1 := [_]) (i := 3) (v := .int .i64 y1) (zoo_setc (l1 := [_]) (i := 2) (v := .int .i64 3) (zoo_setc (l1 := [_]) (i := 0) (v := .int .i64 1) ((unhide HZ9).kp0 (Kp.refl [] _).drew))))⟩
    · as_aux_lemma =>
        have hy : [s, k, 0, 0, 0] = y0 :: y1 :: y2 :: yr := unhide HYY
        cases hy
        clear HYY HO
        go_wp2_with fail
        go_region
        go_wp2_with fail
        go_meet
        exact ⟨rfl, hide (zoo_setc (l1 := [_]) (i := 4) (v := .int .i64 y1) (zoo_setc (l1 := [_]) (i := 0) (v := .int .i64 2) ((unhide HZ9).kp0 (Kp.refl [] _).drew)))⟩
    · as_aux_lemma =>
        have hy : [s, k, 0, 0, 0] = y0 :: y1 :: y2 :: yr := unhide HYY
        cases hy
        clear HYY HO
        go_wp2_with fail
        go_region
        go_wp2_with fail
        go_meet
        exact ⟨rfl, hide (zoo_setc (l1 := [_]) (i := 7) (v := .string ⟨bs.toArray⟩) (zoo_setc (l1 := [_]) (i := 4) (v := .int .i64 y1) (zoo_setc (l1 := [_]) (i := 0) (v := .int .i64 3) ((unhide HZ9).kp0 (Kp.refl [] _).drew))))⟩
    · as_aux_lemma =>
        have hy : [s, k, 0, 0, 0] = y0 :: y1 :: y2 :: yr := unhide HYY
        cases hy
        clear HYY HO
        go_wp2_with fail
        go_region
        go_wp2_with fail
        go_meet
        exact ⟨rfl, hide (zoo_setc (l1 := [_]) (i := 4) (v := .int .i64 y1) (zoo_setc (l1 := [_]) (i := 0) (v := .int .i64 4) ((unhide HZ9).kp0 (Kp.refl [] _).drew)))⟩
    · as_aux_lemma =>
        have hy : [s, k, t, 0, 0, 0] = y0 :: y1 :: y2 :: yr := unhide HYY
        cases hy
        clear HYY HO
        go_wp2_with fail
        go_region
        go_wp2_with fail
        go_meet
        exact ⟨rfl, hide (zoo_setc (l1 := [_]) (i := 5) (v := .int .i64 y2) (zoo_setc (l1 := [_]) (i := 4) (v := .int .i64 y1) (zoo_setc (l1 := [_]) (i := 0) (v := .int .i64 5) ((unhide HZ9).kp0 (Kp.refl [] _).drew))))⟩
    · as_aux_lemma =>
        have hy : [s, 0, 0, 0] = y0 :: y1 :: y2 :: yr := unhide HYY
        cases hy
        clear HYY HO
        go_wp2_with fail
        go_meet
        exact ⟨rfl, hide (zoo_setc (l1 := [_]) (i := 0) (v := .int .i64 6) (unhide HZ9))⟩
    · as_aux_lemma =>
        have hy : [s, 0, 0, 0] = y0 :: y1 :: y2 :: yr := unhide HYY
        cases hy
        clear HYY HO
        go_wp2_with fail
        go_meet
        exact ⟨rfl, hide (zoo_setc (l1 := [_]) (i := 0) (v := .int .i64 7) (unhide HZ9))⟩
    · as_aux_lemma =>
        have hy : [0, 0, 0] = y0 :: y1 :: y2 :: yr := unhide HYY
        cases hy
        clear HYY HO
        go_wp2_with fail
        go_meet
        exact ⟨rfl, hide (zoo_setc (l1 := [_]) (i := 0) (v := .int .i64 8) (unhide HZ9))⟩
    · as_aux_lemma =>
        have hy : [0, 0, 0] = y0 :: y1 :: y2 :: yr := unhide HYY
        cases hy
        clear HYY HO
        go_wp2_with fail
        go_meet
        exact ⟨rfl, hide (zoo_setc (l1 := [_]) (i := 0) (v := .int .i64 9) (unhide HZ9))⟩
    · as_aux_lemma =>
        have hy : [s, k, 0, 0, 0] = y0 :: y1 :: y2 :: yr := unhide HYY
        cases hy
        clear HYY HO
        go_wp2_with fail
        go_region
        go_wp2_with fail
        go_meet
        exact ⟨rfl, hide (zoo_setc (l1 := [_]) (i := 6) (v := .int .i64 y1) (zoo_setc (l1 := [_]) (i := 0) (v := .int .i64 10) ((unhide HZ9).kp0 (Kp.refl [] _).drew)))⟩
  case rest =>
    obtain ⟨rfl, HZC⟩ := hcut
    go_step
    exact rdoes hm HLM hxs HG hlen HH2 HT2 HZC
end
/- The document's line: its place in the table, and what follows. -/
section
open Go.RowKit
set_option maxRecDepth 1000000
attribute [local go_sem ↓] Go.wp_at_zero Go.wp_at_succ

set_option maxHeartbeats 32000000 in
theorem rtab {w0 W2 wA : World} {r : List Thing} {rd cb g o L c2 p1 p2 n cap3 : Nat} {told t2 : List UInt8} {h2 : HSt} {h : HSt} {m : Nat} {a : Option Addr} {nm bs : List UInt8} {rs vs : List (List UInt8)} {ns : List Int} {u1 u2 u3 u8 u10 u11 u12 u14 u15 u16 u17 u18 u19 u20 u21 u22 u23 u24 u25 u26 u27 u28 u29 u30 u31 u32 u33 u34 u35 u36 u37 u38 u39 u40 u41 u42 u43 u44 u45 u46 u47 u48 u49 u50 u51 u52 u53 u54 u55 u56 u57 u58 u59 u60 u61 u62 u63 u64 u65 u66 u67 u68 u69 u70 u71 u72 u73 u74 u75 u76 u77 u78 u79 u80 u81 u82 u83 u84 u85 u86 u87 u88 u89 u90 u91 u92 u93 u94 u95 u96 u97 u98 u99 u100 u101 u102 u103 u104 u105 u106 u107 u108 u109 u110 u111 u112 u113 u114 u115 u116 u117 u118 u119 u120 u121 u122 u123 u124 u125 u126 u127 u128 u129 u130 u131 u132 u133 u134 u135 u136 u137 u138 u139 u140 u141 u142 u143 u144 u145 u146 u147 u148 u149 u150 u151 u152 u153 u154 u155 u156 u157 u158 u159 u160 u161 u162 u163 u164 u165 u166 u167 u168 u169 u170 u171 u172 u173 u174 u175 u176 u177 u178 u179 u180 u181 u182 u183 u184 u185 u186 u187 u188 u189 u190 u191 u192 u193 u194 u195 u196 u197 u198 u199 u200 u201 u202 u203 u204 u205 u206 u207 u208 u209 u210 u211 u212 u213 u214 u215 u216 u217 u218 u219 u220 u221 u222 u223 u224 u225 u226 u227 u228 u229 u230 u231 u232 u233 u234 u235 u236 u237 u238 u239 u240 u241 u242 u243 u244 u245 u246 u247 u248 u249 u250 u251 u252 u253 u254 u255 u256 u257 u258 u259 u260 u261 u262 u263 u264 u265 u266 u267 u268 u269 u270 u271 u272 u273 u274 u275 u276 u277 u278 u279 u280 u281 u282 u283 u284 u285 u286 u287 u288 u289 u290 u291 u292 u293 u294 u295 u296 u297 u298 u299 u300 u301 u302 u303 u304 u305 u306 u307 u308 u309 u310 u311 u312 u313 u314 u315 : Value}
    (hm : m ≤ 300) (HLM : Hid (DLen h m)) (HG : Hid (Gnd w0)) (hlen : told.length + t2.length ≤ 200000) (HDL : Hid ((h2, t2) = (if nm = [108, 97, 115, 116] ∧ rs = [] then (h, say [[108, 97, 115, 116], Lib.itoa h.n, Lib.itoa (fmx h.f 8), Lib.itoa (least h.n h.seat 5)]) else match rdl nm rs with | none => (h, say [[119, 104, 97, 116]]) | some x => (hdo h x, say (tell x.d (hev h x)))))) (HWH : Hid (rdl nm rs = none → ¬ (nm = [108, 97, 115, 116] ∧ rs = []) → h2 = h ∧ t2 = [119, 104, 97, 116] ++ [10])) (HRL : Hid (∀ v ∈ rs, v.length ≤ 10000)) (HPG : Hid (pgs nm rs = some (vs, bs))) (HNS2 : Hid (nms vs = some ns)) (HNL2 : Hid (ns.length = n)) (hn2 : n ≤ 10001) (hL : (0 : Int) < (L : Int))
    (HB : Hid (Zoo w0 W2 (BoxT p2 #[.int .i64 1, .int .i64 1, .int .i64 2, .int .i64 2, .int .i64 2, .int .i64 2, .int .i64 3, .int .i64 1, .int .i64 1, .int .i64 0, .int .i64 0, .int .i64 2, .int .i64 0] 3 :: BoxT p1 #[.string ⟨#[115, 104, 111, 116]⟩, .string ⟨#[115, 117, 114, 101]⟩, .string ⟨#[108, 111, 111, 107]⟩, .string ⟨#[103, 101, 116]⟩, .string ⟨#[112, 117, 116]⟩, .string ⟨#[100, 114, 111, 112]⟩, .string ⟨#[108, 105, 115, 116]⟩, .string ⟨#[99, 111, 109, 109, 105, 116]⟩, .string ⟨#[97, 98, 111, 114, 116]⟩, .string ⟨#[99, 108, 101, 97, 114]⟩, .string ⟨#[99, 114, 97, 115, 104]⟩, .string ⟨#[116, 101, 97, 114]⟩, .string ⟨#[108, 97, 115, 116]⟩] 9 :: CouT cb h :: BoxT rd (rdc told cb) 50 :: r))) (HK : Hid (Kp [] W2 wA)) (HR : Hid (KRow 3 1 W2.heap.size wA a n cap3 (ints ns))) (HC0 : Hid (W2.cell? ⟨g, o, none⟩ = some (.string ⟨nm.toArray⟩))) :
    Code.wp Tryz.prog (cnext (cnext (cnext (cnext (cnext (cnext (cnext (cnext (cnext (Tryz.f19.body.getD .skip)))))))))) (bodyPost Tryz.prog Tryz.f19 fun e w' => e = .returned (.tuple #[]) ∧ Hid (Zoo w0 w' (CouT cb h2 :: BoxT rd (rdc (told ++ t2) cb) 50 :: r))) { tmps := (.pointer (some ⟨rd, 0, none⟩) :: u1 :: u2 :: u3 :: .slice (some ⟨g, o, none⟩) L c2 :: .slice (some ⟨p1, 0, none⟩) 13 13 :: .slice (some ⟨p2, 0, none⟩) 13 13 :: .string ⟨bs.toArray⟩ :: u8 :: .slice a n cap3 :: u10 :: u11 :: u12 :: .int .i64 (-1) :: u14 :: u15 :: u16 :: u17 :: u18 :: u19 :: u20 :: u21 :: u22 :: u23 :: u24 :: u25 :: u26 :: u27 :: u28 :: u29 :: u30 :: u31 :: u32 :: u33 :: u34 :: u35 :: u36 :: u37 :: u38 :: u39 :: u40 :: u41 :: u42 :: u43 :: u44 :: u45 :: u46 :: u47 :: u48 :: u49 :: u50 :: u51 :: u52 :: u53 :: u54 :: u55 :: u56 :: u57 :: u58 :: u59 :: u60 :: u61 :: u62 :: u63 :: u64 :: u65 :: u66 :: u67 :: u68 :: u69 :: u70 :: u71 :: u72 :: u73 :: u74 :: u75 :: u76 :: u77 :: u78 :: u79 :: u80 :: u81 :: u82 :: u83 :: u84 :: u85 :: u86 :: u87 :: u88 :: u89 :: u90 :: u91 :: u92 :: u93 :: u94 :: u95 :: u96 :: u97 :: u98 :: u99 :: u100 :: u101 :: u102 :: u103 :: u104 :: u105 :: u106 :: u107 :: u108 :: u109 :: u110 :: u111 :: u112 :: u113 :: u114 :: u115 :: u116 :: u117 :: u118 :: u119 :: u120 :: u121 :: u122 :: u123 :: u124 :: u125 :: u126 :: u127 :: u128 :: u129 :: u130 :: u131 :: u132 :: u133 :: u134 :: u135 :: u136 :: u137 :: u138 :: u139 :: u140 :: u141 :: u142 :: u143 :: u144 :: u145 :: u146 :: u147 :: u148 :: u149 :: u150 :: u151 :: u152 :: u153 :: u154 :: u155 :: u156 :: u157 :: u158 :: u159 :: u160 :: u161 :: u162 :: u163 :: u164 :: u165 :: u166 :: u167 :: u168 :: u169 :: u170 :: u171 :: u172 :: u173 :: u174 :: u175 :: u176 :: u177 :: u178 :: u179 :: u180 :: u181 :: u182 :: u183 :: u184 :: u185 :: u186 :: u187 :: u188 :: u189 :: u190 :: u191 :: u192 :: u193 :: u194 :: u195 :: u196 :: u197 :: u198 :: u199 :: u200 :: u201 :: u202 :: u203 :: u204 :: u205 :: u206 :: u207 :: u208 :: u209 :: u210 :: u211 :: u212 :: u213 :: u214 :: u215 :: u216 :: u217 :: u218 :: u219 :: u220 :: u221 :: u222 :: u223 :: u224 :: u225 :: u226 :: u227 :: u228 :: u229 :: u230 :: u231 :: u232 :: u233 :: u234 :: u235 :: u236 :: u237 :: u238 :: u239 :: u240 :: u241 :: u242 :: u243 :: u244 :: u245 :: u246 :: u247 :: u248 :: u249 :: u250 :: u251 :: u252 :: u253 :: u254 :: u255 :: u256 :: u257 :: u258 :: u259 :: u260 :: u261 :: u262 :: u263 :: u264 :: u265 :: u266 :: u267 :: u268 :: u269 :: u270 :: u271 :: u272 :: u273 :: u274 :: u275 :: u276 :: u277 :: u278 :: u279 :: u280 :: u281 :: u282 :: u283 :: u284 :: u285 :: u286 :: u287 :: u288 :: u289 :: u290 :: u291 :: u292 :: u293 :: u294 :: u295 :: u296 :: u297 :: u298 :: u299 :: u300 :: u301 :: u302 :: u303 :: u304 :: u305 :: u306 :: u307 :: u308 :: u309 :: u310 :: u311 :: u312 :: u313 :: u314 :: u315 :: []).toArray, defers := [] } wA := by
  conv => arg 2; whnf
  have hwsz := (unhide HK).size
  have hu : Tryz.prog.underlying 86 = some (.slice 3) := Tryz.underlying86
  have kx := zoo_varm (unhide HB) (List.Mem.tail _ (List.Mem.head _))
  have km := zoo_varm (unhide HB) (List.Mem.head _)
  have HCX := hide (fun k q (e : (#[.string ⟨#[115, 104, 111, 116]⟩, .string ⟨#[115, 117, 114, 101]⟩, .string ⟨#[108, 111, 111, 107]⟩, .string ⟨#[103, 101, 116]⟩, .string ⟨#[112, 117, 116]⟩, .string ⟨#[100, 114, 111, 112]⟩, .string ⟨#[108, 105, 115, 116]⟩, .string ⟨#[99, 111, 109, 109, 105, 116]⟩, .string ⟨#[97, 98, 111, 114, 116]⟩, .string ⟨#[99, 108, 101, 97, 114]⟩, .string ⟨#[99, 114, 97, 115, 104]⟩, .string ⟨#[116, 101, 97, 114]⟩, .string ⟨#[108, 97, 115, 116]⟩] : Array Value)[k]? = some q) => cell_of_block (i := k) kx e)
  have HCM := hide (fun k q (e : (#[.int .i64 1, .int .i64 1, .int .i64 2, .int .i64 2, .int .i64 2, .int .i64 2, .int .i64 3, .int .i64 1, .int .i64 1, .int .i64 0, .int .i64 0, .int .i64 2, .int .i64 0] : Array Value)[k]? = some q) => cell_of_block (i := k) km e)
  clear kx km
  go_wp2_with fail
  go_loopw [13, 14] (fun t13 t14 wq => ∃ k : Nat, k ≤ 13 ∧ t13 = .int .i64 (atf nm n k) ∧ t14 = .int .i64 k ∧ Hid (Kp [] wA wq)) (fun _ t _ => 13 - (intOf t).toNat)
  case atStart => exact ⟨0, by omega, rfl, rfl, Kp.refl _ _⟩
  case round =>
    obtain ⟨k, hk, rfl, rfl, HQ⟩ := hrel
    by_cases hlt : k < 13
    · obtain ⟨x, q, e1, e2, e3⟩ := tbl_at k hlt
      have cx : wr.cell? ⟨p1, k, none⟩ = some (.string ⟨x.toArray⟩) := (unhide HQ).cell (by simp) ((unhide HK).cell (by simp) (unhide HCX k _ e2))
      have cm : wr.cell? ⟨p2, k, none⟩ = some (.int .i64 (q : Int)) := (unhide HQ).cell (by simp) ((unhide HK).cell (by simp) (unhide HCM k _ e3))
      have c0 : wr.cell? ⟨g, o, none⟩ = some (.string ⟨nm.toArray⟩) := (unhide HQ).cell (by simp) ((unhide HK).cell (by simp) (unhide HC0))
      have HE1 := hide e1
      have j2 : (k : Int) < 13 := by omega
      have j3 : (0 : Int) ≤ (k : Int) := by omega
      have j4 : (0 : Int) < (n : Int) + 1 := by omega
      clear e1 e2 e3
      by_cases hx : x = nm
      · subst hx
        by_cases hq : q = n
        · subst hq
          have hat := hide (show atf x q (k + 1) = (k : Int) by unfold atf; rw [if_pos (unhide HE1)])
          go_wp2_with fail
          go_quiet (fail)
          go_wp2_with fail
          exact ⟨⟨k + 1, by omega, by rw [unhide hat], by go_num, (unhide HQ).trans0 (kp_drewN wr _)⟩, by simp [intOf]; omega⟩
        · have hat := hide (show atf x n (k + 1) = atf x n k by conv => lhs; unfold atf; rw [if_neg (fun e => hq (by rw [unhide HE1] at e; cases e; rfl))])
          have hqi : ¬ ((q : Int) = (n : Int)) := by omega
          go_wp2_with fail
          go_quiet (fail)
          go_wp2_with fail
          exact ⟨⟨k + 1, by omega, by rw [unhide hat], by go_num, (unhide HQ).trans0 (kp_drewN wr _)⟩, by simp [intOf]; omega⟩
      · have hat := hide (show atf nm n (k + 1) = atf nm n k by conv => lhs; unfold atf; rw [if_neg (fun e => hx (by rw [unhide HE1] at e; cases e; rfl))])
        have hxb : (x == nm) = false := by simpa using hx
        go_wp2_with fail
        go_quiet (fail)
        go_wp2_with fail
        exact ⟨⟨k + 1, by omega, by rw [unhide hat], by go_num, (unhide HQ).trans0 (kp_drewN wr _)⟩, by simp [intOf]; omega⟩
    · have hk13 : k = 13 := by omega
      subst hk13
      have hout := out_of (unhide HPG) (unhide HNS2)
      unfold Out at hout
      rw [unhide HNL2] at hout
      generalize atf nm n 13 = pl at *
      rcases hout with ⟨ha, y1, y2⟩ | ⟨rfl, rfl, rfl, ha⟩ | ⟨hnl, x, hx, ha0, hO⟩
      · subst ha
        obtain ⟨rfl, rfl⟩ := unhide HWH y1 y2
        clear y1 y2
        go_wp2_with (go_at_call 34; refine (rsay (l1 := [_, _, _]) [119, 104, 97, 116] ((unhide HB).kp0 ((unhide HK).trans0 (unhide HQ))) (by simp at hlen ⊢; omega)).mono ?_; rintro e w7 ⟨rfl, HZ7⟩)
        refine bodyPost_ret (v := .tuple #[]) (results_none Tryz.results19 _ _ _) rfl ?_
        exact ⟨rfl, Zoo.tail (Zoo.tail (unhide HZ7))⟩
      · subst ha
        have HZQ := hide ((unhide HB).kp0 ((unhide HK).trans0 (unhide HQ)))
        have c0 : wr.cell? ⟨g, o, none⟩ = some (.string ⟨#[108, 97, 115, 116]⟩) := (unhide HQ).cell (by simp) ((unhide HK).cell (by simp) (unhide HC0))
        have hfl : h2 = h ∧ t2 = say [[108, 97, 115, 116], Lib.itoa h.n, Lib.itoa (fmx h.f 8), Lib.itoa (least h.n h.seat 5)] := by
          have e := unhide HDL
          rw [if_pos ⟨rfl, rfl⟩] at e
          cases e; exact ⟨rfl, rfl⟩
        obtain ⟨rfl, rfl⟩ := hfl
        obtain ⟨sb, st, hst, hi, hl⟩ := cou_open ((unhide HZQ).perm (List.perm_middle (l₁ := [_, _])))
        have d1' := hl.c0
        have d2 := hl.n0
        obtain ⟨G, Gr, Gs, bx, kq, _⟩ := hl.crt
        have L2 := fun W (hk : Kp [] wr W) => sfirst43 W (kq.s.kp0 hk)
        have L3 := fun W (hk : Kp [] wr W) => c_least hst (hl.kp0 hk)
        have d0 : wr.cell? ⟨rd, 1, none⟩ = some (.pointer (some ⟨cb, 0, none⟩)) := cell_of_block (zoo_varm (unhide HZQ) (List.Mem.tail _ (List.Mem.tail _ (List.Mem.tail _ (List.Mem.head _))))) rfl
        obtain ⟨b1, b2, b3, b4, b5⟩ := hal_nums hi
        have hnn : (0 : Int) ≤ (h2.n : Int) := by omega
        have HL2 := hide L2
        have HL3 := hide L3
        have HST := hide hst
        have HI := hide hi
        have HL := hide hl
        clear L2 L3 hi bx kq hl hst
        obtain ⟨zn, hzn⟩ : ∃ z, (h2.n : Int) = z := ⟨_, rfl⟩
        obtain ⟨zf, hzf⟩ : ∃ z, fmx h2.f 8 = z := ⟨_, rfl⟩
        obtain ⟨zl, hzl⟩ : ∃ z, least h2.n h2.seat 5 = z := ⟨_, rfl⟩
        rw [hzn, hzf, hzl] at hlen
        rw [hzn] at b1 hnn d2
        rw [hzf] at b2 b3 HL2
        rw [hzl] at b4 b5 HL3
        have HZN := hide hzn
        have HZF := hide hzf
        have HZL := hide hzl
        clear hzn hzf hzl
        have l1 := Lib.itoa_length_le zn (by omega) (by omega)
        have l2 := Lib.itoa_length_le zf (by omega) (by omega)
        have l3 := Lib.itoa_length_le zl (by omega) (by omega)
        obtain ⟨xn, hxn⟩ : ∃ x, Lib.itoa zn = x := ⟨_, rfl⟩
        obtain ⟨xf, hxf⟩ : ∃ x, Lib.itoa zf = x := ⟨_, rfl⟩
        obtain ⟨xl, hxl⟩ : ∃ x, Lib.itoa zl = x := ⟨_, rfl⟩
        rw [hxn] at l1 hlen
        rw [hxf] at l2 hlen
        rw [hxl] at l3 hlen
        have HXN := hide hxn
        have HXF := hide hxf
        have HXL := hide hxl
        clear hxn hxf hxl HDL HWH
        have y1 : ¬ 9223372036854775807 < 5 + xn.length := by omega
        have y2 : ¬ 9223372036854775807 < 5 + xn.length + 1 := by omega
        have y3 : ¬ 9223372036854775807 < 5 + xn.length + 1 + xf.length := by omega
        have y4 : ¬ 9223372036854775807 < 5 + xn.length + 1 + xf.length + 1 := by omega
        have y5 : ¬ 9223372036854775807 < 5 + xn.length + 1 + xf.length + 1 + xl.length := by omega
        go_wp2_with fail
        refine wp_region_held_drew (S := fun w' => w'.cell? ⟨rd, 1, none⟩ = some (.pointer (some ⟨cb, 0, none⟩)) ∧ w'.cell? ⟨cb, 0, none⟩ = some (.pointer (some ⟨sb, 0, none⟩)) ∧ w'.cell? ⟨sb, 8, none⟩ = some (.int .i64 zn)) (by kernel_rfl) (And.intro (((Kp.refl [] wr).drew).cell (by simp) d0) (And.intro (((Kp.refl [] wr).drew).cell (by simp) d1') (((Kp.refl [] wr).drew).cell (by simp) d2))) (fun hHeld => ?_)
        have HY0 := hide ((Kp.refl [] wr).drew)
        generalize World.drew _ = WD at HY0 hHeld ⊢
        refine wpAnyH_tk (i := 0) (v := ?_) rfl (by kernel_rfl) (by kernel_rfl) (by kernel_rfl) (fun _ _ _ h => h) (Or.inl ⟨by rfl, ?_⟩) hHeld ?_
        rotate_left
        · intro w hSw
          try dsimp only at hSw
          go_simp
          try with_reducible rfl
        try simp only [Act.put, List.setIfInBounds_toArray, List.set_cons_zero, List.set_cons_succ]
        refine wpAnyH_tk (i := 1) (v := ?_) rfl (by kernel_rfl) (by kernel_rfl) (by kernel_rfl) (fun _ _ _ h => h) (Or.inl ⟨by rfl, ?_⟩) hHeld ?_
        rotate_left
        · intro w hSw
          try dsimp only at hSw
          go_simp
          try with_reducible rfl
        try simp only [Act.put, List.setIfInBounds_toArray, List.set_cons_zero, List.set_cons_succ]
        refine wpAnyH_tk (i := 2) (v := ?_) rfl (by kernel_rfl) (by kernel_rfl) (by kernel_rfl) (fun _ _ _ h => h) (Or.inl ⟨by rfl, ?_⟩) hHeld ?_
        rotate_left
        · intro w hSw
          try dsimp only at hSw
          go_simp
          try with_reducible rfl
        try simp only [Act.put, List.setIfInBounds_toArray, List.set_cons_zero, List.set_cons_succ]
        refine wpAnyH_tk (i := 3) (v := ?_) rfl (by kernel_rfl) (by kernel_rfl) (by kernel_rfl) (fun _ _ _ h => h) (Or.inl ⟨by rfl, ?_⟩) hHeld ?_
        rotate_left
        · intro w hSw
          try dsimp only at hSw
          go_simp
          try with_reducible rfl
        try simp only [Act.put, List.setIfInBounds_toArray, List.set_cons_zero, List.set_cons_succ]
        refine wpAnyH_tk (i := 4) (v := ?_) rfl (by kernel_rfl) (by kernel_rfl) (by kernel_rfl) (fun _ _ _ h => h) (Or.inl ⟨by rfl, ?_⟩) hHeld ?_
        rotate_left
        · intro w hSw
          try dsimp only at hSw
          go_simp
          try with_reducible rfl
        try simp only [Act.put, List.setIfInBounds_toArray, List.set_cons_zero, List.set_cons_succ]
        refine wpAnyH_tk (i := 5) (v := ?_) rfl (by kernel_rfl) (by kernel_rfl) (by kernel_rfl) (fun _ _ _ h => h) (Or.inl ⟨by rfl, ?_⟩) hHeld ?_
        rotate_left
        · intro w hSw
          try dsimp only at hSw
          go_simp
          try with_reducible rfl
        try simp only [Act.put, List.setIfInBounds_toArray, List.set_cons_zero, List.set_cons_succ]
        refine wpAnyH_tk (i := 6) (v := ?_) rfl (by kernel_rfl) (by kernel_rfl) (by kernel_rfl) (fun _ _ _ h => h) (Or.inl ⟨by rfl, ?_⟩) hHeld ?_
        rotate_left
        · intro w hSw
          try dsimp only at hSw
          go_simp
          try with_reducible rfl
        try simp only [Act.put, List.setIfInBounds_toArray, List.set_cons_zero, List.set_cons_succ]
        refine wpAnyH_tk (i := 7) (v := ?_) rfl (by kernel_rfl) (by kernel_rfl) (by kernel_rfl) (fun _ _ _ h => h) (Or.inl ⟨by rfl, ?_⟩) hHeld ?_
        rotate_left
        · intro w hSw
          try dsimp only at hSw
          go_simp
          try with_reducible rfl
        try simp only [Act.put, List.setIfInBounds_toArray, List.set_cons_zero, List.set_cons_succ]
        refine wpAnyH_tk (i := 8) (v := ?_) rfl (by kernel_rfl) (by kernel_rfl) (by kernel_rfl) (fun _ _ _ h => h) (Or.inl ⟨by rfl, ?_⟩) hHeld ?_
        rotate_left
        · intro w hSw
          try dsimp only at hSw
          go_simp
          try with_reducible rfl
        try simp only [Act.put, List.setIfInBounds_toArray, List.set_cons_zero, List.set_cons_succ]
        refine wpAnyH_tk (i := 9) (v := ?_) rfl (by kernel_rfl) (by kernel_rfl) (by kernel_rfl) (fun _ _ _ h => h) (Or.inl ⟨by rfl, ?_⟩) hHeld ?_
        rotate_left
        · intro w hSw
          try dsimp only at hSw
          go_simp
          try with_reducible rfl
        try simp only [Act.put, List.setIfInBounds_toArray, List.set_cons_zero, List.set_cons_succ]
        refine wpAnyH_tk (i := 10) (v := ?_) rfl (by kernel_rfl) (by kernel_rfl) (by kernel_rfl) (fun _ _ _ h => h) (Or.inl ⟨by rfl, ?_⟩) hHeld ?_
        rotate_left
        · intro w hSw
          try dsimp only at hSw
          go_simp
          try with_reducible rfl
        try simp only [Act.put, List.setIfInBounds_toArray, List.set_cons_zero, List.set_cons_succ]
        refine wpAnyH_tk (i := 14) (v := ?_) rfl (by kernel_rfl) (by kernel_rfl) (by kernel_rfl) (fun _ _ _ h => h) (Or.inl ⟨by rfl, ?_⟩) hHeld ?_
        rotate_left
        · intro w hSw
          try dsimp only at hSw
          go_simp
          try with_reducible rfl
        try simp only [Act.put, List.setIfInBounds_toArray, List.set_cons_zero, List.set_cons_succ]
        refine wpAnyH_tk (i := 15) (v := ?_) rfl (by kernel_rfl) (by kernel_rfl) (by kernel_rfl) (fun _ _ _ h => h) (Or.inl ⟨by rfl, ?_⟩) hHeld ?_
        rotate_left
        · intro w hSw
          try dsimp only at hSw
          go_simp
          try with_reducible rfl
        try simp only [Act.put, List.setIfInBounds_toArray, List.set_cons_zero, List.set_cons_succ]
        refine wpAnyH_tk (i := 16) (v := ?_) rfl (by kernel_rfl) (by kernel_rfl) (by kernel_rfl) (fun _ _ _ h => h) (Or.inl ⟨by rfl, ?_⟩) hHeld ?_
        rotate_left
        · intro w hSw
          try dsimp only at hSw
          go_simp
          try with_reducible rfl
        try simp only [Act.put, List.setIfInBounds_toArray, List.set_cons_zero, List.set_cons_succ]
        refine wpAnyH_tk (i := 17) (v := ?_) rfl (by kernel_rfl) (by kernel_rfl) (by kernel_rfl) (fun _ _ _ h => h) (Or.inl ⟨by rfl, ?_⟩) hHeld ?_
        rotate_left
        · intro w hSw
          try dsimp only at hSw
          go_simp
          try with_reducible rfl
        try simp only [Act.put, List.setIfInBounds_toArray, List.set_cons_zero, List.set_cons_succ]
        refine wpAnyH_tk (i := 18) (v := ?_) rfl (by kernel_rfl) (by kernel_rfl) (by kernel_rfl) (fun _ _ _ h => h) (Or.inl ⟨by rfl, ?_⟩) hHeld ?_
        rotate_left
        · intro w hSw
          try dsimp only at hSw
          go_simp
          try with_reducible rfl
        try simp only [Act.put, List.setIfInBounds_toArray, List.set_cons_zero, List.set_cons_succ]
        refine wpAnyH_tk (i := 19) (v := ?_) rfl (by kernel_rfl) (by kernel_rfl) (by kernel_rfl) (fun _ _ _ h => h) (Or.inl ⟨by rfl, ?_⟩) hHeld ?_
        rotate_left
        · intro w hSw
          try dsimp only at hSw
          go_simp
          try with_reducible rfl
        try simp only [Act.put, List.setIfInBounds_toArray, List.set_cons_zero, List.set_cons_succ]
        refine wpAnyH_tk (i := 20) (v := ?_) rfl (by kernel_rfl) (by kernel_rfl) (by kernel_rfl) (fun _ _ _ h => h) (Or.inl ⟨by rfl, ?_⟩) hHeld ?_
        rotate_left
        · intro w hSw
          try dsimp only at hSw
          go_simp
          try with_reducible rfl
        try simp only [Act.put, List.setIfInBounds_toArray, List.set_cons_zero, List.set_cons_succ]
        refine wpAnyH_tk (i := 25) (v := ?_) rfl (by kernel_rfl) (by kernel_rfl) (by kernel_rfl) (fun _ _ _ h => h) (Or.inl ⟨by rfl, ?_⟩) hHeld ?_
        rotate_left
        · intro w hSw
          try dsimp only at hSw
          go_simp
          try with_reducible rfl
        try simp only [Act.put, List.setIfInBounds_toArray, List.set_cons_zero, List.set_cons_succ]
        refine wpAnyH_tk (i := 26) (v := ?_) rfl (by kernel_rfl) (by kernel_rfl) (by kernel_rfl) (fun _ _ _ h => h) (Or.inl ⟨by rfl, ?_⟩) hHeld ?_
        rotate_left
        · intro w hSw
          try dsimp only at hSw
          go_simp
          try with_reducible rfl
        try simp only [Act.put, List.setIfInBounds_toArray, List.set_cons_zero, List.set_cons_succ]
        refine wpAnyH_tk (i := 27) (v := ?_) rfl (by kernel_rfl) (by kernel_rfl) (by kernel_rfl) (fun _ _ _ h => h) (Or.inl ⟨by rfl, ?_⟩) hHeld ?_
        rotate_left
        · intro w hSw
          try dsimp only at hSw
          go_simp
          try with_reducible rfl
        try simp only [Act.put, List.setIfInBounds_toArray, List.set_cons_zero, List.set_cons_succ]
        refine wpAnyH_tk (i := 28) (v := ?_) rfl (by kernel_rfl) (by kernel_rfl) (by kernel_rfl) (fun _ _ _ h => h) (Or.inl ⟨by rfl, ?_⟩) hHeld ?_
        rotate_left
        · intro w hSw
          try dsimp only at hSw
          go_simp
          try with_reducible rfl
        try simp only [Act.put, List.setIfInBounds_toArray, List.set_cons_zero, List.set_cons_succ]
        refine wpAnyH_only (i := 11) rfl (by kernel_rfl) (fun K hK => ?_)
        go_simp
        refine (rnum zn _ (gnd_kp (unhide HG) ((unhide HZQ).kp.trans0 (unhide HY0))) (by omega) (by omega)).mono ?_
        rintro e wHY1 ⟨he, hkx⟩
        rw [unhide HXN] at he
        subst he
        have HY1 := hide ((unhide HY0).trans0 hkx)
        clear hkx
        go_wp2_with fail
        refine hK.out _ _ ((And.intro ((unhide HY1).cell (by simp) d0) (And.intro ((unhide HY1).cell (by simp) d1') ((unhide HY1).cell (by simp) d2)))) (fun hHeld2 => ?_)
        clear hK K hHeld
        have hHeld := hHeld2
        clear hHeld2
        try simp only [Act.put, List.setIfInBounds_toArray, List.set_cons_zero, List.set_cons_succ]
        refine wpAnyH_tk (i := 12) (v := ?_) rfl (by kernel_rfl) (by kernel_rfl) (by kernel_rfl) (fun _ _ _ h => h) (Or.inl ⟨by rfl, ?_⟩) hHeld ?_
        rotate_left
        · intro w hSw
          try dsimp only at hSw
          go_simp
          try with_reducible rfl
        try simp only [Act.put, List.setIfInBounds_toArray, List.set_cons_zero, List.set_cons_succ]
        refine wpAnyH_tk (i := 13) (v := ?_) rfl (by kernel_rfl) (by kernel_rfl) (by kernel_rfl) (fun _ _ _ h => h) (Or.inl ⟨by rfl, ?_⟩) hHeld ?_
        rotate_left
        · intro w hSw
          try dsimp only at hSw
          go_simp
          try with_reducible rfl
        try simp only [Act.put, List.setIfInBounds_toArray, List.set_cons_zero, List.set_cons_succ]
        refine wpAnyH_only (i := 21) rfl (by kernel_rfl) (fun K hK => ?_)
        go_simp
        refine (unhide HL2 _ (unhide HY1)).mono ?_
        rintro e wx ⟨rfl, hwx⟩
        subst hwx
        go_wp2_with fail
        refine hK.out _ _ ((And.intro ((unhide HY1).cell (by simp) d0) (And.intro ((unhide HY1).cell (by simp) d1') ((unhide HY1).cell (by simp) d2)))) (fun hHeld2 => ?_)
        clear hK K hHeld
        have hHeld := hHeld2
        clear hHeld2
        try simp only [Act.put, List.setIfInBounds_toArray, List.set_cons_zero, List.set_cons_succ]
        refine wpAnyH_only (i := 22) rfl (by kernel_rfl) (fun K hK => ?_)
        go_simp
        refine (rnum zf _ (gnd_kp (unhide HG) ((unhide HZQ).kp.trans0 (unhide HY1))) (by omega) (by omega)).mono ?_
        rintro e wHY2 ⟨he, hkx⟩
        rw [unhide HXF] at he
        subst he
        have HY2 := hide ((unhide HY1).trans0 hkx)
        clear hkx
        go_wp2_with fail
        refine hK.out _ _ ((And.intro ((unhide HY2).cell (by simp) d0) (And.intro ((unhide HY2).cell (by simp) d1') ((unhide HY2).cell (by simp) d2)))) (fun hHeld2 => ?_)
        clear hK K hHeld
        have hHeld := hHeld2
        clear hHeld2
        try simp only [Act.put, List.setIfInBounds_toArray, List.set_cons_zero, List.set_cons_succ]
        refine wpAnyH_tk (i := 23) (v := ?_) rfl (by kernel_rfl) (by kernel_rfl) (by kernel_rfl) (fun _ _ _ h => h) (Or.inl ⟨by rfl, ?_⟩) hHeld ?_
        rotate_left
        · intro w hSw
          try dsimp only at hSw
          go_simp
          try with_reducible rfl
        try simp only [Act.put, List.setIfInBounds_toArray, List.set_cons_zero, List.set_cons_succ]
        refine wpAnyH_tk (i := 24) (v := ?_) rfl (by kernel_rfl) (by kernel_rfl) (by kernel_rfl) (fun _ _ _ h => h) (Or.inl ⟨by rfl, ?_⟩) hHeld ?_
        rotate_left
        · intro w hSw
          try dsimp only at hSw
          go_simp
          try with_reducible rfl
        try simp only [Act.put, List.setIfInBounds_toArray, List.set_cons_zero, List.set_cons_succ]
        refine wpAnyH_only (i := 29) rfl (by kernel_rfl) (fun K hK => ?_)
        go_simp
        refine (unhide HL3 _ (unhide HY2)).mono ?_
        rintro e wx ⟨rfl, hwx⟩
        subst hwx
        go_wp2_with fail
        refine hK.out _ _ ((And.intro ((unhide HY2).cell (by simp) d0) (And.intro ((unhide HY2).cell (by simp) d1') ((unhide HY2).cell (by simp) d2)))) (fun hHeld2 => ?_)
        clear hK K hHeld
        have hHeld := hHeld2
        clear hHeld2
        try simp only [Act.put, List.setIfInBounds_toArray, List.set_cons_zero, List.set_cons_succ]
        refine wpAnyH_only (i := 30) rfl (by kernel_rfl) (fun K hK => ?_)
        go_simp
        refine (rnum zl _ (gnd_kp (unhide HG) ((unhide HZQ).kp.trans0 (unhide HY2))) (by omega) (by omega)).mono ?_
        rintro e wHY3 ⟨he, hkx⟩
        rw [unhide HXL] at he
        subst he
        have HY3 := hide ((unhide HY2).trans0 hkx)
        clear hkx
        go_wp2_with fail
        refine hK.out _ _ ((And.intro ((unhide HY3).cell (by simp) d0) (And.intro ((unhide HY3).cell (by simp) d1') ((unhide HY3).cell (by simp) d2)))) (fun hHeld2 => ?_)
        clear hK K hHeld
        have hHeld := hHeld2
        clear hHeld2
        try simp only [Act.put, List.setIfInBounds_toArray, List.set_cons_zero, List.set_cons_succ]
        refine wpAnyH_tk (i := 31) (v := ?_) rfl (by kernel_rfl) (by kernel_rfl) (by kernel_rfl) (fun _ _ _ h => h) (Or.inl ⟨by rfl, ?_⟩) hHeld ?_
        rotate_left
        · intro w hSw
          try dsimp only at hSw
          go_simp
          try with_reducible rfl
        try simp only [Act.put, List.setIfInBounds_toArray, List.set_cons_zero, List.set_cons_succ]
        refine wpAnyH_only (i := 32) rfl (by kernel_rfl) (fun K hK => ?_)
        go_simp
        rw [mk_app, mk_app, mk_app, mk_app, mk_app]
        have HA7 : Zoo w0 wHY3 ((CrtT cb sb h2.f h2.n h2.cs [] (ads st) :: (wseats st ++ [BoxT p2 #[.int .i64 1, .int .i64 1, .int .i64 2, .int .i64 2, .int .i64 2, .int .i64 2, .int .i64 3, .int .i64 1, .int .i64 1, .int .i64 0, .int .i64 0, .int .i64 2, .int .i64 0] 3, BoxT p1 #[.string ⟨#[115, 104, 111, 116]⟩, .string ⟨#[115, 117, 114, 101]⟩, .string ⟨#[108, 111, 111, 107]⟩, .string ⟨#[103, 101, 116]⟩, .string ⟨#[112, 117, 116]⟩, .string ⟨#[100, 114, 111, 112]⟩, .string ⟨#[108, 105, 115, 116]⟩, .string ⟨#[99, 111, 109, 109, 105, 116]⟩, .string ⟨#[97, 98, 111, 114, 116]⟩, .string ⟨#[99, 108, 101, 97, 114]⟩, .string ⟨#[99, 114, 97, 115, 104]⟩, .string ⟨#[116, 101, 97, 114]⟩, .string ⟨#[108, 97, 115, 116]⟩] 9])) ++ BoxT rd (rdc told cb) 50 :: r) := by
          rw [List.cons_append, List.append_assoc]
          exact (unhide HL).kp0 (unhide HY3)
        refine (rsay (l1 := (CrtT cb sb h2.f h2.n h2.cs [] (ads st) :: (wseats st ++ [BoxT p2 #[.int .i64 1, .int .i64 1, .int .i64 2, .int .i64 2, .int .i64 2, .int .i64 2, .int .i64 3, .int .i64 1, .int .i64 1, .int .i64 0, .int .i64 0, .int .i64 2, .int .i64 0] 3, BoxT p1 #[.string ⟨#[115, 104, 111, 116]⟩, .string ⟨#[115, 117, 114, 101]⟩, .string ⟨#[108, 111, 111, 107]⟩, .string ⟨#[103, 101, 116]⟩, .string ⟨#[112, 117, 116]⟩, .string ⟨#[100, 114, 111, 112]⟩, .string ⟨#[108, 105, 115, 116]⟩, .string ⟨#[99, 111, 109, 109, 105, 116]⟩, .string ⟨#[97, 98, 111, 114, 116]⟩, .string ⟨#[99, 108, 101, 97, 114]⟩, .string ⟨#[99, 114, 97, 115, 104]⟩, .string ⟨#[116, 101, 97, 114]⟩, .string ⟨#[108, 97, 115, 116]⟩] 9]))) ([108, 97, 115, 116, 32] ++ xn ++ [32] ++ xf ++ [32] ++ xl) HA7 (by simp [say4] at hlen ⊢; omega)).mono ?_
        rintro e w7 ⟨rfl, HZ7⟩
        clear HA7
        have HH : Cou w0 w7 cb sb h2 st (BoxT p2 #[.int .i64 1, .int .i64 1, .int .i64 2, .int .i64 2, .int .i64 2, .int .i64 2, .int .i64 3, .int .i64 1, .int .i64 1, .int .i64 0, .int .i64 0, .int .i64 2, .int .i64 0] 3 :: BoxT p1 #[.string ⟨#[115, 104, 111, 116]⟩, .string ⟨#[115, 117, 114, 101]⟩, .string ⟨#[108, 111, 111, 107]⟩, .string ⟨#[103, 101, 116]⟩, .string ⟨#[112, 117, 116]⟩, .string ⟨#[100, 114, 111, 112]⟩, .string ⟨#[108, 105, 115, 116]⟩, .string ⟨#[99, 111, 109, 109, 105, 116]⟩, .string ⟨#[97, 98, 111, 114, 116]⟩, .string ⟨#[99, 108, 101, 97, 114]⟩, .string ⟨#[99, 114, 97, 115, 104]⟩, .string ⟨#[116, 101, 97, 114]⟩, .string ⟨#[108, 97, 115, 116]⟩] 9 :: BoxT rd (rdc (told ++ (([108, 97, 115, 116, 32] ++ xn ++ [32] ++ xf ++ [32] ++ xl) ++ [10])) cb) 50 :: r) := by
          have q := unhide HZ7
          rw [List.cons_append, List.append_assoc] at q
          exact q
        have dn := HH.n0
        rw [unhide HZN] at dn
        go_wp2_with fail
        refine hK.out _ _ (And.intro (cell_of_block (zoo_varm (unhide HZ7) (List.mem_append_right _ (List.Mem.head _))) rfl) (And.intro HH.c0 dn)) (fun hHeld2 => ?_)
        clear hK K hHeld
        have hHeld := hHeld2
        clear hHeld2
        try simp only [Act.put, List.setIfInBounds_toArray, List.set_cons_zero, List.set_cons_succ]
        refine wpAnyH_done (by kernel_rfl) ?_ _
        clear hHeld dn
        have HE := hide (Zoo.drop_ (l1 := [_]) (Zoo.drop_ (l1 := [_]) (cou_close (unhide HST) (unhide HI) HH)))
        clear HH
        go_wp2_with fail
        refine bodyPost_ret (v := .tuple #[]) (results_none Tryz.results19 _ _ _) rfl ?_
        rw [unhide HZN, unhide HZF, unhide HZL, unhide HXN, unhide HXF, unhide HXL, say4]
        exact ⟨rfl, HE⟩
      · have hlb : (nm == [108, 97, 115, 116]) = false := by simpa using hnl
        have c0 : wr.cell? ⟨g, o, none⟩ = some (.string ⟨nm.toArray⟩) := (unhide HQ).cell (by simp) ((unhide HK).cell (by simp) (unhide HC0))
        have hfl : h2 = hdo h x ∧ t2 = say (tell x.d (hev h x)) := by
          have e := unhide HDL
          rw [if_neg (fun q => hnl q.1), hx] at e
          cases e; exact ⟨rfl, rfl⟩
        have hxs := rdl_sz hx (unhide HRL)
        have HH2 := hide hfl.1
        have HT2 := hide hfl.2
        obtain ⟨y0, y1, y2, yr, hY⟩ := three ns
        have HYY := hide hY
        have HRQ := hide ((unhide HR).kp0 (unhide HQ))
        have hwq := (unhide HQ).size
        have HO := hide hO
        have j0 : ¬ pl < 0 := by omega
        have j5 : (0 : Int) < ((n + 3 : Nat) : Int) := by omega
        have j6 : (1 : Int) < ((n + 3 : Nat) : Int) := by omega
        have j7 : (2 : Int) < ((n + 3 : Nat) : Int) := by omega
        have J5 := hide j5
        have J6 := hide j6
        have J7 := hide j7
        clear HDL HWH hx hnl hO hY HCX HCM HPG HNS2 hfl j5 j6 j7
        go_upto_region 30 with fail
        go_cut [9] from 19 (fun s9 w' => ∃ (g' cap' : Nat), s9 = .slice (some ⟨g', 0, none⟩) (n + 3) cap' ∧ w'.cell? ⟨g', 0, none⟩ = some (.int .i64 y0) ∧ w'.cell? ⟨g', 1, none⟩ = some (.int .i64 y1) ∧ w'.cell? ⟨g', 2, none⟩ = some (.int .i64 y2) ∧ Hid (Kp [] W2 w'))
        case first =>
          go_wp2_with (at_builtin; refine wpList_krow (by rfl) (.tmp 158) (.tmp 159) 86 (by rfl) hu Tryz.infoI rfl (by omega) ((unhide HRQ).kp0 ((Kp.refl [] wr).alloc _)) (by simp; omega) (.slice (some ⟨wr.heap.size, 0, none⟩) 3 3) (ints [0, 0, 0]) 3 (by rfl) (by rfl) (src_ints [0, 0, 0] (heap_alloc_new wr _) rfl 3) (by omega) (n + 3) rfl ?_; intro a' cap' wd HR' HK' HX')
          rw [← ints_app, unhide HYY] at HR'
          have HKD := hide ((((unhide HK).trans0 (unhide HQ)).trans0 ((Kp.refl [] wr).alloc _)).trans (unhide HK') (fun x hx => .inr ((unhide HR).lo x hx).1))
          obtain ⟨g', rfl, e0, e1, e2⟩ := krow3 (unhide HR')
          go_meet
          exact ⟨g', cap', rfl, e0, e1, e2, HKD⟩
        case rest =>
          obtain ⟨g', cap', rfl, e0, e1, e2, HKD⟩ := hcut
          go_step
          exact rstep hm HLM hxs HG hlen HH2 HT2 hL (unhide J5) (unhide J6) (unhide J7) HO HYY e0 e1 e2 ((unhide HKD).cell (by simp) (unhide HC0)) (hide (Zoo.tail (Zoo.tail ((unhide HB).kp0 (unhide HKD)))))
end
/- The document's line, by its contract. -/
section
open Go.RowKit
set_option maxRecDepth 1000000
attribute [local go_sem ↓] Go.wp_at_zero Go.wp_at_succ

section
variable {w0 w : World} {r : List Thing} {rd cb : Nat} {told : List UInt8} {h : HSt}
def LnEnd (l : List UInt8) (h : HSt) (rd cb : Nat) (told : List UInt8) (w0 : World) (r : List Thing) (e : Ending) (w' : World) : Prop := e = .returned (.tuple #[]) ∧ Hid (Zoo w0 w' (CouT cb (dln h l).1 :: BoxT rd (rdc (told ++ (dln h l).2) cb) 50 :: r))
set_option maxHeartbeats 64000000 in
theorem rline (l : List UInt8) (hl : l.length ≤ 10000) (hg : Gnd w0) {m : Nat} (hm : m ≤ 300) (hlm : DLen h m) (hz : Zoo w0 w (CouT cb h :: BoxT rd (rdc told cb) 50 :: r)) (hlen : told.length + (dln h l).2.length ≤ 200000) :
    Calls Tryz.prog 19 #[.pointer (some ⟨rd, 0, none⟩), .string ⟨l.toArray⟩] w fun e w' => LnEnd l h rd cb told w0 r e w' := by
  have HC := hide (rwords l w hl)
  have HZ := hide hz
  have HG := hide hg
  have HLM := hide hlm
  have hwl : ∀ v ∈ wds l, v.length ≤ 10000 := fun v hv => Nat.le_trans (wds_len hv) hl
  have hcnt : (wds l).length ≤ 10001 := Nat.le_trans (wgo_cnt l []) (by omega)
  obtain ⟨h2, t2, hd2⟩ : ∃ h2 t2, dln h l = (h2, t2) := ⟨_, _, rfl⟩
  unfold LnEnd
  rw [hd2] at hlen ⊢
  dsimp only at hlen ⊢
  clear hz hg hl hlm
  cases hws : wds l with
  | nil =>
    have hdl : dln h l = (h, []) := by unfold dln; rw [hws]
    rw [hd2] at hdl
    cases hdl
    have HWS := hide hws
    clear hws hwl hd2 hcnt
    go_enter Tryz.func19, Tryz.ntmps19
    go_wp2_with (go_at_call 32; refine (unhide HC).mono ?_; rintro e w1 ⟨a, n, cap, hn, rfl, hr1, hk1⟩; obtain rfl : n = 0 := (by rw [hn, unhide HWS]; rfl); have HZ1 := hide ((unhide HZ).kp0 hk1); clear hr1 hk1 hn)
    refine bodyPost_ret (v := .tuple #[]) (results_none Tryz.results19 _ _ _) rfl ?_
    exact ⟨rfl, by rw [List.append_nil]; exact HZ1⟩
  | cons nm rs =>
    have hdl : dln h l = (if nm = [108, 97, 115, 116] ∧ rs = [] then (h, say [[108, 97, 115, 116], Lib.itoa h.n, Lib.itoa (fmx h.f 8), Lib.itoa (least h.n h.seat 5)]) else match rdl nm rs with | none => (h, say [[119, 104, 97, 116]]) | some x => (hdo h x, say (tell x.d (hev h x)))) := by unfold dln; rw [hws]; rfl
    have hrl : ∀ v ∈ rs, v.length ≤ 10000 := fun v hv => hwl v (by rw [hws]; simp [hv])
    have hnl : nm.length ≤ 10000 := hwl nm (by rw [hws]; simp)
    have HDL := hide (hd2.symm.trans hdl)
    have HWH : Hid (rdl nm rs = none → ¬ (nm = [108, 97, 115, 116] ∧ rs = []) → h2 = h ∧ t2 = [119, 104, 97, 116] ++ [10]) := hide (fun q1 q2 => by
      have e := unhide HDL
      rw [if_neg q2, q1] at e
      cases e
      exact ⟨rfl, rfl⟩)
    have HRL := hide hrl
    have HWS := hide hws
    obtain ⟨m0, hm0⟩ : ∃ m0, m0 = rs.length := ⟨_, rfl⟩
    have HM := hide hm0
    rw [hws, List.length_cons, ← hm0] at hcnt
    clear hdl hrl hwl hws hd2 hm0
    go_enter Tryz.func19, Tryz.ntmps19
    go_upto_region 4 with (go_at_call 32; refine (unhide HC).mono ?_; rintro e w1 ⟨a, n, cap, hn, rfl, hr1, hk1⟩; rw [unhide HWS] at hn hr1; rw [List.length_cons, ← unhide HM] at hn; subst hn; obtain ⟨g, o, rfl, hc1⟩ := krow_wrd hr1 (by simp); have HZ1 := hide ((unhide HZ).kp0 hk1); have hcap := hr1.le; have HC1 := hide hc1; clear hr1 hk1 hc1)
    have HB := hide (zoo_box2 (unhide HZ1) #[.string ⟨#[115, 104, 111, 116]⟩, .string ⟨#[115, 117, 114, 101]⟩, .string ⟨#[108, 111, 111, 107]⟩, .string ⟨#[103, 101, 116]⟩, .string ⟨#[112, 117, 116]⟩, .string ⟨#[100, 114, 111, 112]⟩, .string ⟨#[108, 105, 115, 116]⟩, .string ⟨#[99, 111, 109, 109, 105, 116]⟩, .string ⟨#[97, 98, 111, 114, 116]⟩, .string ⟨#[99, 108, 101, 97, 114]⟩, .string ⟨#[99, 114, 97, 115, 104]⟩, .string ⟨#[116, 101, 97, 114]⟩, .string ⟨#[108, 97, 115, 116]⟩] #[.int .i64 1, .int .i64 1, .int .i64 2, .int .i64 2, .int .i64 2, .int .i64 2, .int .i64 3, .int .i64 1, .int .i64 1, .int .i64 0, .int .i64 0, .int .i64 2, .int .i64 0] 9 3)
    have hk2 := ((Kp.refl [] w1).alloc (.cells #[.string ⟨#[115, 104, 111, 116]⟩, .string ⟨#[115, 117, 114, 101]⟩, .string ⟨#[108, 111, 111, 107]⟩, .string ⟨#[103, 101, 116]⟩, .string ⟨#[112, 117, 116]⟩, .string ⟨#[100, 114, 111, 112]⟩, .string ⟨#[108, 105, 115, 116]⟩, .string ⟨#[99, 111, 109, 109, 105, 116]⟩, .string ⟨#[97, 98, 111, 114, 116]⟩, .string ⟨#[99, 108, 101, 97, 114]⟩, .string ⟨#[99, 114, 97, 115, 104]⟩, .string ⟨#[116, 101, 97, 114]⟩, .string ⟨#[108, 97, 115, 116]⟩] 9)).alloc (.cells #[.int .i64 1, .int .i64 1, .int .i64 2, .int .i64 2, .int .i64 2, .int .i64 2, .int .i64 3, .int .i64 1, .int .i64 1, .int .i64 0, .int .i64 0, .int .i64 2, .int .i64 0] 3)
    have HC2 := hide (fun k v (q : (nm :: rs)[k]? = some v) => hk2.cell (by simp) (unhide HC1 k v q))
    have c1 : ((w1.alloc (.cells #[.string ⟨#[115, 104, 111, 116]⟩, .string ⟨#[115, 117, 114, 101]⟩, .string ⟨#[108, 111, 111, 107]⟩, .string ⟨#[103, 101, 116]⟩, .string ⟨#[112, 117, 116]⟩, .string ⟨#[100, 114, 111, 112]⟩, .string ⟨#[108, 105, 115, 116]⟩, .string ⟨#[99, 111, 109, 109, 105, 116]⟩, .string ⟨#[97, 98, 111, 114, 116]⟩, .string ⟨#[99, 108, 101, 97, 114]⟩, .string ⟨#[99, 114, 97, 115, 104]⟩, .string ⟨#[116, 101, 97, 114]⟩, .string ⟨#[108, 97, 115, 116]⟩] 9)).alloc (.cells #[.int .i64 1, .int .i64 1, .int .i64 2, .int .i64 2, .int .i64 2, .int .i64 2, .int .i64 3, .int .i64 1, .int .i64 1, .int .i64 0, .int .i64 0, .int .i64 2, .int .i64 0] 3)).cell? ⟨g, o, none⟩ = some (.string ⟨nm.toArray⟩) := unhide HC2 0 nm rfl
    clear hk2 HC1 HZ1 HC HZ
    generalize (w1.alloc (.cells #[.string ⟨#[115, 104, 111, 116]⟩, .string ⟨#[115, 117, 114, 101]⟩, .string ⟨#[108, 111, 111, 107]⟩, .string ⟨#[103, 101, 116]⟩, .string ⟨#[112, 117, 116]⟩, .string ⟨#[100, 114, 111, 112]⟩, .string ⟨#[108, 105, 115, 116]⟩, .string ⟨#[99, 111, 109, 109, 105, 116]⟩, .string ⟨#[97, 98, 111, 114, 116]⟩, .string ⟨#[99, 108, 101, 97, 114]⟩, .string ⟨#[99, 114, 97, 115, 104]⟩, .string ⟨#[116, 101, 97, 114]⟩, .string ⟨#[108, 97, 115, 116]⟩] 9)).alloc (.cells #[.int .i64 1, .int .i64 1, .int .i64 2, .int .i64 2, .int .i64 2, .int .i64 2, .int .i64 3, .int .i64 1, .int .i64 1, .int .i64 0, .int .i64 0, .int .i64 2, .int .i64 0] 3) = W2 at *
    generalize w1.heap.size + 1 = p2 at *
    generalize w1.heap.size = p1 at *
    go_upto_if 29 with fail
    go_cut [4, 7] from 19 (fun s4 s7 w' => ∃ (vs : List (List UInt8)) (bs : List UInt8) (n2 c2 : Nat), s4 = .slice (some ⟨g, o, none⟩) (n2 + 1) c2 ∧ s7 = .string ⟨bs.toArray⟩ ∧ n2 + 1 ≤ c2 ∧ n2 ≤ 10001 ∧ Hid (n2 = vs.length) ∧ Hid (pgs nm rs = some (vs, bs)) ∧ Hid (bs.length ≤ 10000) ∧ Hid (∀ k v, (nm :: vs)[k]? = some v → W2.cell? ⟨g, o + k, none⟩ = some (.string ⟨v.toArray⟩)) ∧ Hid (∀ v ∈ vs, v.length ≤ 10000) ∧ Hid (Kp [] W2 w'))
    case first =>
      by_cases hput : nm = [112, 117, 116]
      · have hpb : (nm == [112, 117, 116]) = true := by rw [hput]; rfl
        rw [hpb]
        subst hput
        clear hpb
        by_cases h3 : m0 = 3
        · subst h3
          obtain ⟨x, y, z, rfl⟩ := len3 (unhide HM).symm
          have c3 : W2.cell? ⟨g, o + 3, none⟩ = some (.string ⟨z.toArray⟩) := unhide HC2 3 z rfl
          have hzl : z.length ≤ 10000 := unhide HRL z (by simp)
          cases z with
          | nil =>
            have hpg : pgs [112, 117, 116] [x, y, []] = none := rfl
            have hnone := rdl_put hpg
            clear hpg
            obtain ⟨rfl, rfl⟩ := unhide HWH (hnone) (fun q => absurd q.1 (by decide))
            go_wp2_with (go_at_call 34; refine (rsay (l1 := [_, _, _]) [119, 104, 97, 116] (unhide HB) (by simp at hlen ⊢; omega)).mono ?_; rintro e w7 ⟨rfl, HZ7⟩)
            refine bodyPost_ret (v := .tuple #[]) (results_none Tryz.results19 _ _ _) rfl ?_
            exact ⟨rfl, Zoo.tail (Zoo.tail (unhide HZ7))⟩
          | cons c t =>
            have hs0 : (0 : Int) < ((c :: t).length : Int) := by simp
            have hget := get_lit (c :: t) 0 (by rw [size8]; simp) c rfl
            by_cases hc : c = 61
            · subst hc
              have hsz : (ByteArray.mk ((61 : UInt8) :: t).toArray).size = t.length + 1 := by rw [size8]; rfl
              have hext := ext_tl t 61
              have hpg : pgs [112, 117, 116] [x, y, 61 :: t] = (mn t).map fun b => ([x, y], b) := rfl
              have htl : t.length ≤ 10000 := by simp at hzl; omega
              have HMT := hide (fun W => rmeant ⟨t.toArray⟩ W (by rw [size8]; omega))
              rw [show (ByteArray.mk t.toArray).data.toList = t by simp] at HMT
              cases hmn : mn t with
              | none =>
                rw [hmn] at hpg HMT
                have hnone := rdl_put hpg
                clear hpg
                obtain ⟨rfl, rfl⟩ := unhide HWH hnone (fun q => absurd q.1 (by decide))
                clear hnone hmn hzl hget
                go_wp2_with (first | (go_at_call 33; refine (unhide HMT W2).mono ?_; rintro e w5 ⟨he, hb5⟩; obtain rfl : e = .returned (.tuple #[.string ⟨#[]⟩, .bool false]) := he; have HK5 := hide (kp_of_below hb5); have HB5 := hide ((unhide HB).kp0 (unhide HK5)); clear hb5) | (go_at_call 34; refine (rsay (l1 := [_, _, _]) [119, 104, 97, 116] (unhide HB5) (by simp at hlen ⊢; omega)).mono ?_; rintro e w7 ⟨rfl, HZ7⟩))
                refine bodyPost_ret (v := .tuple #[]) (results_none Tryz.results19 _ _ _) rfl ?_
                exact ⟨rfl, Zoo.tail (Zoo.tail (unhide HZ7))⟩
              | some b =>
                rw [hmn] at hpg HMT
                have HPG := hide hpg
                have hbl := mn_len hmn
                clear hpg hmn hzl hget
                go_wp2_with (go_at_call 33; refine (unhide HMT W2).mono ?_; rintro e w5 ⟨he, hb5⟩; obtain rfl : e = .returned (.tuple #[.string ⟨b.toArray⟩, .bool true]) := he; have HK5 := hide (kp_of_below hb5); have HB5 := hide ((unhide HB).kp0 (unhide HK5)); clear hb5)
                go_meet
                exact ⟨[x, y], b, 2, cap, rfl, rfl, by omega, by omega, hide rfl, HPG, hide (by omega), fun k v q => unhide HC2 k v (by match k, q with | 0, q => exact q | 1, q => exact q | 2, q => exact q), fun v hv => unhide HRL v (by simp at hv ⊢; rcases hv with rfl | rfl <;> simp), HK5⟩
            · have hcn : ¬ ((c.toNat : Int) = 61) := u8_ne hc rfl
              have hpg : pgs [112, 117, 116] [x, y, c :: t] = none := by
                have e : bts (c :: t) = none := if_neg hc
                show (bts (c :: t)).map _ = none
                rw [e]; rfl
              have hnone := rdl_put hpg
              clear hpg hc hzl
              obtain ⟨rfl, rfl⟩ := unhide HWH (hnone) (fun q => absurd q.1 (by decide))
              go_wp2_with (go_at_call 34; refine (rsay (l1 := [_, _, _]) [119, 104, 97, 116] (unhide HB) (by simp at hlen ⊢; omega)).mono ?_; rintro e w7 ⟨rfl, HZ7⟩)
              refine bodyPost_ret (v := .tuple #[]) (results_none Tryz.results19 _ _ _) rfl ?_
              exact ⟨rfl, Zoo.tail (Zoo.tail (unhide HZ7))⟩
        · have hi3 : ¬ ((m0 : Int) + 1 = 4) := by omega
          have hpg : pgs [112, 117, 116] rs = none := by
            unfold pgs
            rw [if_pos rfl]
            match rs, unhide HM with
            | [], _ => rfl
            | [_], _ => rfl
            | [_, _], _ => rfl
            | [_, _, _], e => exact absurd e h3
            | _ :: _ :: _ :: _ :: _, _ => rfl
          have hnone := rdl_put hpg
          clear hpg h3
          obtain ⟨rfl, rfl⟩ := unhide HWH (hnone) (fun q => absurd q.1 (by decide))
          go_wp2_with (go_at_call 34; refine (rsay (l1 := [_, _, _]) [119, 104, 97, 116] (unhide HB) (by simp at hlen ⊢; omega)).mono ?_; rintro e w7 ⟨rfl, HZ7⟩)
          refine bodyPost_ret (v := .tuple #[]) (results_none Tryz.results19 _ _ _) rfl ?_
          exact ⟨rfl, Zoo.tail (Zoo.tail (unhide HZ7))⟩

      · have hpb : (nm == [112, 117, 116]) = false := by simpa using hput
        have hpg : pgs nm rs = some (rs, []) := if_neg hput
        have HPG := hide hpg
        clear hput hpg
        rw [hpb]
        clear hpb
        go_wp2_with fail
        go_meet
        exact ⟨rs, [], m0, cap, rfl, rfl, hcap, by omega, HM, HPG, Nat.zero_le _, HC2, HRL, Kp.refl [] W2⟩
    case rest =>
      obtain ⟨vs, bs, n2, c2, rfl, rfl, hc2, hn2, HN2, HPG, HBL, HCV, HVL, HKC⟩ := hcut
      have d1 := (unhide HKC).cell (by simp) c1
      have hwc := (unhide HKC).size
      have hu : Tryz.prog.underlying 86 = some (.slice 3) := Tryz.underlying86
      clear hcap hcnt c1 hnl
      go_wp2_with fail
      go_loopw [9, 10] (fun t9 t10 wr => ∃ (i : Nat) (ns : List Int) (a : Option Addr) (n cap : Nat), t9 = .slice a n cap ∧ t10 = .int .i64 i ∧ 1 ≤ i ∧ i ≤ n2 + 1 ∧ n + 1 = i ∧ Hid (n = ns.length) ∧ Hid (nms (vs.take n) = some ns) ∧ Hid (KRow 3 1 W2.heap.size wr a n cap (ints ns)) ∧ Hid (Kp [] W2 wr)) (fun _ t _ => n2 + 1 - (intOf t).toNat)
      case atStart => exact ⟨1, [], none, 0, 0, rfl, rfl, by omega, by omega, rfl, rfl, rfl, krow_nil _ _ _ _, HKC⟩
      case round =>
        obtain ⟨i, ns, a, n, cap3, rfl, rfl, hi1, hi2, hni, HNL, HNS, HR, HK⟩ := hrel
        have hwsz := (unhide HK).size
        by_cases hlt : i < n2 + 1
        · obtain ⟨v, hv⟩ : ∃ v, vs[n]? = some v := ⟨_, List.getElem?_eq_getElem (by rw [← unhide HN2]; omega)⟩
          have cv : wr.cell? ⟨g, o + i, none⟩ = some (.string ⟨v.toArray⟩) := (unhide HK).cell (by simp) (unhide HCV i v (by rw [← hni]; simpa using hv))
          have hvl : v.length ≤ 10000 := unhide HVL v (List.mem_of_getElem? hv)
          have HV := hide hv
          have HA := hide (satoi v wr (gnd_kp (unhide HG) ((unhide HB).kp.trans0 (unhide HK))) (by omega))
          have j1 : (i : Int) < (n2 : Int) + 1 := by omega
          have j0 : (0 : Int) ≤ (i : Int) := by omega
          clear hv
          go_wp2_with (go_at_call 35; refine (unhide HA).mono ?_; rintro e w1 ⟨z, ev, rfl, hz, hk⟩; have HK1 := hide hk; have cw := hk.cell (by simp) cv; clear hk; rcases hz with ⟨ha, rfl, hb1, hb2⟩ | ⟨ha, T, p, rfl⟩)
          · by_cases hq : Lib.itoa z = v
            · have HNV := hide (show num v = some z by unfold num; rw [ha]; exact if_pos hq)
              subst hq
              clear ha
              have hcv := (Kp.refl [] w1).drew.cell (by simp) cw
              refine wp_region_held_drew (S := fun w' => w'.cell? ⟨g, o + i, none⟩ = some (.string ⟨(Lib.itoa z).toArray⟩)) (by kernel_rfl) hcv (fun hHeld => ?_)
              clear hcv
              have HK2 := hide ((unhide HK1).trans0 (Kp.refl [] w1).drew)
              generalize World.drew _ = WD at HK2 hHeld ⊢
              refine wpAnyH_tk (i := 0) (v := ?_) rfl (by kernel_rfl) (by kernel_rfl) (by kernel_rfl) (fun _ _ _ h => h) (Or.inl ⟨by rfl, ?_⟩) hHeld ?_
              rotate_left
              · intro w hSw
                try dsimp only at hSw
                go_simp
                try with_reducible rfl
              try simp only [Act.put, List.setIfInBounds_toArray, List.set_cons_zero, List.set_cons_succ]
              refine wpAnyH_tk (i := 1) (v := ?_) rfl (by kernel_rfl) (by kernel_rfl) (by kernel_rfl) (fun _ _ _ h => h) (Or.inl ⟨by rfl, ?_⟩) hHeld ?_
              rotate_left
              · intro w hSw
                try dsimp only at hSw
                go_simp
                try with_reducible rfl
              try simp only [Act.put, List.setIfInBounds_toArray, List.set_cons_zero, List.set_cons_succ]
              refine wpAnyH_tk (i := 2) (v := ?_) rfl (by kernel_rfl) (by kernel_rfl) (by kernel_rfl) (fun _ _ _ h => h) (Or.inl ⟨by rfl, ?_⟩) hHeld ?_
              rotate_left
              · intro w hSw
                try dsimp only at hSw
                go_simp
                try with_reducible rfl
              try simp only [Act.put, List.setIfInBounds_toArray, List.set_cons_zero, List.set_cons_succ]
              refine wpAnyH_tk (i := 3) (v := ?_) rfl (by kernel_rfl) (by kernel_rfl) (by kernel_rfl) (fun _ _ _ h => h) (Or.inl ⟨by rfl, ?_⟩) hHeld ?_
              rotate_left
              · intro w hSw
                try dsimp only at hSw
                go_simp
                try with_reducible rfl
              try simp only [Act.put, List.setIfInBounds_toArray, List.set_cons_zero, List.set_cons_succ]
              refine wpAnyH_tk (i := 5) (v := ?_) rfl (by kernel_rfl) (by kernel_rfl) (by kernel_rfl) (fun _ _ _ h => h) (Or.inl ⟨by rfl, ?_⟩) hHeld ?_
              rotate_left
              · intro w hSw
                try dsimp only at hSw
                go_simp
                try with_reducible rfl
              try simp only [Act.put, List.setIfInBounds_toArray, List.set_cons_zero, List.set_cons_succ]
              refine wpAnyH_tk (i := 6) (v := ?_) rfl (by kernel_rfl) (by kernel_rfl) (by kernel_rfl) (fun _ _ _ h => h) (Or.inl ⟨by rfl, ?_⟩) hHeld ?_
              rotate_left
              · intro w hSw
                try dsimp only at hSw
                go_simp
                try with_reducible rfl
              try simp only [Act.put, List.setIfInBounds_toArray, List.set_cons_zero, List.set_cons_succ]
              refine wpAnyH_tk (i := 7) (v := ?_) rfl (by kernel_rfl) (by kernel_rfl) (by kernel_rfl) (fun _ _ _ h => h) (Or.inl ⟨by rfl, ?_⟩) hHeld ?_
              rotate_left
              · intro w hSw
                try dsimp only at hSw
                go_simp
                try with_reducible rfl
              try simp only [Act.put, List.setIfInBounds_toArray, List.set_cons_zero, List.set_cons_succ]
              refine wpAnyH_tk (i := 8) (v := ?_) rfl (by kernel_rfl) (by kernel_rfl) (by kernel_rfl) (fun _ _ _ h => h) (Or.inl ⟨by rfl, ?_⟩) hHeld ?_
              rotate_left
              · intro w hSw
                try dsimp only at hSw
                go_simp
                try with_reducible rfl
              try simp only [Act.put, List.setIfInBounds_toArray, List.set_cons_zero, List.set_cons_succ]
              refine wpAnyH_only (i := 4) rfl (by kernel_rfl) (fun K hK => ?_)
              go_simp
              refine (rnum z _ (gnd_kp (unhide HG) ((unhide HB).kp.trans0 ((unhide HK).trans0 (unhide HK2)))) hb1 hb2).mono ?_
              rintro e w3 ⟨rfl, hk3⟩
              have HK3 := hide ((unhide HK2).trans0 hk3)
              clear hk3
              go_wp2_with fail
              refine hK.out _ _ ((unhide HK3).cell (by simp) cv) (fun hHeld2 => ?_)
              clear hK K hHeld
              have hHeld := hHeld2
              clear hHeld2
              try simp only [Act.put, List.setIfInBounds_toArray, List.set_cons_zero, List.set_cons_succ]
              refine wpAnyH_tk (i := 9) (v := ?_) rfl (by kernel_rfl) (by kernel_rfl) (by kernel_rfl) (fun _ _ _ h => h) (Or.inl ⟨by rfl, ?_⟩) hHeld ?_
              rotate_left
              · intro w hSw
                try dsimp only at hSw
                go_simp
                try with_reducible rfl
              try simp only [Act.put, List.setIfInBounds_toArray, List.set_cons_zero, List.set_cons_succ]
              refine wpAnyH_tk (i := 10) (v := ?_) rfl (by kernel_rfl) (by kernel_rfl) (by kernel_rfl) (fun _ _ _ h => h) (Or.inl ⟨by rfl, ?_⟩) hHeld ?_
              rotate_left
              · intro w hSw
                try dsimp only at hSw
                go_simp
                try with_reducible rfl
              try simp only [Act.put, List.setIfInBounds_toArray, List.set_cons_zero, List.set_cons_succ]
              refine wpAnyH_done (by kernel_rfl) ?_ _
              clear hHeld
              have hw3 := (unhide HK3).size
              go_wp2_with (at_builtin; refine wpList_krow (by rfl) (.tmp 89) (.tmp 91) 86 (by rfl) hu Tryz.infoI rfl (by omega) ((unhide HR).kp0 ((unhide HK3).alloc _)) (by simp; omega) (.slice (some ⟨w3.heap.size, 0, none⟩) 1 1) (ints [z]) 1 (by rfl) (by rfl) (src_ints [z] (heap_alloc_new w3 _) rfl 1) (by omega) (n + 1) rfl ?_; intro a' cap' wd HR' HK' HX')
              refine ⟨⟨i + 1, ns ++ [z], a', n + 1, cap', by rw [hni], by go_num, by omega, by omega, by omega, ?_, ?_, ?_, ?_⟩, by simp [intOf]; omega⟩
              · exact hide (by rw [List.length_append, ← unhide HNL]; rfl)
              · exact hide (by rw [take_snoc (unhide HV)]; exact nms_app _ _ (unhide HNS) (by unfold nms; rw [unhide HNV]; rfl))
              · rw [ints_app]; exact HR'
              · exact (((unhide HK).trans0 (unhide HK3)).trans0 ((Kp.refl [] w3).alloc _)).trans (unhide HK') (fun x hx => .inr ((unhide HR).lo x hx).1)
            · have hno : nms vs = none := nms_no (List.mem_of_getElem? (unhide HV)) (by unfold num; rw [ha]; exact if_neg hq)
              have hqb : (Lib.itoa z == v) = false := by simpa using hq
              clear ha hq
              obtain ⟨rfl, rfl⟩ := unhide HWH (rdl_bad (unhide HPG) hno).1 (rdl_bad (unhide HPG) hno).2
              clear hno
              have hcv := (Kp.refl [] w1).drew.cell (by simp) cw
              refine wp_region_held_drew (S := fun w' => w'.cell? ⟨g, o + i, none⟩ = some (.string ⟨v.toArray⟩)) (by kernel_rfl) hcv (fun hHeld => ?_)
              clear hcv
              have HK2 := hide ((unhide HK1).trans0 (Kp.refl [] w1).drew)
              generalize World.drew _ = WD at HK2 hHeld ⊢
              refine wpAnyH_tk (i := 0) (v := ?_) rfl (by kernel_rfl) (by kernel_rfl) (by kernel_rfl) (fun _ _ _ h => h) (Or.inl ⟨by rfl, ?_⟩) hHeld ?_
              rotate_left
              · intro w hSw
                try dsimp only at hSw
                go_simp
                try with_reducible rfl
              try simp only [Act.put, List.setIfInBounds_toArray, List.set_cons_zero, List.set_cons_succ]
              refine wpAnyH_tk (i := 1) (v := ?_) rfl (by kernel_rfl) (by kernel_rfl) (by kernel_rfl) (fun _ _ _ h => h) (Or.inl ⟨by rfl, ?_⟩) hHeld ?_
              rotate_left
              · intro w hSw
                try dsimp only at hSw
                go_simp
                try with_reducible rfl
              try simp only [Act.put, List.setIfInBounds_toArray, List.set_cons_zero, List.set_cons_succ]
              refine wpAnyH_tk (i := 2) (v := ?_) rfl (by kernel_rfl) (by kernel_rfl) (by kernel_rfl) (fun _ _ _ h => h) (Or.inl ⟨by rfl, ?_⟩) hHeld ?_
              rotate_left
              · intro w hSw
                try dsimp only at hSw
                go_simp
                try with_reducible rfl
              try simp only [Act.put, List.setIfInBounds_toArray, List.set_cons_zero, List.set_cons_succ]
              refine wpAnyH_tk (i := 3) (v := ?_) rfl (by kernel_rfl) (by kernel_rfl) (by kernel_rfl) (fun _ _ _ h => h) (Or.inl ⟨by rfl, ?_⟩) hHeld ?_
              rotate_left
              · intro w hSw
                try dsimp only at hSw
                go_simp
                try with_reducible rfl
              try simp only [Act.put, List.setIfInBounds_toArray, List.set_cons_zero, List.set_cons_succ]
              refine wpAnyH_tk (i := 5) (v := ?_) rfl (by kernel_rfl) (by kernel_rfl) (by kernel_rfl) (fun _ _ _ h => h) (Or.inl ⟨by rfl, ?_⟩) hHeld ?_
              rotate_left
              · intro w hSw
                try dsimp only at hSw
                go_simp
                try with_reducible rfl
              try simp only [Act.put, List.setIfInBounds_toArray, List.set_cons_zero, List.set_cons_succ]
              refine wpAnyH_tk (i := 6) (v := ?_) rfl (by kernel_rfl) (by kernel_rfl) (by kernel_rfl) (fun _ _ _ h => h) (Or.inl ⟨by rfl, ?_⟩) hHeld ?_
              rotate_left
              · intro w hSw
                try dsimp only at hSw
                go_simp
                try with_reducible rfl
              try simp only [Act.put, List.setIfInBounds_toArray, List.set_cons_zero, List.set_cons_succ]
              refine wpAnyH_tk (i := 7) (v := ?_) rfl (by kernel_rfl) (by kernel_rfl) (by kernel_rfl) (fun _ _ _ h => h) (Or.inl ⟨by rfl, ?_⟩) hHeld ?_
              rotate_left
              · intro w hSw
                try dsimp only at hSw
                go_simp
                try with_reducible rfl
              try simp only [Act.put, List.setIfInBounds_toArray, List.set_cons_zero, List.set_cons_succ]
              refine wpAnyH_tk (i := 8) (v := ?_) rfl (by kernel_rfl) (by kernel_rfl) (by kernel_rfl) (fun _ _ _ h => h) (Or.inl ⟨by rfl, ?_⟩) hHeld ?_
              rotate_left
              · intro w hSw
                try dsimp only at hSw
                go_simp
                try with_reducible rfl
              try simp only [Act.put, List.setIfInBounds_toArray, List.set_cons_zero, List.set_cons_succ]
              refine wpAnyH_only (i := 4) rfl (by kernel_rfl) (fun K hK => ?_)
              go_simp
              refine (rnum z _ (gnd_kp (unhide HG) ((unhide HB).kp.trans0 ((unhide HK).trans0 (unhide HK2)))) hb1 hb2).mono ?_
              rintro e w3 ⟨rfl, hk3⟩
              have HK3 := hide ((unhide HK2).trans0 hk3)
              clear hk3
              go_wp2_with fail
              refine hK.out _ _ ((unhide HK3).cell (by simp) cv) (fun hHeld2 => ?_)
              clear hK K hHeld
              have hHeld := hHeld2
              clear hHeld2
              try simp only [Act.put, List.setIfInBounds_toArray, List.set_cons_zero, List.set_cons_succ]
              refine wpAnyH_tk (i := 9) (v := ?_) rfl (by kernel_rfl) (by kernel_rfl) (by kernel_rfl) (fun _ _ _ h => h) (Or.inl ⟨by rfl, ?_⟩) hHeld ?_
              rotate_left
              · intro w hSw
                try dsimp only at hSw
                go_simp
                try with_reducible rfl
              try simp only [Act.put, List.setIfInBounds_toArray, List.set_cons_zero, List.set_cons_succ]
              refine wpAnyH_tk (i := 10) (v := ?_) rfl (by kernel_rfl) (by kernel_rfl) (by kernel_rfl) (fun _ _ _ h => h) (Or.inl ⟨by rfl, ?_⟩) hHeld ?_
              rotate_left
              · intro w hSw
                try dsimp only at hSw
                go_simp
                try with_reducible rfl
              try simp only [Act.put, List.setIfInBounds_toArray, List.set_cons_zero, List.set_cons_succ]
              refine wpAnyH_done (by kernel_rfl) ?_ _
              clear hHeld
              go_wp2_with (go_at_call 34; refine (rsay (l1 := [_, _, _]) [119, 104, 97, 116] ((unhide HB).kp0 ((unhide HK).trans0 (unhide HK3))) (by simp at hlen ⊢; omega)).mono ?_; rintro e w7 ⟨rfl, HZ7⟩)
              refine bodyPost_ret (v := .tuple #[]) (results_none Tryz.results19 _ _ _) rfl ?_
              exact ⟨rfl, Zoo.tail (Zoo.tail (unhide HZ7))⟩
          · have hno : nms vs = none := nms_no (List.mem_of_getElem? (unhide HV)) (by
              unfold num
              cases hc : Lib.atoiAll v with
              | ok u => exact absurd hc (ha u)
              | _ => rfl)
            clear ha
            obtain ⟨rfl, rfl⟩ := unhide HWH (rdl_bad (unhide HPG) hno).1 (rdl_bad (unhide HPG) hno).2
            clear hno
            go_quiet (fail)
            go_wp2_with (go_at_call 34; refine (rsay (l1 := [_, _, _]) [119, 104, 97, 116] ((unhide HB).kp0 (((unhide HK).trans0 (unhide HK1)).trans0 (kp_drewN w1 _))) (by simp at hlen ⊢; omega)).mono ?_; rintro e w7 ⟨rfl, HZ7⟩)
            refine bodyPost_ret (v := .tuple #[]) (results_none Tryz.results19 _ _ _) rfl ?_
            exact ⟨rfl, Zoo.tail (Zoo.tail (unhide HZ7))⟩
        · have hin : n = n2 := by omega
          subst hin
          have j1 : ¬ ((i : Int) < (n : Int) + 1) := by omega
          have hns : nms vs = some ns := by rw [← unhide HNS, unhide HN2, List.take_length]
          have HNS2 := hide hns
          have hnl : ns.length = n := (unhide HNL).symm
          have HC0 := hide (unhide HCV 0 nm rfl)
          have HNL2 := hide hnl
          clear hns HNS hnl HNL
          go_upto_region 20 with fail
          iterate 7 go_step
          exact rtab hm HLM HG hlen HDL HWH HRL HPG HNS2 HNL2 hn2 (by omega) HB HK HR HC0
end
end
/- The document's desk: NewDesk and Do, by their contracts. -/
section
open Go.RowKit
attribute [local go_sem ↓] Go.wp_at_zero Go.wp_at_succ

theorem DLen.le {h : HSt} {m k : Nat} (hl : DLen h m) (hk : m ≤ k) : DLen h k := fun s d hd => by
  have := hl s d hd
  omega
theorem dln_dlen {h : HSt} {m : Nat} (hl : DLen h m) (l : List UInt8) : DLen (dln h l).1 (m + 1) := by
  unfold dln
  cases wds l with
  | nil => exact hl.le (by omega)
  | cons w ws =>
    dsimp only
    split
    · exact hl.le (by omega)
    · cases rdl w ws with
      | none => exact hl.le (by omega)
      | some x => exact hl.step x
theorem dlen_0 : DLen h00 0 := fun s d hd => by cases hd
section
variable {w0 w : World} {r : List Thing} {rd cb : Nat} {told : List UInt8} {h : HSt}
theorem cou_hinv {w0 w : World} {cb : Nat} {h : HSt} {r : List Thing} (hz : Zoo w0 w (CouT cb h :: r)) : HInv h := by
  obtain ⟨_, _, _, _, _, hi⟩ := cou_see (l1 := []) hz
  exact hi
set_option maxHeartbeats 1000000 in
theorem rnew (hz : Zoo w0 w r) : Calls Tryz.prog 8 #[] w fun e w' => ∃ rd cb, e = .returned (.pointer (some ⟨rd, 0, none⟩)) ∧ Hid (Zoo w0 w' (CouT cb h00 :: BoxT rd (rdc [] cb) 50 :: r)) := by
  have HZ := hide hz
  clear hz
  go_enter Tryz.func8, Tryz.ntmps8
  go_wp2_with (go_at_call 13; refine (cou_new w).mono ?_; rintro e w1 ⟨cb, F, rfl, hh, hk⟩; have HZ1 : Hid (Zoo w0 w1 (CouT cb h00 :: r)) := (unhide HZ).cons hh hk; clear hh hk)
  go_ret
  exact ⟨w1.heap.size, cb, rfl, zoo_in ((unhide HZ1).box #[.string ⟨#[]⟩, .pointer (some ⟨cb, 0, none⟩)] 50)⟩
def RdoEnd (ls : List (List UInt8)) (h : HSt) (m n rd cb : Nat) (w0 : World) (r : List Thing) (e : Ending) (w' : World) : Prop := e = .returned (.string ⟨(drun h ls).2.toArray⟩) ∧ DLen (drun h ls).1 (m + n) ∧ Zoo w0 w' (CouT cb (drun h ls).1 :: BoxT rd (rdc (drun h ls).2 cb) 50 :: r)
set_option maxHeartbeats 4000000 in
theorem rdo (ls : List (List UInt8)) (n : Nat) (hn : n = ls.length) (a : Option Addr) (cap : Nat) (hw : Wrd w0 a ls) (hl : ∀ l ∈ ls, l.length ≤ 10000) (hg : Gnd w0) (hn150 : n ≤ 150) {m : Nat} (hm : m ≤ 150) (hlm : DLen h m) (hz : Zoo w0 w (CouT cb h :: BoxT rd (rdc told cb) 50 :: r)) :
    Calls Tryz.prog 11 #[.pointer (some ⟨rd, 0, none⟩), .slice a n cap] w fun e w' => RdoEnd ls h m n rd cb w0 r e w' := by
  have hb := zoo_varm hz (List.Mem.tail _ (List.Mem.head _))
  have c0 : w.cell? ⟨rd, 0, none⟩ = some (.string ⟨told.toArray⟩) := cell_of_block hb rfl
  have f0 : w.frozen? ⟨rd, 0, none⟩ = false := frozen_of_block _ hb
  have hz1 : Zoo w0 (w.setCell ⟨rd, 0, none⟩ (.string ⟨#[]⟩)) (CouT cb h :: BoxT rd (rdc [] cb) 50 :: r) := zoo_setc (l1 := [_]) (i := 0) (v := .string ⟨#[]⟩) hz
  have HZ0 := hide hz1
  have HW := hide hw
  have HG := hide hg
  have HN := hide hn
  have HL := hide hl
  have HLM := hide hlm
  clear hg hw hn hl hz hz1 hb hlm
  go_enter Tryz.func11, Tryz.ntmps11
  go_wp2_with fail
  clear c0 f0
  generalize w.setCell ⟨rd, 0, none⟩ (.string ⟨#[]⟩) = W1 at *
  go_loopw [5] (fun t wr => ∃ (k : Nat) (h1 : HSt) (acc : List UInt8), k ≤ n ∧ t = .int .i64 k ∧ acc.length ≤ 600 * k ∧ Hid (drun h (ls.take k) = (h1, acc)) ∧ Hid (DLen h1 (m + k)) ∧ Hid (Zoo w0 wr (CouT cb h1 :: BoxT rd (rdc acc cb) 50 :: r))) (fun t _ => n - (intOf t).toNat)
  case atStart => exact ⟨0, h, [], Nat.zero_le _, rfl, Nat.zero_le _, rfl, HLM, HZ0⟩
  case round =>
    obtain ⟨k, h1, acc, hk, rfl, hal, HI, HDL, HZR⟩ := hrel
    by_cases hlt : k < n
    · have i0 : (0 : Int) ≤ (k : Int) := by omega
      have i1 : (k : Int) < (n : Int) := by omega
      obtain ⟨l, hl⟩ : ∃ l, ls[k]? = some l := ⟨_, List.getElem?_eq_getElem (by rw [← unhide HN]; exact hlt)⟩
      obtain ⟨g, o, rfl, hc⟩ := ((unhide HW).kp0 (unhide HZR).kp) (by rw [← unhide HN]; omega)
      have c1 := hc k l hl
      have hdl := dln_len (cou_hinv (unhide HZR)) l
      have hrun : drun h (ls.take (k + 1)) = ((dln h1 l).1, acc ++ (dln h1 l).2) := by rw [take_snoc hl, drun_snoc, unhide HI]
      have HD := hide (rline l (unhide HL l (List.mem_of_getElem? hl)) (unhide HG) (by omega) (unhide HDL) (unhide HZR) (by omega))
      have HDN := hide (dln_dlen (unhide HDL) l)
      have HR := hide hrun
      clear hrun hc hl
      go_wp2_with (go_at_call 19; refine (unhide HD).mono ?_; rintro e w5 ⟨rfl, HZ5⟩)
      refine ⟨⟨k + 1, (dln h1 l).1, acc ++ (dln h1 l).2, by omega, by go_num, by rw [List.length_append]; omega, HR, HDN, HZ5⟩, by simp [intOf]; omega⟩
    · have i1 : ¬ (k : Int) < (n : Int) := by omega
      have hkn : k = n := by omega
      subst hkn
      have hI := unhide HI
      rw [List.take_of_length_le (by rw [← unhide HN]; omega)] at hI
      have HF := hide hI
      have c1 : wr.cell? ⟨rd, 0, none⟩ = some (.string ⟨acc.toArray⟩) := cell_of_block (zoo_varm (unhide HZR) (List.Mem.tail _ (List.Mem.head _))) rfl
      clear hI HI
      go_wp2_with fail
      go_ret
      unfold RdoEnd
      rw [unhide HF]
      exact ⟨rfl, unhide HDL, unhide HZR⟩
end
end
/- The laws' slow and deskBegun, by their contracts. -/
section
open Go.RowKit
attribute [local go_sem ↓] Go.wp_at_zero Go.wp_at_succ

theorem lsum_snoc (l : List (List UInt8)) (x : List UInt8) : lsum (l ++ [x]) = lsum l + x.length := by
  induction l with
  | nil => simp [lsum]
  | cons a r ih => simp only [List.cons_append, lsum, ih]; omega
theorem lsum_mem {l : List (List UInt8)} {x : List UInt8} (h : x ∈ l) : x.length ≤ lsum l := by
  induction l with
  | nil => cases h
  | cons a r ih =>
    simp only [lsum]
    rcases List.mem_cons.1 h with e | e
    · rw [e]; omega
    · have := ih e; omega
def SlEnd (ls : List (List UInt8)) (w : World) (e : Ending) (w' : World) : Prop := ∃ b : Bool, e = .returned (.bool b) ∧ (b = false → lsum ls ≤ 9000) ∧ w' = w
theorem slEnd_mk {ls : List (List UInt8)} {w : World} (b : Bool) (h : b = false → lsum ls ≤ 9000) : SlEnd ls w (.returned (.bool b)) w := ⟨b, rfl, h, rfl⟩
set_option maxHeartbeats 1000000 in
theorem dslow (ls : List (List UInt8)) (n : Nat) (hn : n = ls.length) (a : Option Addr) (cap : Nat) (w : World) (hw : Wrd w a ls) (hnm : n ≤ 9223372036854775807) (hl : ∀ l ∈ ls, l.length ≤ 140737488355327) :
    Calls Tryz.prog 6 #[.slice a n cap] w fun e w' => SlEnd ls w e w' := by
  have HW := hide hw
  have HN := hide hn
  have HL := hide hl
  clear hw hn hl
  go_enter Tryz.func6, Tryz.ntmps6
  go_wp2_with fail
  go_loop [3, 4] (fun s t => ∃ (k m : Nat), k ≤ n ∧ m ≤ 9000 ∧ s = .int .i64 m ∧ t = .int .i64 k ∧ Hid (m = lsum (ls.take k))) (fun _ t => n - (intOf t).toNat)
  case atStart => exact ⟨0, 0, Nat.zero_le _, by omega, rfl, rfl, rfl⟩
  case round =>
    obtain ⟨k, m, hk, hm, rfl, rfl, HI⟩ := hrel
    by_cases hlt : k < n
    · have i0 : (0 : Int) ≤ (k : Int) := by omega
      have i1 : (k : Int) < (n : Int) := by omega
      obtain ⟨l, hl⟩ : ∃ l, ls[k]? = some l := ⟨_, List.getElem?_eq_getElem (by rw [← unhide HN]; exact hlt)⟩
      obtain ⟨g, o, rfl, hc⟩ := (unhide HW) (by rw [← unhide HN]; omega)
      have c1 := hc k l hl
      have hll := unhide HL l (List.mem_of_getElem? hl)
      have hsz : (ByteArray.mk l.toArray).size = l.length := size8 l
      have hsum : m + l.length = lsum (ls.take (k + 1)) := by rw [take_snoc hl, lsum_snoc, ← unhide HI]
      have HS := hide hsum
      clear hsum hc hl
      by_cases hbig : 9000 < m + l.length
      · have i2 : (9000 : Int) < (m : Int) + (l.length : Int) := by omega
        go_wp2_with fail
        go_ret
        exact slEnd_mk true (fun h => by cases h)
      · have i2 : ¬ (9000 : Int) < (m : Int) + (l.length : Int) := by omega
        go_wp2_with fail
        exact ⟨⟨k + 1, m + l.length, by omega, by omega, by go_num, by go_num, HS⟩, by simp [intOf]; omega⟩
    · have i1 : ¬ (k : Int) < (n : Int) := by omega
      have hI := unhide HI
      rw [List.take_of_length_le (by rw [← unhide HN]; omega)] at hI
      go_wp2_with fail
      go_ret
      exact slEnd_mk false (fun _ => by omega)
def bgl : List (List UInt8) := [[115, 104, 111, 116, 32, 48], [112, 117, 116, 32, 48, 32, 49, 32, 61, 97, 92, 50, 48, 98], [103, 101, 116, 32, 48, 32, 49], [99, 111, 109, 109, 105, 116, 32, 48], [108, 111, 111, 107, 32, 49, 32, 48], [103, 101, 116, 32, 49, 32, 49], [108, 105, 115, 116, 32, 49, 32, 48, 32, 55], [115, 117, 114, 101, 32, 50], [108, 105, 115, 116, 32, 50, 32, 48, 32, 55], [108, 97, 115, 116], [120]]
def bgt : List UInt8 := [111, 107, 10, 111, 107, 10, 104, 97, 115, 32, 61, 97, 92, 50, 48, 98, 10, 111, 107, 32, 49, 10, 111, 107, 10, 104, 97, 115, 32, 45, 10, 97, 108, 108, 10, 111, 107, 10, 97, 108, 108, 32, 49, 61, 97, 92, 50, 48, 98, 10, 108, 97, 115, 116, 32, 49, 32, 48, 32, 48, 10, 119, 104, 97, 116, 10]
theorem bg_ok : lft bgl = (0, 0) := by kernel_rfl
theorem bg_told : (dox h00 bgl).2 = bgt := by kernel_rfl
theorem bg_len : ∀ l ∈ bgl, l.length ≤ 10000 := by decide
theorem kw_wrd {w0 : World} {l2 r : List Thing} {a : Option Addr} {n cap : Nat} {ws : List (List UInt8)} : ∀ (W : World) (l1 : List Thing), Zoo w0 W (l1 ++ (l2 ++ KwT 9 1 a n cap (strs ws) :: r)) → Wrd W a ws := fun W l1 hz => krow_wrd (kw_row (l1 := l1 ++ l2) (by rw [List.append_assoc]; exact hz))
set_option maxHeartbeats 2000000 in
theorem dbegun (w : World) (hg : Gnd w) : Calls Tryz.prog 5 #[] w fun e w' => e = .returned (.bool true) ∧ Kp [] w w' := by
  have HN := hide (dnew (zoo_nil (Kp.refl [] w)))
  have HG := hide hg
  clear hg
  go_enter Tryz.func5, Tryz.ntmps5
  go_wp2_with (first | (go_at_call 7; refine (unhide HN).mono ?_; rintro e w1 ⟨d, hb, rfl, HZ1⟩; have HZ2 := hide (zoo_b (kw_lit (unhide HZ1) bgl 11 rfl #[.string ⟨#[115, 104, 111, 116, 32, 48]⟩, .string ⟨#[112, 117, 116, 32, 48, 32, 49, 32, 61, 97, 92, 50, 48, 98]⟩, .string ⟨#[103, 101, 116, 32, 48, 32, 49]⟩, .string ⟨#[99, 111, 109, 109, 105, 116, 32, 48]⟩, .string ⟨#[108, 111, 111, 107, 32, 49, 32, 48]⟩, .string ⟨#[103, 101, 116, 32, 49, 32, 49]⟩, .string ⟨#[108, 105, 115, 116, 32, 49, 32, 48, 32, 55]⟩, .string ⟨#[115, 117, 114, 101, 32, 50]⟩, .string ⟨#[108, 105, 115, 116, 32, 50, 32, 48, 32, 55]⟩, .string ⟨#[108, 97, 115, 116]⟩, .string ⟨#[120]⟩] rfl (by omega)))) | (go_at_call 9; refine (ddo bgl 11 rfl _ _ (kw_wrd (l2 := [])) bg_len (unhide HG) (unhide HZ2)).mono ?_; rintro e w3 ⟨rfl, _, hz3⟩; rw [bg_ok, bg_told]; have HZ3 := hide hz3.kp; clear hz3))
  go_ret
  refine ⟨rfl, (unhide HZ3).alloc _⟩
end
/- DeskDoes: every Do is as the document says, one behind the other. -/
section
open Go.RowKit
attribute [local go_sem ↓] Go.wp_at_zero Go.wp_at_succ

theorem sl_two {b : Bool} {p : Prop} (h : b = false → p) : (b = false ∧ p) ∨ b = true := by
  cases b with
  | false => exact .inl ⟨rfl, h rfl⟩
  | true => exact .inr rfl
theorem Tryz.heldFa : Tryz.prog.stoodInHeld 31 = false := by kernel_rfl
theorem neqFa (c p : Int) (W : World) : (binOp .neq 31 (.agg #[.int .i64 c, .int .i64 p]) (.agg #[.int .i64 c, .int .i64 p])).run Tryz.prog W = .ok (.bool false) W := by
  have hu : Tryz.prog.underlying 31 = some (.struct (Tryz.prog.fieldsOf 31)) := by simp [Program.fieldsOf, Tryz.underlying31]
  have h : (Op.equalIn 10000 31 (.agg #[.int .i64 c, .int .i64 p]) (.agg #[.int .i64 c, .int .i64 p])).run Tryz.prog W = .ok true W := by
    rw [show (10000 : Nat) = 9999 + 1 from rfl, run_equalIn_struct W 9999 31 _ _ hu Tryz.heldFa]
    simp [Program.fieldsOf, Tryz.underlying31, Op.eqFields, go_sem, Tryz.underlying3]
  simp only [binOp]
  simp [Op.equal, Op.maxDepth, h]
theorem lft_len {ls : List (List UInt8)} {p : Int} (h : lft ls = (0, p)) : ls.length ≤ 150 := by
  unfold lft at h
  by_cases hb : 150 < ls.length
  · rw [if_pos hb] at h; cases h
  · omega
theorem zoo_prm (a b c e x : Thing) : (x :: a :: b :: c :: e :: []).Perm (c :: e :: a :: b :: [x]) := by
  have h1 : (x :: a :: b :: c :: e :: []).Perm ([a, b, c, e] ++ [x]) := (List.perm_append_comm (l₁ := [x]) (l₂ := [a, b, c, e]))
  exact h1.trans ((List.perm_append_comm (l₁ := [a, b]) (l₂ := [c, e])).append_right [x])
set_option maxHeartbeats 8000000 in
theorem ddoes (a0 : Option Addr) (n0 cap0 : Nat) (ls0 : List (List UInt8)) (a1 : Option Addr) (n1 cap1 : Nat) (ls1 : List (List UInt8)) (w : World) (hn0 : n0 = ls0.length) (hn1 : n1 = ls1.length) (hnm0 : n0 ≤ 9223372036854775807) (hnm1 : n1 ≤ 9223372036854775807) (_hc0 : n0 ≤ cap0) (_hc1 : n1 ≤ cap1) (hw0 : Wrd w a0 ls0) (hw1 : Wrd w a1 ls1) (z0 : ∀ l ∈ ls0, l.length ≤ 140737488355327) (z1 : ∀ l ∈ ls1, l.length ≤ 140737488355327) (_hnone0 : a0 = none → cap0 = 0) (_hnone1 : a1 = none → cap1 = 0) (hg : Gnd w) :
    Calls Tryz.prog 3 #[.slice a0 n0 cap0, .slice a1 n1 cap1] w fun e w' => e = .returned (.bool true) ∧ Below w.heap.size w w' := by
  have HB := hide (dbegun w hg)
  have HG := hide hg
  have HN0 := hide hn0
  have HN1 := hide hn1
  have HW0 := hide hw0
  have HW1 := hide hw1
  have HL0 := hide z0
  have HL1 := hide z1
  have HS0 := hide (fun W (hk : Kp [] w W) => dslow ls0 n0 hn0 a0 cap0 W (hw0.kp0 hk) hnm0 z0)
  have HS1 := hide (fun W (hk : Kp [] w W) => dslow ls1 n1 hn1 a1 cap1 W (hw1.kp0 hk) hnm1 z1)
  clear hg hn0 hn1 hw0 hw1 z0 z1 hnm0 hnm1 _hc0 _hc1 _hnone0 _hnone1
  go_enter Tryz.func3, Tryz.ntmps3
  by_cases hb0 : 200 < n0
  · have i0 : (200 : Int) < (n0 : Int) := by omega
    go_wp2_with (go_at_call 5; refine (unhide HB).mono ?_; rintro e w1 ⟨rfl, hk1⟩; have HK1 := hide hk1; clear hk1)
    go_ret
    exact ⟨rfl, below_of_kp (unhide HK1)⟩
  have i0 : ¬ (200 : Int) < (n0 : Int) := by omega
  by_cases hb1 : 200 < n1
  · have i1 : (200 : Int) < (n1 : Int) := by omega
    go_wp2_with (go_at_call 5; refine (unhide HB).mono ?_; rintro e w1 ⟨rfl, hk1⟩; have HK1 := hide hk1; clear hk1)
    go_ret
    exact ⟨rfl, below_of_kp (unhide HK1)⟩
  have i1 : ¬ (200 : Int) < (n1 : Int) := by omega
  go_wp2_with (first | (go_at_call 5; refine (unhide HB).mono ?_; rintro e w1 ⟨rfl, hk1⟩; have HK1 := hide hk1; clear hk1) | (go_at_call_of 6 cap0; refine (unhide HS0 _ (unhide HK1)).mono ?_; rintro e w1b ⟨b, rfl, hb, hw1⟩; subst w1b; obtain ⟨rfl, hs0⟩ | rfl := sl_two hb) | (go_at_call_of 6 cap1; refine (unhide HS1 _ (unhide HK1)).mono ?_; rintro e w1b ⟨b, rfl, hb, hw1⟩; subst w1b; obtain ⟨rfl, hs1⟩ | rfl := sl_two hb) | (go_at_call 7; refine (dnew (zoo_nil (unhide HK1))).mono ?_; rintro e w2 ⟨d, hb1, rfl, HZ2⟩) | (go_at_call 8; refine (rnew (unhide HZ2)).mono ?_; rintro e w3 ⟨rd, cb, rfl, HZ3⟩))
  all_goals try (go_ret; exact ⟨rfl, below_of_kp (unhide HK1)⟩)
  have HZ4 : Hid (Zoo w (w3.alloc (.cells #[.slice a0 n0 cap0, .slice a1 n1 cap1] 22)) (HalT hb1 h00 :: DskT d hb1 [] :: CouT cb h00 :: BoxT rd (rdc [] cb) 50 :: [BoxT w3.heap.size #[.slice a0 n0 cap0, .slice a1 n1 cap1] 22])) := hide ((Zoo.perm ((unhide HZ3).box #[.slice a0 n0 cap0, .slice a1 n1 cap1] 22) (zoo_prm _ _ _ _ _)))
  generalize w3.alloc (.cells #[.slice a0 n0 cap0, .slice a1 n1 cap1] 22) = W4 at *
  generalize w3.heap.size = pL at *
  clear HZ3 HZ2 HB HS0 HS1
  go_loopw [8] (fun t wr => ∃ (k : Nat) (h : HSt) (told : List UInt8), k ≤ 2 ∧ t = .int .i64 k ∧ Hid (DLen h (150 * k)) ∧ Hid (Zoo w wr (HalT hb1 h :: DskT d hb1 [] :: CouT cb h :: BoxT rd (rdc told cb) 50 :: [BoxT pL #[.slice a0 n0 cap0, .slice a1 n1 cap1] 22]))) (fun t _ => 2 - (intOf t).toNat)
  case atStart => exact ⟨0, h00, [], by omega, rfl, dlen_0, HZ4⟩
  case round =>
    obtain ⟨k, h, told, hk, rfl, HDL, HZR⟩ := hrel
    by_cases hlt : k < 2
    · have i2 : (k : Int) < 2 := by omega
      have i3 : (0 : Int) ≤ (k : Int) := by omega
      obtain ⟨a, n, cap, ls, hlk, hn, hw, hl, hs⟩ : ∃ a n cap ls, (#[.slice a0 n0 cap0, .slice a1 n1 cap1] : Array Value)[k]? = some (.slice a n cap) ∧ n = ls.length ∧ Wrd w a ls ∧ (∀ l ∈ ls, l.length ≤ 140737488355327) ∧ lsum ls ≤ 9000 := by
        match k, hlt with
        | 0, _ => exact ⟨a0, n0, cap0, ls0, rfl, unhide HN0, unhide HW0, unhide HL0, hs0⟩
        | 1, _ => exact ⟨a1, n1, cap1, ls1, rfl, unhide HN1, unhide HW1, unhide HL1, hs1⟩
      have q0 : wr.cell? ⟨pL, k, none⟩ = some (.slice a n cap) := cell_of_block (zoo_varm (unhide HZR) (List.Mem.tail _ (List.Mem.tail _ (List.Mem.tail _ (List.Mem.tail _ (List.Mem.head _)))))) hlk
      have hlt2 : ∀ l ∈ ls, l.length ≤ 10000 := fun l hl => Nat.le_trans (lsum_mem hl) (by omega)
      obtain ⟨⟨c, p⟩, hcp⟩ : ∃ q, lft ls = q := ⟨_, rfl⟩
      obtain ⟨⟨h1, tx⟩, hdx⟩ : ∃ q, dox h ls = q := ⟨_, rfl⟩
      have hdo := ddo ls n hn a cap (fun W' _ hz' => hw.kp0 hz'.kp) hlt2 (unhide HG) (unhide HZR)
      unfold DoEnd at hdo
      rw [hcp, hdx] at hdo
      dsimp only at hdo
      have HDO := hide hdo
      have HCP := hide hcp
      have HDX := hide hdx
      have HN := hide hn
      have HW := hide hw
      have HLL := hide hl
      have HLT := hide hlt2
      clear hdo hcp hdx hn hw hl hlt2 hs
      by_cases hc : c = 0
      · subst hc
        have hn150 : n ≤ 150 := by rw [unhide HN]; exact lft_len (unhide HCP)
        have hm150 : 150 * k ≤ 150 := by omega
        have hrn : drun h ls = (h1, tx) := by rw [← unhide HDX]; unfold dox; rw [unhide HCP]; simp
        have HRN := hide hrn
        clear hrn
        go_wp2_with (first | (go_at_call 9; refine (unhide HDO).mono ?_; rintro e w5 ⟨rfl, b1, hz5⟩; have HZ5 := hide (hz5.box #[.int .i64 0, .int .i64 p] 31); have q1 := cell_of_block (i := k) (zoo_varm (unhide HZ5) (List.Mem.tail _ (List.Mem.tail _ (List.Mem.tail _ (List.Mem.tail _ (List.Mem.tail _ (List.Mem.head _))))))) hlk; have HLF := hide (rlines ls n (unhide HN) a cap (w5.alloc (.cells #[.int .i64 0, .int .i64 p] 31)) ((unhide HW).kp0 (unhide HZ5).kp) (unhide HLL)); clear hz5) | (go_at_call 10; refine (unhide HLF).mono ?_; rintro e w6 ⟨c', p', rfl, hcp, hk6⟩; rw [unhide HCP] at hcp; cases hcp; have HZ6 := hide (((unhide HZ5).kp0 hk6).box #[.int .i64 0, .int .i64 p] 31); have q2 := cell_of_block (i := k) (zoo_varm (unhide HZ6) (List.Mem.tail _ (List.Mem.tail _ (List.Mem.tail _ (List.Mem.tail _ (List.Mem.tail _ (List.Mem.tail _ (List.Mem.head _)))))))) hlk; have g0 := cell_of_block (i := 0) (zoo_varm (unhide HZ6) (List.Mem.head _)) rfl; have g1 := cell_of_block (i := 1) (zoo_varm (unhide HZ6) (List.Mem.head _)) rfl; have f0 := cell_of_block (i := 0) (zoo_varm (unhide HZ6) (List.Mem.tail _ (List.Mem.head _))) rfl; have f1 := cell_of_block (i := 1) (zoo_varm (unhide HZ6) (List.Mem.tail _ (List.Mem.head _))) rfl; have hne := neqFa 0 p (w6.alloc (.cells #[.int .i64 0, .int .i64 p] 31)); clear hk6 HLF) | (go_at_call 11; refine (rdo ls n (unhide HN) a cap (unhide HW) (unhide HLT) (unhide HG) hn150 hm150 (unhide HDL) (zoo_42 (unhide HZ6))).mono ?_; rintro e w7 ⟨he, hd7, hz7⟩; rw [unhide HRN] at he hd7 hz7; obtain rfl : e = .returned (.string ⟨tx.toArray⟩) := he; have HZ7 := hide hz7; have HD7 := hide hd7; clear hz7 hd7))
        refine ⟨⟨k + 1, h1, tx, by omega, by go_num, ?_, ?_⟩, by simp [intOf]; omega⟩
        · exact hide ((unhide HD7).le (by omega))
        · exact hide (zoo_22 (Zoo.drop_ (l1 := [_, _]) (Zoo.drop_ (l1 := [_, _]) (unhide HZ7))))
      · have hcb : (c != 0) = true := by simpa using hc
        have hcb2 : (c == 0) = false := by simpa using hc
        have e1 : h1 = h ∧ tx = [] := by
          have q := unhide HDX
          unfold dox at q
          rw [unhide HCP, if_pos hc] at q
          cases q; exact ⟨rfl, rfl⟩
        obtain ⟨rfl, rfl⟩ := e1
        go_wp2_with (first | (go_at_call 9; refine (unhide HDO).mono ?_; rintro e w5 ⟨rfl, b1, hz5⟩; have HZ5 := hide (hz5.box #[.int .i64 c, .int .i64 p] 31); have q1 := cell_of_block (i := k) (zoo_varm (unhide HZ5) (List.Mem.tail _ (List.Mem.tail _ (List.Mem.tail _ (List.Mem.tail _ (List.Mem.tail _ (List.Mem.head _))))))) hlk; have HLF := hide (rlines ls n (unhide HN) a cap (w5.alloc (.cells #[.int .i64 c, .int .i64 p] 31)) ((unhide HW).kp0 (unhide HZ5).kp) (unhide HLL)); clear hz5) | (go_at_call 10; refine (unhide HLF).mono ?_; rintro e w6 ⟨c', p', rfl, hcp, hk6⟩; rw [unhide HCP] at hcp; cases hcp; have HZ6 := hide (((unhide HZ5).kp0 hk6).box #[.int .i64 c, .int .i64 p] 31); have q2 := cell_of_block (i := k) (zoo_varm (unhide HZ6) (List.Mem.tail _ (List.Mem.tail _ (List.Mem.tail _ (List.Mem.tail _ (List.Mem.tail _ (List.Mem.tail _ (List.Mem.head _)))))))) hlk; have g0 := cell_of_block (i := 0) (zoo_varm (unhide HZ6) (List.Mem.head _)) rfl; have g1 := cell_of_block (i := 1) (zoo_varm (unhide HZ6) (List.Mem.head _)) rfl; have f0 := cell_of_block (i := 0) (zoo_varm (unhide HZ6) (List.Mem.tail _ (List.Mem.head _))) rfl; have f1 := cell_of_block (i := 1) (zoo_varm (unhide HZ6) (List.Mem.tail _ (List.Mem.head _))) rfl; have hne := neqFa c p (w6.alloc (.cells #[.int .i64 c, .int .i64 p] 31)); clear hk6 HLF))
        refine ⟨⟨k + 1, h1, told, by omega, by go_num, ?_, ?_⟩, by simp [intOf]; omega⟩
        · exact hide ((unhide HDL).le (by omega))
        · exact hide (Zoo.tail (Zoo.tail (unhide HZ6)))
    · have i2 : ¬ (k : Int) < 2 := by omega
      go_wp2_with fail
      go_ret
      exact ⟨rfl, below_of_kp (unhide HZR).kp⟩
end
end Go.Proofs.YtldkeaeohceckadGreatDoor
