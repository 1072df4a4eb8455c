/- append onto bytes, at the operation; appendPair, by its contract. -/
import Derived.Test.YtfcfoabdangfhabQ1
namespace Go.Proofs.Ytfcfoabdangfhab
open Go.RowKit
set_option maxRecDepth 20000
attribute [local go_sem ↓] Go.wp_at_zero Go.wp_at_succ

theorem wpList_app {ops : Array Oper} {rest : List Oper} {o : Oper} {a : Act} {w : World} {Q : Exit → Act → World → Prop} (hw : Region.wanted o (yielded ops a.tmps) = true) (s x : Operand) (tx : TypeId)
    (ho : o.op = .call { callee := .builtin .append, args := #[s, x], argTypes := #[23, tx] }) {w0 : World} {g cap : Nat} {bs : List UInt8} (h : Row w0 w g cap bs) (n : Nat) (hn : n = bs.length) (xv : Value) (news : List UInt8)
    (hs : a.eval s = .slice (some ⟨g, 0, none⟩) n cap) (hx : a.eval x = xv) (hsrc : Src Try.prog 1 tx xv news.length (bcells news) w) (hm : bs.length + news.length ≤ 100000)
    (k : ∀ g' cap' n' w', Hid (n' = (bs ++ news).length) → Hid (Row w0 w' g' cap' (bs ++ news)) → Hid (Kp [g] w w') → Hid (g' = g ∨ g' = w.heap.size) → wpList Try.prog ops Q rest (a.put o.dst (.slice (some ⟨g', 0, none⟩) n' cap')) w') : wpList Try.prog ops Q (o :: rest) a w := by
  subst hn
  obtain ⟨g', cap', w', hr, h1, h2, h3⟩ := run_app h tx o.type xv news hsrc hm
  refine wpList_step fun K hK => ?_
  rw [if_pos hw]
  unfold Oper.wp execOp
  simp only [ho, resolve, invoke, builtin, Sem.run_bind, Sem.run_pure, Result.andThen_ok, List.map_toArray, List.map_cons, List.map_nil, hs, hx, hr]
  exact hK _ _ (k g' cap' _ w' rfl h1 h2 h3)

theorem wpList_app_nil {ops : Array Oper} {rest : List Oper} {o : Oper} {a : Act} {w : World} {Q : Exit → Act → World → Prop} (hw : Region.wanted o (yielded ops a.tmps) = true) (s x : Operand) (tx : TypeId)
    (ho : o.op = .call { callee := .builtin .append, args := #[s, x], argTypes := #[23, tx] }) {w0 : World} (hk : Kp [] w0 w) (xv : Value) (news : List UInt8)
    (hs : a.eval s = .slice none 0 0) (hx : a.eval x = xv) (hsrc : Src Try.prog 1 tx xv news.length (bcells news) w) (hp : 0 < news.length) (hm : news.length ≤ 100000)
    (k : ∀ g' cap' n' w', Hid (n' = news.length) → Hid (Row w0 w' g' cap' news) → Hid (Kp [] w w') → Hid (g' = w.heap.size) → wpList Try.prog ops Q rest (a.put o.dst (.slice (some ⟨g', 0, none⟩) n' cap')) w') : wpList Try.prog ops Q (o :: rest) a w := by
  obtain ⟨cap', w', hr, h1, h2⟩ := run_app_nil hk tx o.type xv news hsrc hp hm
  refine wpList_step fun K hK => ?_
  rw [if_pos hw]
  unfold Oper.wp execOp
  simp only [ho, resolve, invoke, builtin, Sem.run_bind, Sem.run_pure, Result.andThen_ok, List.map_toArray, List.map_cons, List.map_nil, hs, hx, hr]
  exact hK _ _ (k w.heap.size cap' _ w' rfl h1 h2 rfl)

theorem mod_b8 (k : Int) : k % 256 = ((b8 k).toNat : Int) := (b8_toNat k).symm

/-- One byte, just laid into a block of its own. -/
theorem one_src {w : World} (b : Nat) (hb : b = w.heap.size) (u : UInt8) (x : Int) (h : x = (u.toNat : Int)) : Src Try.prog 1 23 (.slice (some ⟨b, 0, none⟩) 1 1) [u].length (bcells [u]) (w.alloc (.cells #[.int .u8 x] 5)) := by
  subst h
  subst hb
  exact (row_lit w w (Kp.refl _ _) [u] #[.int .u8 u.toNat] rfl (by simp)).byt.src 1

def ApEnd (w0 : World) (bs : List UInt8) (e : Ending) (w' : World) : Prop := ∃ g' cap' n', e = .returned (.slice (some ⟨g', 0, none⟩) n' cap') ∧ n' = bs.length ∧ Row w0 w' g' cap' bs
theorem apEnd_mk {w0 w' : World} {bs : List UInt8} {g' cap' n' : Nat} (hn : n' = bs.length) (h : Row w0 w' g' cap' bs) : ApEnd w0 bs (.returned (.slice (some ⟨g', 0, none⟩) n' cap')) w' := ⟨g', cap', n', rfl, hn, h⟩

theorem box_far {w w2 : World} {k x : Int} {t : Bool} {s : ByteArray} {g g2 : Nat} (hk : Kp [g] ((w.alloc (.cells #[.int .i64 k, .bool t, .string s] 40)).alloc (.cells #[.int .u8 x] 5)) w2)
    (hg2 : g2 = g ∨ g2 = ((w.alloc (.cells #[.int .i64 k, .bool t, .string s] 40)).alloc (.cells #[.int .u8 x] 5)).heap.size) (hg : g < w.heap.size) :
    w2.cell? ⟨w.heap.size, 1, none⟩ = some (.bool t) ∧ w2.cell? ⟨w.heap.size, 1 + 1, none⟩ = some (.string s) ∧ Hid (w.heap.size < w2.heap.size ∧ g2 ≠ w.heap.size) := by
  have h1 := hk.size
  simp at h1 hg2
  exact ⟨hk.cell (by simp; omega) (by simp), hk.cell (by simp; omega) (by simp), by omega, by omega⟩
theorem str_far {w2 w3 : World} {o : Obj} {s : ByteArray} {g2 q : Nat} (hk : Kp [g2] (w2.alloc o) w3) (hq : q < w2.heap.size ∧ g2 ≠ q) (h : w2.cell? ⟨q, 1 + 1, none⟩ = some (.string s)) : w3.cell? ⟨q, 1 + 1, none⟩ = some (.string s) :=
  hk.cell (by simp; omega) (((Kp.refl [] w2).alloc o).cell (by simp) h)

set_option maxHeartbeats 1000000 in
theorem appendPair17 {w0 w : World} {g cap n : Nat} {bs : List UInt8} (k : Int) (t : Bool) (s : ByteArray) (h : Row w0 w g cap bs) (hn : n = bs.length) (hm : bs.length ≤ 2000) (hs : s.size ≤ 300) :
    Calls Try.prog 37 #[.slice (some ⟨g, 0, none⟩) n cap, .agg #[.int .i64 k, .bool t, .string s]] w fun e w' => ApEnd w0 (bs ++ pb ⟨k, t, s⟩) e w' := by
  have hlt := h.lt
  have HR := hide (h.kp0 (((Kp.refl [] w).alloc (.cells #[.int .i64 k, .bool t, .string s] 40))))
  have HN := hide hn
  clear h hn
  cases t with
  | false =>
    go_enter Try.func37, Try.ntmps37
    go_wp2_with (first | (at_builtin; refine wpList_app (by rfl) (.tmp 5) (.tmp 9) 23 rfl ((unhide HR).kp0 ((Kp.refl [] _).alloc _)) n (unhide HN) (.slice (some ⟨w.heap.size + 1, 0, none⟩) 1 1) [b8 k] rfl rfl (one_src _ (by simp) (b8 k) _ (mod_b8 k)) (by simp; omega) ?_; intro g2 c2 n2 w2 hn2 hr2 hk2 hg2; obtain ⟨p1, p2, HQ2⟩ := box_far (unhide hk2) (unhide hg2) hlt.2) | (at_builtin; refine wpList_app (by rfl) (.tmp 15) (.tmp 16) 23 rfl ((unhide hr2).kp0 ((Kp.refl [] _).alloc _)) n2 (unhide hn2) (.slice (some ⟨w2.heap.size, 0, none⟩) 1 1) [255] rfl rfl (one_src _ rfl 255 _ rfl) (by simp; omega) ?_; intro g3 c3 n3 w3 hn3 hr3 hk3 hg3))
    go_ret
    exact apEnd_mk (by rw [unhide hn3]; simp [pb]) (by have := unhide hr3; simpa [pb] using this)
  | true =>
    go_enter Try.func37, Try.ntmps37
    go_wp2_with (first | (at_builtin; refine wpList_app (by rfl) (.tmp 5) (.tmp 9) 23 rfl ((unhide HR).kp0 ((Kp.refl [] _).alloc _)) n (unhide HN) (.slice (some ⟨w.heap.size + 1, 0, none⟩) 1 1) [b8 k] rfl rfl (one_src _ (by simp) (b8 k) _ (mod_b8 k)) (by simp; omega) ?_; intro g2 c2 n2 w2 hn2 hr2 hk2 hg2; obtain ⟨p1, p2, HQ2⟩ := box_far (unhide hk2) (unhide hg2) hlt.2) | (at_builtin; refine wpList_app (by rfl) (.tmp 18) (.tmp 24) 23 rfl ((unhide hr2).kp0 ((Kp.refl [] _).alloc _)) n2 (unhide hn2) (.slice (some ⟨w2.heap.size, 0, none⟩) 1 1) [b8 s.size] rfl rfl (one_src _ rfl (b8 s.size) _ (mod_b8 s.size)) (by simp; omega) ?_; intro g3 c3 n3 w3 hn3 hr3 hk3 hg3; have p3 := str_far (unhide hk3) (unhide HQ2) p2; clear p1 p2) | (at_builtin; refine wpList_app (by rfl) (.tmp 26) (.tmp 29) 9 rfl (unhide hr3) n3 (unhide hn3) (.string s) s.data.toList rfl rfl (str_src _ s) (by simp; omega) ?_; intro g4 c4 n4 w4 hn4 hr4 hk4 hg4))
    go_ret
    exact apEnd_mk (by rw [unhide hn4]; simp [pb]) (by have := unhide hr4; simpa [pb] using this)
end Go.Proofs.Ytfcfoabdangfhab
