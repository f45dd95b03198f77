/-
  The fields of a message in memory, turned one by one; what the blanker does to each.
-/
import Derived.Test.YthecijjmgfempaaVSame
import Derived.Test.YthecijjmgfempaaM2
namespace Go.Proofs.Ythecijjmgfempaa
open Go.RowKit

theorem vrow_setCells {T B : Nat} : ∀ (vs L olds Rr : List Value) (w : World), olds.length = vs.length → VRow w B T (L ++ olds ++ Rr) → VRow (w.setCells B L.length vs) B T (L ++ vs ++ Rr) ∧ Beside (· = B) w (w.setCells B L.length vs)
  | [], L, olds, Rr, w, h, hr => by
    obtain rfl : olds = [] := List.length_eq_zero_iff.1 (by simpa using h)
    exact ⟨hr, Beside.refl _ _⟩
  | v :: vs, L, olds, Rr, w, h, hr => by
    obtain ⟨o, os, rfl⟩ : ∃ o os, olds = o :: os := by
      cases olds with
      | nil => simp at h
      | cons o os => exact ⟨o, os, rfl⟩
    have h1 : VRow (w.setCell ⟨B, L.length, none⟩ v) B T ((L ++ [v]) ++ os ++ Rr) := by
      have h2 := hr.set L.length v
      rw [List.append_assoc, List.cons_append, List.set_append_right _ _ (Nat.le_refl _), Nat.sub_self, List.set_cons_zero] at h2
      simpa using h2
    have h3 := vrow_setCells vs (L ++ [v]) os Rr (w.setCell ⟨B, L.length, none⟩ v) (by simpa using h) h1
    rw [List.length_append, List.length_singleton] at h3
    refine ⟨?_, (beside_set B L.length w v).trans h3.2⟩
    have e : L ++ (v :: vs) ++ Rr = L ++ [v] ++ vs ++ Rr := by simp
    rw [e]
    exact h3.1

section
variable {W W' : World} {B : Nat} {m : Msg} {a b : Option Addr} {c d : Nat}
theorem set0 (h : VRow W B 27 (mL m a c b d)) (x : Int) : VRow (W.setCell ⟨B, 0, none⟩ (.int .i64 x)) B 27 (mL { m with kind := x } a c b d) := h.set 0 _
theorem set1 (h : VRow W B 27 (mL m a c b d)) (x : Int) : VRow (W.setCell ⟨B, 1, none⟩ (.int .i64 x)) B 27 (mL { m with frm := x } a c b d) := h.set 1 _
theorem set2 (h : VRow W B 27 (mL m a c b d)) (x : Int) : VRow (W.setCell ⟨B, 2, none⟩ (.int .i64 x)) B 27 (mL { m with dst := x } a c b d) := h.set 2 _
theorem set3 (h : VRow W B 27 (mL m a c b d)) (x : Int) : VRow (W.setCell ⟨B, 3, none⟩ (.int .i64 x)) B 27 (mL { m with sid := x } a c b d) := h.set 3 _
theorem set4 (h : VRow W B 27 (mL m a c b d)) (x : Bool) : VRow (W.setCell ⟨B, 4, none⟩ (.bool x)) B 27 (mL { m with turn := x } a c b d) := h.set 4 _
theorem set5 (h : VRow W B 27 (mL m a c b d)) (x : ByteArray) : VRow (W.setCell ⟨B, 5, none⟩ (.string x)) B 27 (mL { m with path := x } a c b d) := h.set 5 _
theorem mL_form (m : Msg) (a : Option Addr) (c : Nat) (b : Option Addr) (d : Nat) : mL m a c b d = [.int .i64 m.kind, .int .i64 m.frm, .int .i64 m.dst, .int .i64 m.sid, .bool m.turn, .string m.path] ++ m.root.map byteVal ++ [.slice a m.ctx.length c, .slice b m.rows.length d, .string m.text] := rfl
theorem mL_head {m : Msg} (hr : m.root.length = 32) : ([.int .i64 m.kind, .int .i64 m.frm, .int .i64 m.dst, .int .i64 m.sid, .bool m.turn, .string m.path] ++ m.root.map byteVal : List Value).length = 38 := by simp [hr]
theorem set_back {L X : List Value} (h : L.length = 38) (k : Nat) (v : Value) : (L ++ X).set (38 + k) v = L ++ X.set k v := by
  rw [List.set_append_right _ _ (by omega)]
  congr 2
  omega
theorem set38 (h : VRow W B 27 (mL m a c b d)) (hr : m.root.length = 32) (x : List Vc.D) (a' : Option Addr) (c' : Nat) : VRow (W.setCell ⟨B, 38, none⟩ (.slice a' x.length c')) B 27 (mL { m with ctx := x } a' c' b d) := by
  have h2 := h.set 38 (.slice a' x.length c')
  rw [mL_form, show 38 = 38 + 0 from rfl, set_back (mL_head hr)] at h2
  exact h2
theorem set39 (h : VRow W B 27 (mL m a c b d)) (hr : m.root.length = 32) (x : List (List Vc.D)) (b' : Option Addr) (d' : Nat) : VRow (W.setCell ⟨B, 39, none⟩ (.slice b' x.length d')) B 27 (mL { m with rows := x } a c b' d') := by
  have h2 := h.set 39 (.slice b' x.length d')
  rw [mL_form, show 39 = 38 + 1 from rfl, set_back (mL_head hr)] at h2
  exact h2
theorem set40 (h : VRow W B 27 (mL m a c b d)) (hr : m.root.length = 32) (x : ByteArray) : VRow (W.setCell ⟨B, 40, none⟩ (.string x)) B 27 (mL { m with text := x } a c b d) := by
  have h2 := h.set 40 (.string x)
  rw [mL_form, show 40 = 38 + 2 from rfl, set_back (mL_head hr)] at h2
  exact h2
theorem set6 (h : VRow W B 27 (mL m a c b d)) (hr : m.root.length = 32) (x : List UInt8) (hx : x.length = 32) : VRow (W.setCells B 6 (x.map byteVal)) B 27 (mL { m with root := x } a c b d) ∧ Beside (· = B) W (W.setCells B 6 (x.map byteVal)) :=
  vrow_setCells (x.map byteVal) [.int .i64 m.kind, .int .i64 m.frm, .int .i64 m.dst, .int .i64 m.sid, .bool m.turn, .string m.path] (m.root.map byteVal) _ W (by simp [hr, hx]) h
theorem there6 (h : VRow W B 27 (mL m a c b d)) (hr : m.root.length = 32) : W.there B 6 32 := fun j hj => by
  refine ⟨?_, h.frozen (6 + j)⟩
  obtain ⟨v, hv⟩ : ∃ v, (m.root.map byteVal)[j]? = some v := ⟨_, List.getElem?_eq_getElem (by simp [hr]; omega)⟩
  rw [m6 h j v hv]
  rfl
end
/-- Where the store of a root stands. -/
theorem atS23 {ops : Array Oper} {d : Option Tmp} {x y : Operand} {ty : TypeId} {pos : String} {af : Array Edge} {g : Option (Nat × Bool)} {rest : List Oper} {a : Act} {w : World} {Q : Exit → Act → World → Prop} (h : wpList Try.prog ops Q ({dst := d, op := .store 23 x y, type := ty, pos := pos, after := af, guard := g} :: rest) a w) : wpList Try.prog ops Q ({dst := d, op := .store 23 x y, type := ty, pos := pos, after := af, guard := g} :: rest) a w := h
theorem store_root {ops : Array Oper} {rest : List Oper} {o : Oper} {A : Act} {w : World} {Q : Exit → Act → World → Prop} (hgd : o.guard = none) (x y : Operand) (ho : o.op = .store 23 x y)
    (B : Nat) (hx : A.eval x = .pointer (some ⟨B, 6, none⟩)) (r : List UInt8) (hy : A.eval y = .agg (r.map byteVal).toArray) (hn : r.length = 32) {m : Msg} {a b : Option Addr} {c d : Nat} (hr : VRow w B 27 (mL m a c b d)) (hm : m.root.length = 32)
    (h : ∀ w', VRow w' B 27 (mL { m with root := r } a c b d) → Beside (· = B) w w' → wpList Try.prog ops Q rest (A.put o.dst undef) w') : wpList Try.prog ops Q (o :: rest) A w := by
  refine wpList_store_mid hgd 23 x y ho B 6 _ hx hy ?_ (by rw [sizeDg]; simp [hn]) (all_oneCell_toArray (one_bytes r)) ?_
  · have := there6 hr hm
    simpa [hn] using this
  · have h2 := set6 hr hm r hn
    exact h _ h2.1 h2.2

/-- What is done to a message that lies at B: nothing else turns. -/
def Made (B : Nat) (w : World) (m : Msg) (a : Option Addr) (c : Nat) (b : Option Addr) (d : Nat) (e : Ending) (w' : World) : Prop := e = .returned (.tuple #[]) ∧ VRow w' B 27 (mL m a c b d) ∧ Beside (· = B) w w'
section
variable {w : World} {B : Nat} {m : Msg} {a b : Option Addr} {c d : Nat}
theorem row_under (h : VRow w B 27 (mL m a c b d)) {w' : World} (hb : Below w.heap.size w w') : VRow w' B 27 (mL m a c b d) ∧ Beside (· = B) w w' := ⟨h.after hb, beside_of hb⟩
theorem made_set {w1 : World} {k : Nat} {v : Value} (hb : Below w.heap.size w w1) : Beside (· = B) w (w1.setCell ⟨B, k, none⟩ v) := (beside_of hb).trans (beside_set B k w1 v)
set_option maxRecDepth 100000 in
set_option maxHeartbeats 400000 in
theorem bnumber_any (h : VRow w B 27 (mL m a c b d)) (k : Nat) (most : Int) : Calls Try.prog 89 #[.agg #[], .pointer (some ⟨B, k, none⟩), .int .i64 most] w (Made B w m a c b d) := by
  have HM := hide (row_under h (below_alloc' (w := w) (.cells #[] 88)))
  clear h
  go_enter Try.func89, Try.ntmps89
  go_wp2_with fail
  go_end0
  exact ⟨rfl, unhide HM⟩
set_option maxRecDepth 100000 in
set_option maxHeartbeats 400000 in
theorem bfail_any (h : VRow w B 27 (mL m a c b d)) (x : Int) : Calls Try.prog 86 #[.agg #[], .int .i64 x] w (Made B w m a c b d) := by
  have HM := hide (row_under h (below_alloc' (w := w) (.cells #[] 88)))
  clear h
  go_enter Try.func86, Try.ntmps86
  go_wp2_with fail
  go_end0
  exact ⟨rfl, unhide HM⟩
set_option maxRecDepth 100000 in
set_option maxHeartbeats 400000 in
theorem bflag_any (h : VRow w B 27 (mL m a c b d)) : Calls Try.prog 88 #[.agg #[], .pointer (some ⟨B, 4, none⟩)] w (Made B w { m with turn := false } a c b d) := by
  have hb := below_alloc' (w := w) (.cells #[] 88)
  have h1 := h.after hb
  have HM := hide (And.intro (set4 h1 false) (made_set (B := B) (k := 4) (v := .bool false) hb))
  have x4 := m4 h1
  have f4 := h1.frozen 4
  clear h h1 hb
  go_enter Try.func88, Try.ntmps88
  go_wp2_with fail
  go_end0
  exact ⟨rfl, unhide HM⟩
set_option maxRecDepth 100000 in
set_option maxHeartbeats 400000 in
theorem btext5_any (h : VRow w B 27 (mL m a c b d)) (most : Int) : Calls Try.prog 91 #[.agg #[], .pointer (some ⟨B, 5, none⟩), .int .i64 most] w (Made B w { m with path := ⟨#[]⟩ } a c b d) := by
  have hb := below_alloc' (w := w) (.cells #[] 88)
  have h1 := h.after hb
  have HM := hide (And.intro (set5 h1 ⟨#[]⟩) (made_set (B := B) (k := 5) (v := .string ⟨#[]⟩) hb))
  have x4 := m5 h1
  have f4 := h1.frozen 5
  clear h h1 hb
  go_enter Try.func91, Try.ntmps91
  go_wp2_with fail
  go_end0
  exact ⟨rfl, unhide HM⟩
set_option maxRecDepth 100000 in
set_option maxHeartbeats 400000 in
theorem btext40_any (h : VRow w B 27 (mL m a c b d)) (hr : m.root.length = 32) (most : Int) : Calls Try.prog 91 #[.agg #[], .pointer (some ⟨B, 40, none⟩), .int .i64 most] w (Made B w { m with text := ⟨#[]⟩ } a c b d) := by
  have hb := below_alloc' (w := w) (.cells #[] 88)
  have h1 := h.after hb
  have HM := hide (And.intro (set40 h1 hr ⟨#[]⟩) (made_set (B := B) (k := 40) (v := .string ⟨#[]⟩) hb))
  have x4 := m40 h1 hr
  have f4 := h1.frozen 40
  clear h h1 hb
  go_enter Try.func91, Try.ntmps91
  go_wp2_with fail
  go_end0
  exact ⟨rfl, unhide HM⟩
set_option maxRecDepth 100000 in
set_option maxHeartbeats 400000 in
theorem bvector_any (h : VRow w B 27 (mL m a c b d)) (hr : m.root.length = 32) : Calls Try.prog 92 #[.agg #[], .pointer (some ⟨B, 38, none⟩)] w (Made B w { m with ctx := [] } none 0 b d) := by
  have hb := below_alloc' (w := w) (.cells #[] 88)
  have h1 := h.after hb
  have HM := hide (And.intro (set38 h1 hr [] none 0) (made_set (B := B) (k := 38) (v := .slice none 0 0) hb))
  have x4 := m38 h1 hr
  have f4 := h1.frozen 38
  clear h h1 hb
  go_enter Try.func92, Try.ntmps92
  go_wp2_with fail
  go_end0
  exact ⟨rfl, unhide HM⟩
set_option maxRecDepth 100000 in
set_option maxHeartbeats 400000 in
theorem brows_any (h : VRow w B 27 (mL m a c b d)) (hr : m.root.length = 32) : Calls Try.prog 90 #[.agg #[], .pointer (some ⟨B, 39, none⟩)] w (Made B w { m with rows := [] } a c none 0) := by
  have hb := below_alloc' (w := w) (.cells #[] 88)
  have h1 := h.after hb
  have HM := hide (And.intro (set39 h1 hr [] none 0) (made_set (B := B) (k := 39) (v := .slice none 0 0) hb))
  have x4 := m39 h1 hr
  have f4 := h1.frozen 39
  clear h h1 hb
  go_enter Try.func90, Try.ntmps90
  go_wp2_with fail
  go_end0
  exact ⟨rfl, unhide HM⟩
set_option maxRecDepth 100000 in
set_option maxHeartbeats 400000 in
theorem bdigest_any (h : VRow w B 27 (mL m a c b d)) (hr : m.root.length = 32) : Calls Try.prog 87 #[.agg #[], .pointer (some ⟨B, 6, none⟩)] w (Made B w { m with root := zero32 } a c b d) := by
  have HB := hide (below_alloc' (w := w) (.cells #[] 88))
  have HR := hide (h.after (unhide HB))
  have HRT := hide hr
  clear h hr
  go_enter Try.func87, Try.ntmps87
  go_wp2_with ((with_reducible refine atS23 ?_); (refine store_root (by rfl) (.tmp 6) (.tmp 5) (by rfl) B (by rfl) zero32 (by rfl) rfl (unhide HR) (unhide HRT) ?_); intro w2 hv hb; have HV := hide hv; have HB2 := hide hb; clear hv hb)
  go_end0
  exact ⟨rfl, unhide HV, (beside_of (unhide HB)).trans (unhide HB2)⟩
end
end Go.Proofs.Ythecijjmgfempaa
