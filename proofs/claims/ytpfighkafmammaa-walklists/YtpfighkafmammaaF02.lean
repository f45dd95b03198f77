/-
  Some of what is below a directory, behind a text: what List answers. Conditions: those that each theorem names.
-/
import Derived.Test.YtpfighkafmammaaF01
import Derived.Test.YtpfighkafmammaaE01
namespace Go.Proofs.Ytpfighkafmammaa
open Go.RowKit Go.Shelf

attribute [local go_sem] Oper.semAt_some

theorem MadeQ.imp {O O' : Nat → Prop} {w w' : World} {es : List En} {e : Ending} (h : MadeQ O w es e w') (hO : ∀ g, O g → O' g) : MadeQ O' w es e w' := by
  obtain ⟨v, ps, h1, h2, h3, h4, h5⟩ := h
  exact ⟨v, ps, h1, h2, h3, fun x hx => ⟨(h4 x hx).1, (h4 x hx).2.1, (h4 x hx).2.2.imp16 hO⟩, h5⟩
def ListI (O : Nat → Prop) (T : List En) (b B : Nat) (w : World) (m : Int) (V : World) (pre : List EP) (W : World) : Prop := RowIn O T b B w V pre W ∧ (pre = [] ∨ (pre.length : Int) ≤ m)
theorem ListI.tame (O : Nat → Prop) (T : List En) (b B : Nat) (w : World) (m : Int) (V : World) : Tame b (ListI O T b B w m V) := fun pre W W' row h hg hr => ⟨RowIn.tame O T b B w V pre W W' row h.1 hg hr, h.2⟩
def ListX (O : Nat → Prop) (T : List En) (b B : Nat) (w : World) (m : Int) (c : Code) (pre : List EP) (W : World) : Prop := c = .exit 0 ∧ ∃ V init x, pre = init ++ [x] ∧ RowIn O T b B w V init W ∧ (init = [] ∨ (init.length : Int) ≤ m) ∧ m ≤ init.length
theorem ListX.tame (O : Nat → Prop) (T : List En) (b B : Nat) (w : World) (m : Int) (c : Code) : Tame b (ListX O T b B w m c) := fun pre W W' row h hg hr => by
  obtain ⟨h1, V, init, x, h2, h3, h4⟩ := h
  exact ⟨h1, V, init, x, h2, RowIn.tame O T b B w V init W W' row h3 hg hr, h4⟩
theorem list_done {l es : List En} {m : Int} (h : es = l) (hm : es = [] ∨ (es.length : Int) ≤ m) : es = l.take m.toNat := by
  subst h
  rcases hm with hm | hm
  · rw [hm, List.take_nil]
  · rw [List.take_of_length_le (by omega)]
theorem list_stop {l init : List En} {x : En} {m : Int} {k : Nat} (h : init ++ [x] = l.take k) (hm : init = [] ∨ (init.length : Int) ≤ m) (h2 : m ≤ init.length) : init = l.take m.toNat := by
  have hlen : init.length = m.toNat := by
    rcases hm with rfl | hm
    · simp only [List.length_nil] at h2 ⊢
      omega
    · omega
  have h3 : init = (l.take k).take init.length := by rw [← h, List.take_left]
  have h4 := congrArg List.length h
  rw [List.length_append, List.length_take, List.length_singleton] at h4
  rw [List.take_take, Nat.min_eq_left (by omega), hlen] at h3
  exact h3

set_option maxRecDepth 100000 in
set_option maxHeartbeats 2000000 in
theorem walkList_in (p0 : Option Addr) (T : List En) (hT : Tr T) (d s : ByteArray) (hs : s.size ≤ maxLen) (m : Int) (U w0 : World) (hU : TrAt U p0 T) (hUw : Below U.heap.size U w0) :
    CallsIn Fence.wide 3 Try.prog 14 #[.pointer p0, .string d, .string s, .int .i64 m] w0 (MadeQ (OB U w0) w0 (listT T d s m)) := by
  obtain ⟨i0, hi, hz0, hz1, hz2⟩ := info_parts infoEn
  rw [list_eq]
  refine callsIn_of_wp_marks Try.func14 rfl trivial ?_ rfl
  simp only [Try.ntmps14, List.size_toArray, List.length_cons, List.length_nil, Nat.reduceAdd, Nat.reduceSub, Array.replicate_succ, Array.replicate_zero, List.push_toArray, List.append_toArray, List.nil_append, List.cons_append]
  have hbm := Boxed.new w0 3 (.int .i64 m)
  have hb0 := below_alloc' (w := w0) (.cells #[.int .i64 m] 3)
  have hsz : (w0.alloc (.cells #[.int .i64 m] 3)).heap.size = w0.heap.size + 1 := by simp
  obtain ⟨w1, hw1⟩ : ∃ w1, w0.alloc (.cells #[.int .i64 m] 3) = w1 := ⟨_, rfl⟩
  rw [hw1] at hbm hb0 hsz
  have hbx := Boxed.new w1 22 (.slice none 0 0)
  have hbm1 := hbm.alloc (.cells #[.slice none 0 0] 22)
  have hb1 := below_alloc' (w := w1) (.cells #[.slice none 0 0] 22)
  have hsz1 : (w1.alloc (.cells #[.slice none 0 0] 22)).heap.size = w1.heap.size + 1 := by simp
  obtain ⟨w2, hw2⟩ : ∃ w2, w1.alloc (.cells #[.slice none 0 0] 22) = w2 := ⟨_, rfl⟩
  rw [hw2] at hbx hbm1 hb1 hsz1
  rw [hsz] at hbx hsz1
  have KT := hide (those_any 32 d s p0 w2)
  obtain ⟨hb2, hsz2, c1, c2, c3, c3'⟩ := boxesT_at w2 p0 d s 32
  rw [hsz1] at c1 c2 c3 c3' hsz2
  gi_wp2_with fail
  refine ⟨trivial, (callsIn_wide.2 (unhide KT)).mono ?_⟩
  rintro e w ⟨rfl, hw⟩
  have hwT : boxesT w2 p0 d s 32 = w := hw.symm
  rw [hwT] at hb2 hsz2 c1 c2 c3 c3'
  rw [hsz1]
  have hb02 := below_grow hb0 (Nat.le_refl _) hb1
  have hb03 := below_grow hb02 (Nat.le_refl _) hb2
  have hbx3 : Boxed w (w0.heap.size + 1) 22 (.slice none 0 0) := (hb2.block _ hbx.lt).trans hbx
  have hbm3 : Boxed w w0.heap.size 3 (.int .i64 m) := (hb2.block _ hbm1.lt).trans hbm1
  have hUw3 := below_grow hUw (Nat.le_refl _) hb03
  clear hw hwT KT hw1 hw2
  gi_wp2_with fail
  have hw3 : w.heap.size = w0.heap.size + 5 := by omega
  have HW3 := hide hw3
  refine range_told rfl (by decide) (gf := 52) (lb := #[.pointer (some ⟨w0.heap.size + 1 + 1, 0, none⟩), .pointer (some ⟨w0.heap.size + 1 + 1 + 1 + 1, 0, none⟩), .pointer (some ⟨w0.heap.size + 1 + 1 + 1, 0, none⟩)]) rfl trivial (enters_of Try.func52 (by kernel_rfl) rfl)
    (those_tells 2 32 d s _ (asked_both d s hs) (fun k => k = w0.heap.size + 1) (OA U (w0.heap.size + 5)) p0 T hT U w hU hUw3 (fun g hg => by rw [hw3] at hg; exact hg) (fun k hk => by rw [hw3]; omega) _ _ _ c1 c2 c3 c3' (by omega) (by omega)) (fun _ => rfl)
    (fun V pre W => ListI (OA U (w0.heap.size + 5)) T w.heap.size (w0.heap.size + 1) w m V pre W) (fun c pre W => ListX (OA U (w0.heap.size + 5)) T w.heap.size (w0.heap.size + 1) w m c pre W)
    (fun V => ListI.tame _ _ _ _ _ _ V) (fun c => ListX.tame _ _ _ _ _ _ c)
    (fun V hV => ⟨⟨⟨_, (hV.block _ (show w0.heap.size + 1 < w.heap.size by omega)).trans hbx3, World.ownsRow_nil _ _ _ _, trivial⟩, ⟨Nat.le_refl _, KX.refl _ _ _⟩, fun _ h => (by cases h), hV⟩, .inl rfl⟩)
    (fun x a' W => ∃ Bx, VRow W Bx 44 [.string x.1.1, .slice x.2.1 x.1.2.length x.2.2] ∧ a' = { tmps := #[.pointer p0, .string d, .string s, .int .i64 m, undef, undef, undef, .pointer (some ⟨w0.heap.size, 0, none⟩), .slice none 0 0, .pointer (some ⟨w0.heap.size + 1, 0, none⟩), .pointer (some ⟨Bx, 0, none⟩), .pointer p0, .string d, .string s, .agg #[.string d, .string s], .func (.func 52) #[] #[.pointer (some ⟨w0.heap.size + 1 + 1, 0, none⟩), .pointer (some ⟨w0.heap.size + 1 + 1 + 1 + 1, 0, none⟩), .pointer (some ⟨w0.heap.size + 1 + 1 + 1, 0, none⟩)], .agg #[.string x.1.1, .slice x.2.1 x.1.2.length x.2.2], undef, undef, undef, undef, undef, undef, undef, undef, undef], defers := [] })
    (fun x a' _ X Y row hs hg hr => by obtain ⟨Bx, h1, h2⟩ := hs; exact ⟨Bx, VRow.own Bx 44 _ () X Y row h1 hg (fun r e => (hr r e).2), h2⟩)
    ?assign ?body ?done ?stop
  case assign =>
    clear hw3 hsz2 hsz1 hsz
    rintro l V pre x W K hrow hG hK
    simp only [encE]
    gi_wp2
    have hWV := hrow.1.kx.1
    refine hK _ _ ((KeepsOthers.alloc _ _).from _) (KX.below hWV (below_alloc' _)) ((ListI.tame _ _ _ _ _ _ V).below hrow (below_alloc' _)) ⟨W.heap.size, VRow.new W 44 [.string x.1.1, .slice x.2.1 x.1.2.length x.2.2], rfl⟩
  case body =>
    clear hw3 hsz2 hsz1 hsz
    rintro l V pre ⟨⟨P, L⟩, r, cc⟩ a' W ⟨hrow, hlm⟩ hG ⟨Bx, hX, rfl⟩ hlt
    obtain ⟨u, hv, hro, _⟩ := hrow.box
    obtain ⟨ua, uc, rfl⟩ := own_shape hro
    have hkx := hrow.kx
    have hc := hv.cell
    have hVs := hrow.v.size
    have hw3 := unhide HW3
    have hm := (hkx.2.cell (k := w0.heap.size) (i := 0) (by omega) (fun h => by rcases h with h | h | h <;> omega)).trans ((hrow.v.cell (p := ⟨w0.heap.size, 0, none⟩) (show w0.heap.size < w.heap.size by omega)).trans hbm3.cell)
    clear hw3 hVs
    dsimp only at hX ⊢
    have x0 : W.cell? ⟨Bx, 0, none⟩ = some (.string P) := hX.cell 0 _ rfl
    have x1 : W.cell? ⟨Bx, 1, none⟩ = some (.slice r L.length cc) := hX.cell 1 _ rfl
    have hWV := hkx.1
    by_cases hbig : m ≤ (pre.length : Int)
    · have hbd : decide (m ≤ ((pre.length : Nat) : Int)) = true := decide_eq_true hbig
      clear x0 x1
      gi_wp2_with fail
      exact ⟨KeepsFrom.refl _ _, rfl, V, pre, _, rfl, hrow, hlm, hbig⟩
    · have hbd : decide (m ≤ ((pre.length : Nat) : Int)) = false := decide_eq_false hbig
      gi_wp2_with (gi_at_builtin; refine wpListIn_append_own _ rfl _ _ 22 rfl V.heap.size 44 i0 _ 2 40 Try.underlying22 hi hz0 hz1 hz2 rfl (by decide) _ _ _ rfl (hro.alloc _) ⟨W.heap.size, 0, none⟩ 1 1 [.string P, .slice r L.length cc] rfl rfl (cell_two_new _ _ _ _) (by simp [Value.oneCell']) (by unfold maxLen; omega) (by omega) (by simp; omega) ?_; intro v' w2 hown' hgrow _; obtain ⟨g', cap', rfl⟩ := ownsRow_succ hown'; obtain ⟨hv1, hv2, hr2, hk2, hx2⟩ := box_appended hv (by decide) hro hWV hown' hgrow; have hc1 := hv1.cell; have hf1 := hv1.frozen)
      refine ⟨hk2.from _, hx2 (Bk (fun k => k = w0.heap.size + 1) w.heap.size) (.inl rfl), ⟨⟨⟨_, hv2, ?_, trivial⟩, ⟨Nat.le_trans hWV (hx2 (Bk (fun k => k = w0.heap.size + 1) w.heap.size) (.inl rfl)).size, hkx.2.trans (hx2 (Bk (fun k => k = w0.heap.size + 1) w.heap.size) (.inl rfl))⟩, fun y hy => ?_, hrow.v⟩, .inr ?_⟩⟩
      · rw [List.length_append, flatE_snoc]
        exact hr2
      · rcases List.mem_append.1 hy with hy | hy
        · exact hrow.all y hy
        · rw [List.mem_singleton.1 hy]
          exact hG
      · rw [List.length_append, List.length_singleton]
        omega
  case done =>
    rintro D V xs W hD hxs ⟨hrow, hlm⟩ hK
    obtain ⟨u, hv, hro, _⟩ := hrow.box
    have hc := hv.cell
    have hl : xs.map (·.1) = (T.filter (listP d s)).take m.toNat := list_done hxs (hlm.imp (fun e => by rw [e]; rfl) (fun e => by rw [List.length_map]; exact e))
    clear hw3 hsz2 hsz1 hsz
    gi_wp2
    have hw3 := unhide HW3
    refine ⟨by simp, .inl ⟨_, _, rfl, run_takeDeferred hK, ?_⟩⟩
    refine ⟨_, results_tmp rfl _ _ _, ?_⟩
    rw [← hl]
    refine (hrow.made hb03 (by omega) (Nat.le_refl _) (by omega) (fun g hg hx => by
      have h2 : g < U.heap.size ∨ w0.heap.size + 5 + 2 ≤ g := hg
      have h3 : g = w0.heap.size + 1 ∨ g = w.heap.size ∨ g = w.heap.size + 1 := hx
      have h4 := hUw.size
      omega) hv D hK rfl hD).imp (fun g hg => by
      have h2 : g < U.heap.size ∨ w0.heap.size + 5 + 2 ≤ g := hg
      show g < U.heap.size ∨ w0.heap.size ≤ g
      omega)
  case stop =>
    rintro D c pre W hD ⟨k, hk⟩ ⟨rfl, V, init, x, rfl, hrow, hlm, hbig⟩ hK
    obtain ⟨u, hv, hro, _⟩ := hrow.box
    have hc := hv.cell
    rw [List.map_append] at hk
    have hl : init.map (·.1) = (T.filter (listP d s)).take m.toNat := list_stop hk (hlm.imp (fun e => by rw [e]; rfl) (fun e => by rw [List.length_map]; exact e)) (by rw [List.length_map]; exact hbig)
    clear hw3 hsz2 hsz1 hsz
    gi_wp2
    have hw3 := unhide HW3
    refine ⟨by simp, .inl ⟨_, _, rfl, run_takeDeferred hK, ?_⟩⟩
    refine ⟨_, results_tmp rfl _ _ _, ?_⟩
    rw [← hl]
    refine (hrow.made hb03 (by omega) (Nat.le_refl _) (by omega) (fun g hg hx => by
      have h2 : g < U.heap.size ∨ w0.heap.size + 5 + 2 ≤ g := hg
      have h3 : g = w0.heap.size + 1 ∨ g = w.heap.size ∨ g = w.heap.size + 1 := hx
      have h4 := hUw.size
      omega) hv D hK rfl hD).imp (fun g hg => by
      have h2 : g < U.heap.size ∨ w0.heap.size + 5 + 2 ≤ g := hg
      show g < U.heap.size ∨ w0.heap.size ≤ g
      omega)
end Go.Proofs.Ytpfighkafmammaa

/-
  A number, or a text, that a range over a function turns; how many are at a directory or below: what Count answers. Conditions: those that each theorem names.
-/

namespace Go.Proofs.Ytpfighkafmammaa
open Go.RowKit Go.Shelf

attribute [local go_sem] Oper.semAt_some

/-- What a loop that turns one box keeps. -/
structure BoxI (t : TypeId) (f : List EP → Value) (b B : Nat) (w V : World) (pre : List EP) (W : World) : Prop where
  box : VRow W B t [f pre]
  kx : V.heap.size ≤ W.heap.size ∧ KX (Bk (fun k => k = B) b) V V W
  v : Below b w V
section
variable {t : TypeId} {f : List EP → Value} {b B : Nat} {w V W W1 : World} {pre pre' : List EP}
theorem BoxI.tame (t : TypeId) (f : List EP → Value) (b B : Nat) (w V : World) : Tame b (BoxI t f b B w V) := fun pre W W' row h hg hr =>
  ⟨VRow.own B t [f pre] () W W' row h.box hg (fun r e => (hr r e).2), tame_kx (fun k => k = B) b V () W W' row h.kx hg hr, h.v⟩
theorem keeps_turn {vs : List Value} (hr : VRow W B t vs) (hb : Below W.heap.size W W1) (b k : Nat) (v : Value) : KeepsFrom b W (W1.setCell ⟨B, k, none⟩ v) := by
  have ho := only_set W1 B k v
  refine ⟨Nat.le_trans hb.size (Nat.le_of_eq ho.size.symm), fun j o _ hj hc => ?_⟩
  refine (ho.block j (fun e => ?_)).trans ((hb.block j (Array.getElem?_eq_some_iff.1 hj).1).trans hj)
  subst e
  have h2 : W.heap[j]? = some (.cells vs.toArray t (0, 0)) := hr
  rw [hj] at h2
  injection h2 with h2
  subst h2
  cases hc
theorem kx_turn {X : Nat → Prop} (hV : V.heap.size ≤ W.heap.size) (hb : Below W.heap.size W W1) (hX : X B) (k : Nat) (v : Value) : KX X V W (W1.setCell ⟨B, k, none⟩ v) := by
  have ho := only_set W1 B k v
  exact (KX.below hV hb).trans ⟨ho.os, ho.tape, ho.output, Nat.le_of_eq ho.size.symm, fun j _ hx => ho.block j (fun e => hx (e ▸ hX))⟩
theorem BoxI.turn (h : BoxI t f b B w V pre W) (hb : Below W.heap.size W W1) {v : Value} (hv : f pre' = v) :
    KeepsFrom b W (W1.setCell ⟨B, 0, none⟩ v) ∧ KX (Bk (fun k => k = B) b) V W (W1.setCell ⟨B, 0, none⟩ v) ∧ BoxI t f b B w V pre' (W1.setCell ⟨B, 0, none⟩ v) := by
  have hk := kx_turn (X := Bk (fun k => k = B) b) h.kx.1 hb (.inl rfl) 0 v
  subst hv
  exact ⟨keeps_turn h.box hb b 0 _, hk, (h.box.after hb).set 0 (f pre'), ⟨Nat.le_trans h.kx.1 hk.size, h.kx.2.trans hk⟩, h.v⟩
theorem BoxI.done {w0 : World} (h : BoxI t f b B w V pre W) (h0 : Below w0.heap.size w0 w) (hb : w0.heap.size ≤ b) (hB : w0.heap.size ≤ B) {D : Nat} {o : Obj} (o' : Obj) (hD : W.heap[D]? = some o) (ho : o.isCells = false) (hDb : D = b) :
    Below w0.heap.size w0 (W.putObj D o') := by
  subst hDb
  have ht := (BoxI.tame t f D B w V).put0 o' h hD ho
  have hVb : w0.heap.size ≤ V.heap.size := Nat.le_trans h0.size h.v.size
  exact (h0.trans (h.v.mono hb)).trans (ht.kx.2.toBelow (n := w0.heap.size) hVb (fun k hk => by rcases hk with hk | hk | hk <;> omega))
end

set_option maxRecDepth 100000 in
set_option maxHeartbeats 2000000 in
theorem walkCount_in (p0 : Option Addr) (T : List En) (hT : Tr T) (d : ByteArray) (U w0 : World) (hU : TrAt U p0 T) (hUw : Below U.heap.size U w0) :
    CallsIn Fence.wide 3 Try.prog 16 #[.pointer p0, .string d] w0 (fun e w' => e = .returned (.int .i64 (countT T d : Nat)) ∧ Below w0.heap.size w0 w') := by
  rw [count_eq hT]
  refine callsIn_of_wp_marks Try.func16 rfl trivial ?_ rfl
  simp only [Try.ntmps16, List.size_toArray, List.length_cons, List.length_nil, Nat.reduceAdd, Nat.reduceSub, Array.replicate_succ, Array.replicate_zero, List.push_toArray, List.append_toArray, List.nil_append, List.cons_append]
  have hbx := VRow.new w0 3 [.int .i64 0]
  have hb0 := below_alloc' (w := w0) (.cells #[.int .i64 0] 3)
  have hsz : (w0.alloc (.cells #[.int .i64 0] 3)).heap.size = w0.heap.size + 1 := by simp
  obtain ⟨w1, hw1⟩ : ∃ w1, w0.alloc (.cells #[.int .i64 0] 3) = w1 := ⟨_, rfl⟩
  rw [show w0.alloc (.cells [Value.int .i64 0].toArray 3) = w1 from hw1] at hbx
  rw [hw1] at hb0 hsz
  have HKT := hide fun W => those_any 35 d ⟨#[]⟩ p0 W
  have k0 := hbx.cell 0 _ rfl
  have f0 := hbx.frozen 0
  have ho2 := only_set w1 w0.heap.size 0 (.int .i64 0)
  have hr2 := hbx.set 0 (.int .i64 0)
  have hb1 := below_set hb0 (Nat.le_refl _) 0 (.int .i64 0)
  have HSZ : Hid ((w1.setCell ⟨w0.heap.size, 0, none⟩ (.int .i64 0)).heap.size = w0.heap.size + 1) := hide (by rw [ho2.size, hsz])
  clear ho2 hsz
  gi_wp2_with fail
  refine ⟨trivial, (callsIn_wide.2 (unhide HKT _)).mono ?_⟩
  generalize w1.setCell ⟨w0.heap.size, 0, none⟩ (.int .i64 0) = w2 at hr2 hb1 HSZ ⊢
  rintro e w ⟨rfl, hw⟩
  have hwT : boxesT w2 p0 d ⟨#[]⟩ 35 = w := hw.symm
  obtain ⟨hb2, hsz2, c1, c2, c3, c3'⟩ := boxesT_at w2 p0 d ⟨#[]⟩ 35
  rw [hwT] at hb2 hsz2 c1 c2 c3 c3'
  rw [unhide HSZ] at c1 c2 c3 c3' hsz2 ⊢
  have hb03 := below_grow hb1 (Nat.le_refl _) hb2
  have hr3 : VRow w w0.heap.size 3 [.int .i64 0] := hr2.after hb2
  have hUw3 := below_grow hUw (Nat.le_refl _) hb03
  clear hw hwT HKT hw1 k0 f0 hbx hr2
  have HW3 : Hid (w.heap.size = w0.heap.size + 4) := hide (by omega)
  have hUs := hUw.size
  clear hsz2 hb0 HSZ
  gi_wp2_with fail
  refine range_told rfl (by decide) (gf := 52) (lb := #[.pointer (some ⟨w0.heap.size + 1, 0, none⟩), .pointer (some ⟨w0.heap.size + 1 + 1 + 1, 0, none⟩), .pointer (some ⟨w0.heap.size + 1 + 1, 0, none⟩)]) rfl trivial (enters_of Try.func52 (by kernel_rfl) rfl)
    (those_tells 2 35 d ⟨#[]⟩ _ (asked_within d ⟨#[]⟩) (fun k => k = w0.heap.size) (OA U (w0.heap.size + 4)) p0 T hT U w hU hUw3 (fun g hg => by rw [unhide HW3] at hg; exact hg) (fun k hk => by rw [unhide HW3]; omega) _ _ _ c1 c2 c3 c3' (by omega) (by omega)) (fun _ => rfl)
    (fun V pre W => BoxI 3 (fun l => .int .i64 (l.length : Nat)) w.heap.size w0.heap.size w V pre W) (fun _ _ _ => False)
    (fun V => BoxI.tame _ _ _ _ _ V) (fun _ _ _ _ _ hs _ _ => hs)
    (fun V hV => ⟨hr3.after hV, ⟨Nat.le_refl _, KX.refl _ _ _⟩, hV⟩)
    (fun x a' W => a' = { tmps := #[.pointer p0, .string d, undef, undef, .int .i64 0, .pointer (some ⟨w0.heap.size, 0, none⟩), .pointer p0, .string d, .agg #[.string d, .string ⟨#[]⟩], .func (.func 52) #[] #[.pointer (some ⟨w0.heap.size + 1, 0, none⟩), .pointer (some ⟨w0.heap.size + 1 + 1 + 1, 0, none⟩), .pointer (some ⟨w0.heap.size + 1 + 1, 0, none⟩)], .agg #[.string x.1.1, .slice x.2.1 x.1.2.length x.2.2], undef, undef, undef], defers := [] })
    (fun x a' _ X Y row hs hg hr => hs)
    ?assign ?body ?done ?stop
  case assign =>
    rintro l V pre x W K hrow hG hK
    simp only [encE]
    gi_wp2
    exact hK _ _ (KeepsFrom.refl _ _) (KX.refl _ _ _) hrow (by simp)
  case body =>
    rintro l V pre x a' W hrow hG rfl hlt
    have hc := hrow.box.cell 0 _ rfl
    have hf := hrow.box.frozen 0
    have ho := hrow.turn (Below.refl _ _) (pre' := pre ++ [x]) (v := .int .i64 ((pre.length : Int) + 1)) (by rw [List.length_append, List.length_singleton]; rfl)
    have HO := hide ho
    clear ho
    gi_wp2_with fail
    exact unhide HO
  case done =>
    rintro D V xs W hD hxs hrow hK
    have hc := hrow.box.cell 0 _ rfl
    gi_wp2
    refine ⟨by simp, .inl ⟨_, _, rfl, run_takeDeferred hK, ?_⟩⟩
    refine ⟨_, results_tmp rfl _ _ _, ?_, hrow.done hb03 (by have := unhide HW3; omega) (Nat.le_refl _) _ hK rfl hD⟩
    have hl := congrArg List.length hxs
    rw [List.length_map] at hl
    show Ending.returned (.int .i64 (xs.length : Nat)) = _
    rw [hl]
  case stop =>
    rintro D c pre W _ _ h _
    exact h.elim
end Go.Proofs.Ytpfighkafmammaa

/-
  The first path behind a text: what Next answers. Conditions: those that each theorem names.
-/

namespace Go.Proofs.Ytpfighkafmammaa
open Go.RowKit Go.Shelf

attribute [local go_sem] Oper.semAt_some

/-- What a loop that turns the two results' boxes keeps. -/
structure TwoI (b B : Nat) (w V : World) (v4 v5 : Value) (W : World) : Prop where
  r4 : VRow W B 9 [v4]
  r5 : VRow W (B + 1) 4 [v5]
  kx : V.heap.size ≤ W.heap.size ∧ KX (Bk (fun k => k = B ∨ k = B + 1) b) V V W
  v : Below b w V
theorem TwoI.tame {α : Type} (b B : Nat) (w V : World) (v4 v5 : Value) : Tame b (fun (_ : α) W => TwoI b B w V v4 v5 W) := fun _ W W' row h hg hr =>
  ⟨VRow.own B 9 [v4] () W W' row h.r4 hg (fun r e => (hr r e).2), VRow.own (B + 1) 4 [v5] () W W' row h.r5 hg (fun r e => (hr r e).2), tame_kx (fun k => k = B ∨ k = B + 1) b V () W W' row h.kx hg hr, h.v⟩
theorem TwoI.turn {b B : Nat} {w V W : World} {v4 v5 : Value} (h : TwoI b B w V v4 v5 W) (u4 u5 : Value) :
    KeepsFrom b W ((W.setCell ⟨B, 0, none⟩ u4).setCell ⟨B + 1, 0, none⟩ u5) ∧ TwoI b B w V u4 u5 ((W.setCell ⟨B, 0, none⟩ u4).setCell ⟨B + 1, 0, none⟩ u5) := by
  have o1 := only_set W B 0 u4
  have o2 := only_set (W.setCell ⟨B, 0, none⟩ u4) (B + 1) 0 u5
  have k1 := kx_turn (X := Bk (fun k => k = B ∨ k = B + 1) b) (B := B) h.kx.1 (Below.refl _ W) (.inl (.inl rfl)) 0 u4
  have k2 := kx_turn (X := Bk (fun k => k = B ∨ k = B + 1) b) (B := B + 1) (Nat.le_trans h.kx.1 k1.size) (Below.refl _ (W.setCell ⟨B, 0, none⟩ u4)) (.inl (.inr rfl)) 0 u5
  have f1 := keeps_turn h.r4 (Below.refl _ W) b 0 u4
  have r5 := h.r5.only o1 (by omega)
  have f2 := keeps_turn r5 (Below.refl _ (W.setCell ⟨B, 0, none⟩ u4)) b 0 u5
  refine ⟨⟨Nat.le_trans f1.size f2.size, fun k o hk h1 h2 => f2.same k o hk (f1.same k o hk h1 h2) h2⟩, (h.r4.set 0 u4).only o2 (by omega), r5.set 0 u5, ⟨Nat.le_trans h.kx.1 (Nat.le_trans k1.size k2.size), (h.kx.2.trans k1).trans k2⟩, h.v⟩
theorem TwoI.done {b B : Nat} {w V W : World} {v4 v5 : Value} {w0 : World} (h : TwoI b B w V v4 v5 W) (h0 : Below w0.heap.size w0 w) (hb : w0.heap.size ≤ b) (hB : w0.heap.size ≤ B) {D : Nat} {o : Obj} (o' : Obj) (hD : W.heap[D]? = some o) (ho : o.isCells = false) (hDb : D = b) :
    Below w0.heap.size w0 (W.putObj D o') ∧ VRow (W.putObj D o') B 9 [v4] ∧ VRow (W.putObj D o') (B + 1) 4 [v5] := by
  subst hDb
  have ht := (TwoI.tame (α := Unit) D B w V v4 v5).put0 (s := ()) o' h hD ho
  have hVb : w0.heap.size ≤ V.heap.size := Nat.le_trans h0.size h.v.size
  exact ⟨(h0.trans (h.v.mono hb)).trans (ht.kx.2.toBelow (n := w0.heap.size) hVb (fun k hk => by rcases hk with (hk | hk) | hk | hk <;> omega)), ht.r4, ht.r5⟩
theorem results_next (tmps : Array Value) (w : World) (g h : Nat) (s : ByteArray) (v : Bool) (hp : tmps.getD 4 undef = .pointer (some ⟨g, 0, none⟩)) (hq : tmps.getD 5 undef = .pointer (some ⟨h, 0, none⟩)) (hc : w.cell? ⟨g, 0, none⟩ = some (.string s)) (hd : w.cell? ⟨h, 0, none⟩ = some (.bool v)) :
    (results Try.f18 tmps).run Try.prog w = .ok (.tuple #[.string s, .bool v]) w := by
  have hp' : tmps[4]?.getD undef = .pointer (some ⟨g, 0, none⟩) := by simpa using hp
  have hq' : tmps[5]?.getD undef = .pointer (some ⟨h, 0, none⟩) := by simpa using hq
  simp [results, hp', hq', asAddr]
  go_simp
def nextL (l : List En) : ByteArray × Bool := match l[0]? with | some x => (x.1, true) | none => (⟨#[]⟩, false)
theorem nextL_eq {t : List En} (h : Tr t) (s : ByteArray) : nextT t s = nextL (t.filter fun x => decide (0 < cmpE x.1 s)) := by
  unfold nextT nextL
  rw [next_eq h]
  generalize (t.filter fun x => decide (0 < cmpE x.1 s))[0]? = o
  cases o <;> rfl

set_option maxRecDepth 100000 in
set_option maxHeartbeats 2000000 in
theorem walkNext_in (p0 : Option Addr) (T : List En) (hT : Tr T) (s : ByteArray) (hs : s.size ≤ maxLen) (U w0 : World) (hU : TrAt U p0 T) (hUw : Below U.heap.size U w0) :
    CallsIn Fence.wide 3 Try.prog 18 #[.pointer p0, .string s] w0 (fun e w' => e = .returned (.tuple #[.string (nextT T s).1, .bool (nextT T s).2]) ∧ Below w0.heap.size w0 w') := by
  rw [nextL_eq hT]
  refine callsIn_of_wp_marks Try.func18 rfl trivial ?_ rfl
  simp only [Try.ntmps18, List.size_toArray, List.length_cons, List.length_nil, Nat.reduceAdd, Nat.reduceSub, Array.replicate_succ, Array.replicate_zero, List.push_toArray, List.append_toArray, List.nil_append, List.cons_append]
  have h4 := VRow.new w0 9 [.string ⟨#[]⟩]
  have hb0 := below_alloc' (w := w0) (.cells #[.string ⟨#[]⟩] 9)
  have hsz : (w0.alloc (.cells #[.string ⟨#[]⟩] 9)).heap.size = w0.heap.size + 1 := by simp
  obtain ⟨w1, hw1⟩ : ∃ w1, w0.alloc (.cells #[.string ⟨#[]⟩] 9) = w1 := ⟨_, rfl⟩
  rw [show w0.alloc (.cells [Value.string ⟨#[]⟩].toArray 9) = w1 from hw1] at h4
  rw [hw1] at hb0 hsz
  have h5 := VRow.new w1 4 [.bool false]
  have h4' := h4.alloc (.cells [Value.bool false].toArray 4)
  have hb1 := below_alloc' (w := w1) (.cells #[.bool false] 4)
  have hsz1 : (w1.alloc (.cells #[.bool false] 4)).heap.size = w1.heap.size + 1 := by simp
  obtain ⟨w2, hw2⟩ : ∃ w2, w1.alloc (.cells #[.bool false] 4) = w2 := ⟨_, rfl⟩
  rw [show w1.alloc (.cells [Value.bool false].toArray 4) = w2 from hw2] at h5 h4'
  rw [hw2] at hb1 hsz1
  rw [hsz] at h5 hsz1
  have HKT := hide (those_any 36 ⟨#[]⟩ s p0 w2)
  obtain ⟨hb2, hsz2, c1, c2, c3, c3'⟩ := boxesT_at w2 p0 ⟨#[]⟩ s 36
  rw [hsz1] at c1 c2 c3 c3' hsz2
  gi_wp2_with fail
  refine ⟨trivial, (callsIn_wide.2 (unhide HKT)).mono ?_⟩
  rintro e w ⟨rfl, hw⟩
  have hwT : boxesT w2 p0 ⟨#[]⟩ s 36 = w := hw.symm
  rw [hwT] at hb2 hsz2 c1 c2 c3 c3'
  rw [hsz1]
  have hb03 := below_grow (below_grow hb0 (Nat.le_refl _) hb1) (Nat.le_refl _) hb2
  have hr4 : VRow w w0.heap.size 9 [.string ⟨#[]⟩] := h4'.after hb2
  have hr5 : VRow w (w0.heap.size + 1) 4 [.bool false] := h5.after hb2
  have hUw3 := below_grow hUw (Nat.le_refl _) hb03
  clear hw hwT HKT hw1 hw2 h4 h5 h4'
  have HW3 : Hid (w.heap.size = w0.heap.size + 5) := hide (by omega)
  have hUs := hUw.size
  clear hsz2 hb0 hb1 hsz hsz1
  gi_wp2_with fail
  refine range_told rfl (by decide) (gf := 52) (lb := #[.pointer (some ⟨w0.heap.size + 1 + 1, 0, none⟩), .pointer (some ⟨w0.heap.size + 1 + 1 + 1 + 1, 0, none⟩), .pointer (some ⟨w0.heap.size + 1 + 1 + 1, 0, none⟩)]) rfl trivial (enters_of Try.func52 (by kernel_rfl) rfl)
    (those_tells 2 36 ⟨#[]⟩ s _ (asked_behind ⟨#[]⟩ s hs) (fun k => k = w0.heap.size ∨ k = w0.heap.size + 1) (OA U (w0.heap.size + 5)) p0 T hT U w hU hUw3 (fun g hg => by rw [unhide HW3] at hg; exact hg) (fun k hk => by rw [unhide HW3]; omega) _ _ _ c1 c2 c3 c3' (by omega) (by omega)) (fun _ => rfl)
    (fun V pre W => pre = [] ∧ TwoI w.heap.size w0.heap.size w V (.string ⟨#[]⟩) (.bool false) W) (fun c pre W => c = .ret ∧ ∃ V x, pre = [x] ∧ TwoI w.heap.size w0.heap.size w V (.string x.1.1) (.bool true) W)
    (fun V => (Tame.pure _ (fun pre => pre = [])).and (TwoI.tame _ _ _ V _ _)) (fun c pre W W' row hs hg hr => by obtain ⟨e1, V, x, e2, e3⟩ := hs; exact ⟨e1, V, x, e2, TwoI.tame (α := Unit) _ _ _ V _ _ () W W' row e3 hg hr⟩)
    (fun V hV => ⟨rfl, hr4.after hV, hr5.after hV, ⟨Nat.le_refl _, KX.refl _ _ _⟩, hV⟩)
    (fun x a' W => ∃ Bx, VRow W Bx 44 [.string x.1.1, .slice x.2.1 x.1.2.length x.2.2] ∧ a' = { tmps := #[.pointer p0, .string s, undef, undef, .pointer (some ⟨w0.heap.size, 0, none⟩), .pointer (some ⟨w0.heap.size + 1, 0, none⟩), .pointer (some ⟨Bx, 0, none⟩), .pointer p0, .string s, .agg #[.string ⟨#[]⟩, .string s], .func (.func 52) #[] #[.pointer (some ⟨w0.heap.size + 1 + 1, 0, none⟩), .pointer (some ⟨w0.heap.size + 1 + 1 + 1 + 1, 0, none⟩), .pointer (some ⟨w0.heap.size + 1 + 1 + 1, 0, none⟩)], .agg #[.string x.1.1, .slice x.2.1 x.1.2.length x.2.2], undef, undef], defers := [] })
    (fun x a' _ X Y row hs hg hr => by obtain ⟨Bx, h1, h2⟩ := hs; exact ⟨Bx, VRow.own Bx 44 _ () X Y row h1 hg (fun r e => (hr r e).2), h2⟩)
    ?assign ?body ?done ?stop
  case assign =>
    rintro l V pre x W K ⟨he, hrow⟩ hG hK
    simp only [encE]
    gi_wp2
    have hWV := hrow.kx.1
    refine hK _ _ ((KeepsOthers.alloc _ _).from _) (KX.below hWV (below_alloc' _)) ⟨he, (TwoI.tame (α := Unit) _ _ _ V _ _).below (s := ()) hrow (below_alloc' _)⟩ ⟨W.heap.size, VRow.new W 44 [.string x.1.1, .slice x.2.1 x.1.2.length x.2.2], rfl⟩
  case body =>
    rintro l V pre ⟨⟨P, L⟩, r, cc⟩ a' W ⟨he, hrow⟩ hG ⟨Bx, hX, rfl⟩ hlt
    subst he
    have HT := hide (hrow.turn (.string P) (.bool true))
    dsimp only at hX ⊢
    have x0 : W.cell? ⟨Bx, 0, none⟩ = some (.string P) := hX.cell 0 _ rfl
    have e4 := hrow.r4.cell 0 _ rfl
    have e5 := hrow.r5.cell 0 _ rfl
    have f4 := hrow.r4.frozen 0
    have f5 := hrow.r5.frozen 0
    gi_wp2_with fail
    exact ⟨(unhide HT).1, rfl, V, _, rfl, (unhide HT).2⟩
  case done =>
    rintro D V xs W hD hxs ⟨he, hrow⟩ hK
    subst he
    have e4 := hrow.r4.cell 0 _ rfl
    have e5 := hrow.r5.cell 0 _ rfl
    have f4 := hrow.r4.frozen 0
    have f5 := hrow.r5.frozen 0
    have HT := hide (hrow.turn (.string ⟨#[]⟩) (.bool false))
    have HK := hide ((unhide HT).1.same D _ (by omega) hK rfl)
    clear hK
    gi_wp2
    refine ⟨by simp, .inl ⟨_, _, rfl, run_takeDeferred (unhide HK), ?_⟩⟩
    obtain ⟨g1, g2, g3⟩ := (unhide HT).2.done hb03 (by have := unhide HW3; omega) (Nat.le_refl _) (.deferred none) (unhide HK) rfl hD
    refine ⟨_, results_next _ _ w0.heap.size (w0.heap.size + 1) ⟨#[]⟩ false rfl rfl (g2.cell 0 _ rfl) (g3.cell 0 _ rfl), ?_, g1⟩
    have hl : (T.filter fun x => decide (0 < cmpE x.1 s)) = [] := hxs.symm
    rw [hl]
    rfl
  case stop =>
    rintro D c pre W hD ⟨k, hk⟩ ⟨rfl, V, x, rfl, hrow⟩ hK
    gi_wp2
    refine ⟨by simp, .inl ⟨_, _, rfl, run_takeDeferred hK, ?_⟩⟩
    obtain ⟨g1, g2, g3⟩ := hrow.done hb03 (by have := unhide HW3; omega) (Nat.le_refl _) (.deferred none) hK rfl hD
    refine ⟨_, results_next _ _ w0.heap.size (w0.heap.size + 1) x.1.1 true rfl rfl (g2.cell 0 _ rfl) (g3.cell 0 _ rfl), ?_, g1⟩
    have hl : (T.filter fun x => decide (0 < cmpE x.1 s))[0]? = some x.1 := by
      have h1 := congrArg (·[0]?) hk
      simp only [List.map_cons, List.map_nil, List.getElem?_cons_zero] at h1
      cases k with
      | zero => simp at h1
      | succ k => rw [List.getElem?_take_of_lt (by omega)] at h1; exact h1.symm
    unfold nextL
    rw [hl]
end Go.Proofs.Ytpfighkafmammaa
