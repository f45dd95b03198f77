/-
  Rows of numbers and of bools of the call's own; what is made and appended to.
-/
import Derived.Test.YtehamngfkmnckaaRow
import Derived.Maps.AppendAt
namespace Go.Proofs.Ytehamngfkmnckaa
open Go.RowKit

theorem below_alloc' {w : World} (o : Obj) : Below w.heap.size w (w.alloc o) := (Below.refl _ _).alloc (Nat.le_refl _) o
theorem own_after {w w' : World} {base e size n : Nat} {v : Value} {xs : List Value} (h : w.ownsRow base e size v n xs) (hb : Below w.heap.size w w') : w'.ownsRow base e size v n xs := by
  refine ⟨h.1, ?_⟩
  rcases h.2 with h2 | ⟨g, cap, cur, e1, e2, e3, e4⟩
  · exact .inl h2
  · exact .inr ⟨g, cap, cur, e1, e2, (hb.block g (Array.getElem?_eq_some_iff.1 e3).1).trans e3, e4⟩
theorem own_set {w : World} {base e size n : Nat} {v : Value} {xs : List Value} (h : w.ownsRow base e size v n xs) {B : Nat} (hB : B < base) (k : Nat) (u : Value) : (w.setCell ⟨B, k, none⟩ u).ownsRow base e size v n xs := by
  refine ⟨h.1, ?_⟩
  rcases h.2 with h2 | ⟨g, cap, cur, e1, e2, e3, e4⟩
  · exact .inl h2
  · exact .inr ⟨g, cap, cur, e1, e2, (heap_setCell_other w ⟨B, k, none⟩ g u (by show g ≠ B; omega)).trans e3, e4⟩
theorem below_set {w W : World} {n B : Nat} (h : Below n w W) (hB : n ≤ B) (k : Nat) (u : Value) : Below n w (W.setCell ⟨B, k, none⟩ u) := h.setCell (p := ⟨B, k, none⟩) hB u
theorem VRow.after {W W' : World} {A T : Nat} {vs : List Value} (h : VRow W A T vs) (hb : Below W.heap.size W W') : VRow W' A T vs := h.below hb h.lt
theorem VRow.setNe {W : World} {A T : Nat} {vs : List Value} (h : VRow W A T vs) {B : Nat} (hne : A ≠ B) (k : Nat) (u : Value) : VRow (W.setCell ⟨B, k, none⟩ u) A T vs := (heap_setCell_other W ⟨B, k, none⟩ A u hne).trans h
theorem VRow.grown {W W' : World} {A T : Nat} {vs : List Value} {row : Option Nat} (h : VRow W A T vs) (hg : W.grownBy W' row) (hne : some A ≠ row) : VRow W' A T vs := (hg.block A h.lt hne).trans h
theorem grown_below {w w' : World} {base : Nat} {e : TypeId} {size : Nat} {v : Value} {n : Nat} {xs : List Value} (hown : w.ownsRow base e size v n xs) (hg : w.grownBy w' v.ownBlock) (hb : base ≤ w.heap.size) : Below base w w' :=
  ⟨hg.os, hg.tape, hg.output, hg.size, fun k hk => hg.block k (by omega) (by
    rcases hown.2 with ⟨rfl, _⟩ | ⟨g, cap, cur, rfl, hg', _⟩
    · simp [Value.ownBlock]
    · simp [Value.ownBlock]; omega)⟩
/-- Numbers as cells. -/
def nums (xs : List Int) : List Value := xs.map fun x => .int .i64 x
def bools (g : List Bool) : List Value := g.map fun b => .bool b
theorem nums_one (xs : List Int) : ∀ v ∈ nums xs, v.oneCell' = true := fun v hv => by
  obtain ⟨x, _, rfl⟩ := List.mem_map.1 hv
  rfl
theorem VRow.sn {W : World} {B T : Nat} {xs : List Int} (h : VRow W B T (nums xs)) : Sn W (some ⟨B, 0, none⟩) xs := fun _ =>
  ⟨B, 0, rfl, h.lt, fun j x hj => by rw [Nat.zero_add]; exact h.cell j _ (by rw [nums, List.getElem?_map, hj]; rfl)⟩
theorem own_sn {W : World} {base : Nat} {v : Value} {n : Nat} {xs : List Int} (hn : xs.length = n) (h : W.ownsRow base 3 1 v n (nums xs)) : ∃ a cap, v = .slice a xs.length cap ∧ xs.length ≤ cap ∧ Sn W a xs := by
  subst hn
  rcases h.2 with ⟨rfl, h0⟩ | ⟨g, cap, cur, rfl, hg, hh, c1, c2, c3, c4⟩
  · have : xs = [] := List.eq_nil_of_length_eq_zero h0
    subst this
    exact ⟨none, 0, rfl, Nat.le_refl _, Sn.none _ _⟩
  · refine ⟨_, cap, rfl, c1, fun _ => ⟨g, 0, rfl, (Array.getElem?_eq_some_iff.1 hh).1, fun j x hj => ?_⟩⟩
    have hjl := (List.getElem?_eq_some_iff.1 hj).1
    rw [Nat.zero_add, cell_of_row W g _ cur 3 (0, 0) hh]
    have h5 : (cur.toList.take (xs.length * 1))[j]? = (nums xs)[j]? := by rw [c4]
    rw [List.getElem?_take_of_lt (by omega), nums, List.getElem?_map, hj] at h5
    simpa using h5
theorem info_parts {P : Program} {T : TypeId} {z : Option Value} {s b : Nat} (h : (P.info? T).map (fun i => (i.zero, i.size, i.bytes)) = some (z, s, b)) : ∃ i, P.info? T = some i ∧ i.zero = z ∧ i.size = s ∧ i.bytes = b := by
  obtain ⟨i, h1, h2⟩ := Option.map_eq_some_iff.1 h
  simp at h2
  exact ⟨i, h1, h2.1, h2.2.1, h2.2.2⟩
theorem info3 : (Try.prog.info? 3).map (fun i => (i.zero, i.size, i.bytes)) = some (some (.int .i64 0), 1, 8) := by kernel_rfl
theorem info4 : (Try.prog.info? 4).map (fun i => (i.zero, i.size, i.bytes)) = some (some (.bool false), 1, 1) := by kernel_rfl
/-- So many bools, all false. -/
theorem make_bools (n : Nat) (hn : n ≤ 100000) (w : World) : ∃ wm, (Instr.makeSlice 30 (.int .i64 n) (.int .i64 n)).run Try.prog w = .ok (.slice (some ⟨w.heap.size, 0, none⟩) n n) wm ∧ VRow wm w.heap.size 4 (bools (List.replicate n false)) ∧ Below w.heap.size w wm := by
  obtain ⟨i0, hi, hz0, hz1, hz2⟩ := info_parts info4
  have hr := run_make (P := Try.prog) w 30 4 i0 (.bool false) Try.underlying30 hi hz0 .i64 .i64 n n (by omega) (by omega) (by rw [hz2]; omega) (by omega)
  rw [hz1] at hr
  simp only [Int.toNat_natCast, Nat.mul_one] at hr
  refine ⟨_, hr, ?_, below_alloc' _⟩
  have e : madeCells (Value.bool false).cells n = (bools (List.replicate n false)).toArray := by
    apply Array.ext'
    apply List.ext_getElem (by simp [madeCells, bools])
    intro j h1 h2
    simp [madeCells, bools, Value.cells, Nat.mod_one]
  rw [e]
  exact VRow.new _ _ _
theorem make_ints (n : Nat) (hn : n ≤ 100000) (w : World) : ∃ wm, (Instr.makeSlice 27 (.int .i64 n) (.int .i64 n)).run Try.prog w = .ok (.slice (some ⟨w.heap.size, 0, none⟩) n n) wm ∧ VRow wm w.heap.size 3 (nums (List.replicate n 0)) ∧ Below w.heap.size w wm := by
  obtain ⟨i0, hi, hz0, hz1, hz2⟩ := info_parts info3
  have hr := run_make (P := Try.prog) w 27 3 i0 (.int .i64 0) Try.underlying27 hi hz0 .i64 .i64 n n (by omega) (by omega) (by rw [hz2]; omega) (by omega)
  rw [hz1] at hr
  simp only [Int.toNat_natCast, Nat.mul_one] at hr
  refine ⟨_, hr, ?_, below_alloc' _⟩
  have e : madeCells (Value.int .i64 0).cells n = (nums (List.replicate n 0)).toArray := by
    apply Array.ext'
    apply List.ext_getElem (by simp [madeCells, nums])
    intro j h1 h2
    simp [madeCells, nums, Value.cells, Nat.mod_one]
  rw [e]
  exact VRow.new _ _ _
theorem bools_at {g : List Bool} {i : Nat} {b : Bool} (h : g[i]? = some b) : (bools g)[i]? = some (.bool b) := by rw [bools, List.getElem?_map, h]; rfl
theorem bools_set (g : List Bool) (i : Nat) (b : Bool) : (bools g).set i (.bool b) = bools (g.set i b) := by rw [bools, bools, List.map_set]
theorem nums_set (g : List Int) (i : Nat) (b : Int) : (nums g).set i (.int .i64 b) = nums (g.set i b) := by rw [nums, nums, List.map_set]
theorem nums_append (a b : List Int) : nums (a ++ b) = nums a ++ nums b := List.map_append
/-- Numbers without a sign, as Go has them. -/
def ints (l : List Nat) : List Int := l.map Int.ofNat
theorem ints_len (l : List Nat) : (ints l).length = l.length := List.length_map _
theorem ints_append (a b : List Nat) : ints (a ++ b) = ints a ++ ints b := List.map_append
def drawN (draw : Int) : Nat := (draw % 18446744073709551616).toNat
theorem drawN_is (draw : Int) : IntKind.u64.wrap draw = (drawN draw : Int) := by
  rw [IntKind.wrap_u64, drawN, Int.toNat_of_nonneg (Int.emod_nonneg _ (by decide))]
theorem drawN_lt (draw : Int) : drawN draw < 18446744073709551616 := by
  have h1 := Int.emod_nonneg draw (show (18446744073709551616 : Int) ≠ 0 by decide)
  have h2 := Int.emod_lt_of_pos draw (show (0 : Int) < 18446744073709551616 by decide)
  unfold drawN
  omega
/-- What Order answers. -/
def ordI (draw n : Int) : List Int := if n < 1 ∨ 1000 < n then [] else ints (Dc.order (drawN draw) n.toNat)
def MadeN (w : World) (xs : List Int) (e : Ending) (w' : World) : Prop := ∃ r cap, e = .returned (.slice r xs.length cap) ∧ xs.length ≤ cap ∧ Sn w' r xs ∧ Below w.heap.size w w'
end Go.Proofs.Ytehamngfkmnckaa
