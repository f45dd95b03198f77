/-
  What comes in, opened: a list of dots, a dot, a number.
-/
import Derived.Test.YthchcjjpplcfnaaDoorCMath
import Derived.ProofKit
import Derived.OpenShut
import Derived.Deep.SlicePairs
import Derived.Lib.SmallJoins
namespace Go.Proofs.YthchcjjpplcfnaaDoor
open Go.ChangeShapes Go.WideShapes Go.ChangeAt Go.RowKit Go.Deep

theorem cells62 : Tryd.prog.cellsOf 62 = 1 := by kernel_rfl
theorem cells61 : Tryd.prog.cellsOf 61 = 2 := by kernel_rfl
theorem cells3 : Tryd.prog.cellsOf 3 = 1 := by kernel_rfl

def numOf : Value → Int
  | .int _ n => n
  | _ => 0

set_option maxRecDepth 100000 in
theorem open_dots {H : Type} {enc : TypeId × Value → H} {W : World} {r : Reach} {base : Nat} {v0 : Value} {d0 : DataW H} {p0 : List MemPlace}
    (hv : Value.okWide Tryd.prog W r base 62 v0) (h : DataW.Trod enc Tryd.prog W 0 (fun _ => true) true 62 v0 d0 p0) :
    ∃ (a : Option Addr) (cap : Nat) (ds : List Vc.D), v0 = .slice a ds.length cap ∧ ds.length ≤ cap ∧ Sl W a ds := by
  obtain ⟨a0, len0, cap0, rfl⟩ := okWide_slice Tryd.underlying62 hv
  obtain ⟨fuel, hf⟩ := h
  rcases open_slice_pairs Tryd.underlying62 Tryd.underlying61 cells61 rfl rfl cells3 cells3 hf with ⟨hcs, hx⟩ | ⟨a, len, cap, m, n, V0, V1, D0, D1, P0, P1, hcs, _, hl, hm, hmm, hx, hall⟩
  · simp [Value.cells] at hcs
    obtain ⟨rfl, rfl, rfl⟩ := hcs
    exact ⟨none, 0, [], rfl, Nat.le_refl _, Sl.none _ _⟩
  · simp [Value.cells] at hcs
    obtain ⟨rfl, rfl, rfl⟩ := hcs
    simp only [if_true] at hmm
    have hbl : ((List.range len0).map fun i => (numOf (V0 i), numOf (V1 i))).length = len0 := by simp
    refine ⟨some a, cap0, (List.range len0).map fun i => (numOf (V0 i), numOf (V1 i)), by rw [hbl], by omega, fun h0 => ?_⟩
    rw [hbl] at h0
    obtain ⟨b, off, spot⟩ := a
    have hspot : spot = none := by simpa [Addr.add] using World.cell?_spot (hall 0 (by omega)).1
    subst hspot
    refine ⟨b, off, rfl, block_lt_of_cell (hall 0 (by omega)).1, fun j x hx => ?_⟩
    have hj := (List.getElem?_eq_some_iff.1 hx).1
    rw [hbl] at hj
    obtain ⟨c0, c1, t0, t1⟩ := hall j (by omega)
    obtain ⟨k0, e0, _, _⟩ := DataW.trod_int Tryd.underlying3 t0
    obtain ⟨k1, e1, _, _⟩ := DataW.trod_int Tryd.underlying3 t1
    simp only [List.cons.injEq, and_true] at e0 e1
    rw [add_plain] at c0 c1
    simp [hj] at hx
    subst hx
    rw [e0] at c0
    rw [e1] at c1
    rw [e0, e1]
    exact ⟨c0, c1⟩

set_option maxRecDepth 100000 in
theorem open_dot {H : Type} {enc : TypeId × Value → H} {W : World} {r : Reach} {base : Nat} {v0 : Value} {d0 : DataW H} {p0 : List MemPlace}
    (hv : Value.okWide Tryd.prog W r base 61 v0) (h : DataW.Trod enc Tryd.prog W 0 (fun _ => true) true 61 v0 d0 p0) :
    ∃ (p c : Int), v0 = .agg #[.int .i64 p, .int .i64 c] := by
  obtain ⟨v0, v1, y0, y1, n, rfl, _, _, t0, t1⟩ := Go.Joins.open_agg2 Tryd.underlying61 (by kernel_rfl) cells61 hv h
  obtain ⟨k0, e0, _, _⟩ := DataW.trod_int Tryd.underlying3 t0
  obtain ⟨k1, e1, _, _⟩ := DataW.trod_int Tryd.underlying3 t1
  simp only [List.cons.injEq, and_true] at e0 e1
  exact ⟨k0, k1, by rw [e0, e1]⟩
set_option maxRecDepth 100000 in
theorem open_int0 {H : Type} {enc : TypeId × Value → H} {W : World} {r : Reach} {base : Nat} {v0 : Value} {d0 : DataW H} {p0 : List MemPlace}
    (hv : Value.okWide Tryd.prog W r base 3 v0) (h : DataW.Trod enc Tryd.prog W 0 (fun _ => true) true 3 v0 d0 p0) :
    ∃ (n : Int), v0 = .int .i64 n := by
  obtain ⟨n, h1, _⟩ := open_int Tryd.underlying3 hv h
  exact ⟨n, h1⟩
end Go.Proofs.YthchcjjpplcfnaaDoor
