/-
  What comes in, opened: a list of numbers, a number.
-/
import Derived.Test.YtehamngfkmnckaaAll
import Derived.ProofKit
import Derived.OpenShut
import Derived.ChangeSlices
namespace Go.Proofs.Ytehamngfkmnckaa
open Go.ChangeShapes Go.WideShapes Go.ChangeAt Go.RowKit

theorem cells3 : Try.prog.cellsOf 3 = 1 := by kernel_rfl
theorem i64_of_wf {n : Int} (h : (Lit.int .i64 n).wf = true) : I64 n := by
  simp [Lit.wf, IntKind.min, IntKind.max, IntKind.bits, IntKind.signed] at h
  exact h
theorem open_nums {H : Type} {enc : TypeId × Value → H} {W : World} {r : Reach} {base : Nat} {v0 : Value} {d0 : DataW H} {p0 : List MemPlace}
    (hv : Value.okWide Try.prog W r base 27 v0) (h : DataW.Trod enc Try.prog W 0 (fun _ => true) true 27 v0 d0 p0) :
    ∃ (a : Option Addr) (cap : Nat) (xs : List Int), v0 = .slice a xs.length cap ∧ xs.length ≤ cap ∧ xs.length ≤ 9223372036854775807 ∧ Sn W a xs := by
  obtain ⟨a0, len0, cap0, rfl⟩ := okWide_slice Try.underlying27 hv
  obtain ⟨fuel, hf⟩ := h
  rcases open_ints Try.underlying27 Try.underlying3 cells3 hf with ⟨hcs, hx⟩ | ⟨a, len, cap, zs, hcs, _, hl, hm, hz, hx, hall, _⟩
  · simp [Value.cells] at hcs
    obtain ⟨rfl, rfl, rfl⟩ := hcs
    exact ⟨none, 0, [], rfl, Nat.le_refl _, by simp, Sn.none _ _⟩
  · simp [Value.cells] at hcs
    obtain ⟨rfl, rfl, rfl⟩ := hcs
    simp only [if_true] at hz
    have hbl : (zs.take len0).length = len0 := by rw [List.length_take]; omega
    refine ⟨some a, cap0, zs.take len0, by rw [hbl], by omega, by rw [hbl]; unfold maxLen at hm; omega, fun h0 => ?_⟩
    rw [hbl] at h0
    obtain ⟨b, off, spot⟩ := a
    have hspot : spot = none := by simpa [Addr.add] using World.cell?_spot (hall 0 (by omega))
    subst hspot
    refine ⟨b, off, rfl, block_lt_of_cell (hall 0 (by omega)), fun j x hx => ?_⟩
    have hj := (List.getElem?_eq_some_iff.1 hx).1
    rw [hbl] at hj
    have c0 := hall j (by omega)
    rw [List.getElem?_take_of_lt hj] at hx
    rw [show zs.getD j 0 = x by rw [List.getD, hx]; rfl] at c0
    rw [show (⟨b, off, none⟩ : Addr).add j = ⟨b, off + j, none⟩ by unfold Addr.add; split <;> simp_all] at c0
    exact c0
theorem open_intb {H : Type} {enc : TypeId × Value → H} {W : World} {r : Reach} {base : Nat} {v0 : Value} {d0 : DataW H} {p0 : List MemPlace}
    (hv : Value.okWide Try.prog W r base 3 v0) (h : DataW.Trod enc Try.prog W 0 (fun _ => true) true 3 v0 d0 p0) :
    ∃ (n : Int), v0 = .int .i64 n ∧ I64 n := by
  obtain ⟨n, h1, _, _, hw⟩ := open_int Try.underlying3 hv h
  exact ⟨n, h1, i64_of_wf hw⟩
/-- The laws' walks, in the order of arguments that the frames want. -/
theorem draws_walk (P : Prg) (n0 : Int) (hn0 : I64 n0) (n1 : Int) (hn1 : I64 n1) (W : World) : Calls Try.prog 3 #[.int .i64 n0, .int .i64 n1] W fun e w' => e = .returned (.bool true) ∧ Below W.heap.size W w' := draws_any P n0 n1 hn0 hn1 W
theorem orders_walk (P : Prg) (n0 : Int) (hn0 : I64 n0) (n1 : Int) (hn1 : I64 n1) (W : World) : Calls Try.prog 4 #[.int .i64 n0, .int .i64 n1] W fun e w' => e = .returned (.bool true) ∧ Below W.heap.size W w' := orders_any P n0 n1 hn0 hn1 W
theorem once_walk (P : Prg) (n0 : Int) (hn0 : I64 n0) (n1 : Int) (_ : I64 n1) (W : World) : Calls Try.prog 5 #[.int .i64 n0, .int .i64 n1] W fun e w' => e = .returned (.bool true) ∧ Below W.heap.size W w' := once_any P n0 n1 hn0 W
theorem all_walk (P : Prg) (a : Option Addr) (cap : Nat) (l : List Int) (_ : l.length ≤ cap) (hlc : l.length ≤ 9223372036854775807) (W : World) (hs : Sn W a l) : Calls Try.prog 6 #[.slice a l.length cap] W fun e w' => e = .returned (.bool true) ∧ Below W.heap.size W w' := all_any P a cap l W hs hlc
end Go.Proofs.Ytehamngfkmnckaa
