/-
  Two texts in an array that come in, opened. Conditions: those that each theorem names.
-/
import Derived.Test.YtpfighkafmammaaE01
namespace Go.Proofs.Ytpfighkafmammaa
open Go.ChangeShapes Go.WideShapes Go.ChangeAt Go.RowKit Go.Deep

theorem cellsP2 : Try.prog.cellsOf 23 = 2 := by kernel_rfl
theorem cellsP1 : Try.prog.cellsOf 9 = 1 := by kernel_rfl
set_option maxRecDepth 100000 in
theorem open_pair {H : Type} {enc : TypeId × Value → H} {W : World} {r : Reach} {base : Nat} {sp : Nat → Bool} {held : Bool} {v0 : Value} {d0 : DataW H} {p0 : List MemPlace}
    (hv : Value.okWide Try.prog W r base 23 v0) (h : DataW.Trod enc Try.prog W 0 sp held 23 v0 d0 p0) : ∃ s0 s1 : ByteArray, v0 = .agg #[.string s0, .string s1] ∧ s0.size ≤ 9223372036854775807 ∧ s1.size ≤ 9223372036854775807 := by
  unfold Value.okWide at hv
  rw [Try.underlying23] at hv
  obtain ⟨cs, rfl, hcs, _⟩ := hv
  rw [cellsP2] at hcs
  obtain ⟨fuel, hf⟩ := h
  obtain ⟨xs, m, _, _, _, _, hel⟩ := DataW.trod_array Try.underlying23 hf
  have each : ∀ i (hi : i < 2), ∃ s : ByteArray, cs[i]? = some (.string s) ∧ s.size ≤ 9223372036854775807 := fun i hi => by
    have h1 := hel i hi
    rw [cellsP1, Nat.mul_one] at h1
    have h2 : xs[i]? = some xs[i] := List.getElem?_eq_getElem (by omega)
    rw [h2] at h1
    obtain ⟨s, e1, _, hw⟩ := DataW.trod_string Try.underlying9 h1
    have h3 := congrArg (·[0]?) e1
    simp only [List.getElem?_take, List.getElem?_drop, Value.cells] at h3
    exact ⟨s, by simpa using h3, by unfold maxLen at hw; simpa using hw⟩
  obtain ⟨s0, e0, g0⟩ := each 0 (by omega)
  obtain ⟨s1, e1, g1⟩ := each 1 (by omega)
  refine ⟨s0, s1, ?_, g0, g1⟩
  congr 1
  have hsz : cs.size = 2 := by simpa using hcs
  apply Array.ext_getElem?
  intro i
  match i with
  | 0 => simpa using e0
  | 1 => simpa using e1
  | i + 2 => rw [Array.getElem?_eq_none (by omega), Array.getElem?_eq_none (by simp)]
end Go.Proofs.Ytpfighkafmammaa
