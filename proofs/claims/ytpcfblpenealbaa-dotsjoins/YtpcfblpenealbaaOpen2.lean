/-
  A set that comes in, opened.
-/
import Derived.Test.YtpcfblpenealbaaOpen
namespace Go.Proofs.Ytpcfblpenealbaa
open Go.ChangeShapes Go.WideShapes Go.ChangeAt Go.RowKit Go.Deep

theorem dots_of_trod {H : Type} {enc : TypeId × Value → H} {W : World} {fuel : Nat} {v : Value} {x : DataW H × List MemPlace}
    (hf : DataW.trod enc Try.prog W 0 (fun _ => true) true fuel 22 [v] = some x) : ∃ (a : Option Addr) (cap : Nat) (ds : List Vc.D), v = .slice a ds.length cap ∧ ds.length ≤ cap ∧ Sl W a ds := by
  rcases open_slice_pairs Try.underlying22 Try.underlying26 cells26 rfl rfl cells3 cells3 hf with ⟨hcs, _⟩ | ⟨a, len, cap, m, n, V0, V1, D0, D1, P0, P1, hcs, _, hl, hm, hmm, _, hall⟩
  · simp at hcs
    exact ⟨none, 0, [], hcs, Nat.le_refl _, Sl.none _ _⟩
  · simp at hcs
    simp only [if_true] at hmm
    have hbl : ((List.range len).map fun i => (numOf (V0 i), numOf (V1 i))).length = len := by simp
    refine ⟨some a, cap, (List.range len).map fun i => (numOf (V0 i), numOf (V1 i)), by rw [hbl]; exact hcs, by omega, fun h0 => ?_⟩
    rw [hbl] at h0
    obtain ⟨b, off, spot⟩ := a
    have hspot : spot = none := by simpa [Addr.add] using World.cell?_spot (hall 0 (by omega)).1
    subst hspot
    refine ⟨b, off, rfl, block_lt_of_cell (hall 0 (by omega)).1, fun j x hx => ?_⟩
    have hj := (List.getElem?_eq_some_iff.1 hx).1
    rw [hbl] at hj
    obtain ⟨c0, c1, t0, t1⟩ := hall j (by omega)
    obtain ⟨k0, e0, _, _⟩ := DataW.trod_int Try.underlying3 t0
    obtain ⟨k1, e1, _, _⟩ := DataW.trod_int Try.underlying3 t1
    simp only [List.cons.injEq, and_true] at e0 e1
    rw [add_plain] at c0 c1
    simp [hj] at hx
    subst hx
    rw [e0] at c0
    rw [e1] at c1
    rw [e0, e1]
    exact ⟨c0, c1⟩
theorem cells24 : Try.prog.cellsOf 24 = 2 := by kernel_rfl
theorem open_set {H : Type} {enc : TypeId × Value → H} {W : World} {r : Reach} {base : Nat} {v0 : Value} {d0 : DataW H} {p0 : List MemPlace}
    (hv : Value.okWide Try.prog W r base 24 v0) (h : DataW.Trod enc Try.prog W 0 (fun _ => true) true 24 v0 d0 p0) :
    ∃ (r1 r2 : Option Addr) (c1 c2 : Nat) (B E : List Vc.D), v0 = .agg #[.slice r1 B.length c1, .slice r2 E.length c2] ∧ B.length ≤ c1 ∧ E.length ≤ c2 ∧ Sl W r1 B ∧ Sl W r2 E := by
  obtain ⟨v0, v1, y0, y1, n, rfl, _, _, t0, t1⟩ := Go.Joins.open_agg2 Try.underlying24 (by kernel_rfl) cells24 hv h
  obtain ⟨r1, c1, B, rfl, h1, s1⟩ := dots_of_trod t0
  obtain ⟨r2, c2, E, rfl, h2, s2⟩ := dots_of_trod t1
  exact ⟨r1, r2, c1, c2, B, E, rfl, h1, h2, s1, s2⟩
end Go.Proofs.Ytpcfblpenealbaa
