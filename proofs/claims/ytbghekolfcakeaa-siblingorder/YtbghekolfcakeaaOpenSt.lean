/-
  Steps that come in, opened.
-/
import Derived.Test.YtbghekolfcakeaaOpen
import Derived.Test.YtbghekolfcakeaaWorld0
import Derived.ChangeMaps5
namespace Go.Proofs.Ytbghekolfcakeaa
open Go.ChangeShapes Go.WideShapes Go.ChangeAt Go.RowKit Go.Deep

section
variable {H : Type} {enc : TypeId × Value → H} {W : World}

theorem cells75 : Try.prog.cellsOf 75 = 4 := by kernel_rfl
theorem step_of_trod {fuel : Nat} {cs : List Value} {x : DataW H × List MemPlace} (hf : DataW.trod enc Try.prog W 0 (fun _ => true) true fuel 75 cs = some x) :
    ∃ s : St, cs = [.int .i64 s.1, .int .i64 s.2.1, .int .i64 s.2.2.1, .int .i64 s.2.2.2] := by
  obtain ⟨xs, n, _, _, hlen, hxl, hall⟩ := DataW.trod_struct Try.underlying75 hf
  rw [cells75] at hlen
  match cs, hlen with
  | [c0, c1, c2, c3], _ =>
    match xs, hxl with
    | [y0, y1, y2, y3], _ =>
      have g0 := hall 0 _ rfl
      have g1 := hall 1 _ rfl
      have g2 := hall 2 _ rfl
      have g3 := hall 3 _ rfl
      simp [cells3] at g0 g1 g2 g3
      obtain ⟨k0, e0, _, _⟩ := DataW.trod_int Try.underlying3 g0
      obtain ⟨k1, e1, _, _⟩ := DataW.trod_int Try.underlying3 g1
      obtain ⟨k2, e2, _, _⟩ := DataW.trod_int Try.underlying3 g2
      obtain ⟨k3, e3, _, _⟩ := DataW.trod_int Try.underlying3 g3
      simp only [List.cons.injEq, and_true] at e0 e1 e2 e3
      exact ⟨(k0, k1, k2, k3), by rw [e0, e1, e2, e3]⟩
theorem open_steps {r0 : Reach} {base : Nat} {v0 : Value} {d0 : DataW H} {p0 : List MemPlace}
    (hv : Value.okWide Try.prog W r0 base 46 v0) (h : DataW.Trod enc Try.prog W 0 (fun _ => true) true 46 v0 d0 p0) :
    ∃ (a : Option Addr) (cap : Nat) (ss : List St), v0 = .slice a ss.length cap ∧ ss.length ≤ 9223372036854775807 ∧ SS W a ss := by
  obtain ⟨a0, len0, cap0, rfl⟩ := okWide_slice Try.underlying46 hv
  obtain ⟨fuel, hf⟩ := h
  rcases open_slice Try.underlying46 hf with ⟨hcs, _⟩ | ⟨a, len, cap, m, n, D, Pl, hcs, _, hl, hmax, hmm, _, hall⟩
  · simp [Value.cells] at hcs
    obtain ⟨rfl, rfl, rfl⟩ := hcs
    exact ⟨none, 0, [], rfl, by simp, fun h => absurd h (Nat.lt_irrefl _)⟩
  · simp [Value.cells] at hcs
    obtain ⟨rfl, rfl, rfl⟩ := hcs
    simp only [if_true] at hmm
    obtain ⟨b, off, spot⟩ := a
    have each : ∀ i, i < len0 → ∃ s : St, ∀ j u, ([.int .i64 s.1, .int .i64 s.2.1, .int .i64 s.2.2.1, .int .i64 s.2.2.2] : List Value)[j]? = some u → W.cell? ((⟨b, off, spot⟩ : Addr).add (i * 4 + j)) = some u := by
      intro i hi
      obtain ⟨cs', h1, h2⟩ := hall i (by omega)
      rw [cells75] at h1
      obtain ⟨_, hlen, hcell⟩ := World.cells?_some h1
      obtain ⟨s, e⟩ := step_of_trod h2
      refine ⟨s, fun j u hu => ?_⟩
      have hj : j < 4 := (List.getElem?_eq_some_iff.1 hu).1
      have hc := hcell j (by omega)
      rw [add_add] at hc
      rw [hc, e]
      exact hu
    obtain ⟨q, hq⟩ := choose_lt each
    have hbl : ((List.range len0).map q).length = len0 := by simp
    refine ⟨some ⟨b, off, spot⟩, cap0, (List.range len0).map q, by rw [hbl], by rw [hbl]; unfold maxLen at hmax; omega, fun h0 => ?_⟩
    rw [hbl] at h0
    have hspot : spot = none := by simpa [Addr.add] using World.cell?_spot (hq 0 h0 0 _ rfl)
    subst hspot
    have hb : b < W.heap.size := by have := block_lt_of_cell (hq 0 h0 0 _ rfl); rw [add_plain] at this; exact this
    refine ⟨b, off, rfl, hb, fun j v hj => ?_⟩
    have hjl := (List.getElem?_eq_some_iff.1 hj).1
    rw [hbl] at hjl
    simp [hjl] at hj
    subst hj
    have cc : ∀ i u, ([.int .i64 (q j).1, .int .i64 (q j).2.1, .int .i64 (q j).2.2.1, .int .i64 (q j).2.2.2] : List Value)[i]? = some u → W.cell? ⟨b, off + j * 4 + i, none⟩ = some u := fun i u hu => by
      have := hq j hjl i u hu
      rw [add_plain, ← Nat.add_assoc] at this
      exact this
    exact ⟨cc 0 _ rfl, cc 1 _ rfl, cc 2 _ rfl, cc 3 _ rfl⟩
end
end Go.Proofs.Ytbghekolfcakeaa
