/-
  Facts that come in, opened.
-/
import Derived.Test.YtbgpdiinkkgieaaOpen
import Derived.Test.YtbgpdiinkkgieaaFacts
import Derived.ChangeMaps5
namespace Go.Proofs.Ytbgpdiinkkgieaa
open Go.ChangeShapes Go.WideShapes Go.ChangeAt Go.RowKit Go.Deep

section
variable {H : Type} {enc : TypeId × Value → H} {W : World}

theorem dots_of_trod {fuel : Nat} {v : Value} {x : DataW H × List MemPlace}
    (hf : DataW.trod enc Try.prog W 0 (fun _ => true) true fuel 32 [v] = some x) : ∃ (a : Option Addr) (cap : Nat) (ds : List Vc.D), v = .slice a ds.length cap ∧ ds.length ≤ cap ∧ Sl W a ds := by
  rcases open_slice_pairs Try.underlying32 Try.underlying24 cells24 rfl rfl cells3 cells3 hf with ⟨hcs, _⟩ | ⟨a, len, cap, m, n, V0, V1, D0, D1, P0, P1, hcs, _, hl, hm, hmm, _, hall⟩
  · simp at hcs
    exact ⟨none, 0, [], hcs, Nat.le_refl _, Sl.none _ _⟩
  · simp at hcs
    simp only [if_true] at hmm
    have hbl : ((List.range len).map fun i => (numOf (V0 i), numOf (V1 i))).length = len := by simp
    refine ⟨some a, cap, (List.range len).map fun i => (numOf (V0 i), numOf (V1 i)), by rw [hbl]; exact hcs, by omega, fun h0 => ?_⟩
    rw [hbl] at h0
    obtain ⟨b, off, spot⟩ := a
    have hspot : spot = none := by simpa [Addr.add] using World.cell?_spot (hall 0 (by omega)).1
    subst hspot
    refine ⟨b, off, rfl, block_lt_of_cell (hall 0 (by omega)).1, fun j x hx => ?_⟩
    have hj := (List.getElem?_eq_some_iff.1 hx).1
    rw [hbl] at hj
    obtain ⟨c0, c1, t0, t1⟩ := hall j (by omega)
    obtain ⟨k0, e0, _, _⟩ := DataW.trod_int Try.underlying3 t0
    obtain ⟨k1, e1, _, _⟩ := DataW.trod_int Try.underlying3 t1
    simp only [List.cons.injEq, and_true] at e0 e1
    rw [add_plain] at c0 c1
    simp [hj] at hx
    subst hx
    rw [e0] at c0
    rw [e1] at c1
    rw [e0, e1]
    exact ⟨c0, c1⟩
theorem cells32' : Try.prog.cellsOf 32 = 1 := by kernel_rfl
theorem cells30 : Try.prog.cellsOf 30 = 1 := by kernel_rfl
theorem cells34 : Try.prog.cellsOf 34 = 4 := by kernel_rfl
theorem cells4 : Try.prog.cellsOf 4 = 1 := by kernel_rfl
theorem rows_of_trod {fuel : Nat} {v : Value} {x : DataW H × List MemPlace}
    (hf : DataW.trod enc Try.prog W 0 (fun _ => true) true fuel 30 [v] = some x) : ∃ (a : Option Addr) (cap : Nat) (rows : List (List Vc.D)), v = .slice a rows.length cap ∧ rows.length ≤ cap ∧ RL W a rows := by
  rcases open_slice Try.underlying30 hf with ⟨hcs, _⟩ | ⟨a, len, cap, m, n, D, Pl, hcs, _, hl, _, hmm, _, hall⟩
  · simp at hcs
    exact ⟨none, 0, [], hcs, Nat.le_refl _, RL.none _ _⟩
  · simp at hcs
    simp only [if_true] at hmm
    obtain ⟨b, off, spot⟩ := a
    have each : ∀ i, i < len → ∃ q : List Vc.D × Option Addr × Nat, W.cell? ((⟨b, off, spot⟩ : Addr).add i) = some (.slice q.2.1 q.1.length q.2.2) ∧ q.1.length ≤ q.2.2 ∧ Sl W q.2.1 q.1 := by
      intro i hi
      obtain ⟨cs', h1, h2⟩ := hall i (by omega)
      rw [cells32'] at h1
      obtain ⟨_, hlen, hcell⟩ := World.cells?_some h1
      match cs', hlen with
      | [c0], _ =>
        obtain ⟨r, c, ds, e, g1, g2⟩ := dots_of_trod h2
        have hc := hcell 0 (by omega)
        rw [add_add] at hc
        refine ⟨(ds, r, c), ?_, g1, g2⟩
        rw [show i = i * 1 + 0 by omega, hc, e]
        rfl
    obtain ⟨q, hq⟩ := choose_lt each
    have hbl : ((List.range len).map fun i => (q i).1).length = len := by simp
    refine ⟨some ⟨b, off, spot⟩, cap, (List.range len).map fun i => (q i).1, by rw [hbl]; exact hcs, by omega, fun h0 => ?_⟩
    rw [hbl] at h0
    have hspot : spot = none := by simpa [Addr.add] using World.cell?_spot (hq 0 h0).1
    subst hspot
    have hb : b < W.heap.size := by have := block_lt_of_cell (hq 0 h0).1; rw [add_plain] at this; exact this
    refine ⟨b, off, rfl, hb, fun j v hj => ?_⟩
    have hjl := (List.getElem?_eq_some_iff.1 hj).1
    rw [hbl] at hjl
    simp [hjl] at hj
    subst hj
    obtain ⟨hc, h1, h3⟩ := hq j hjl
    rw [add_plain] at hc
    exact ⟨(q j).2.1, (q j).2.2, hc, h1, h3⟩
theorem fact_of_trod {fuel : Nat} {cs : List Value} {x : DataW H × List MemPlace} (hf : DataW.trod enc Try.prog W 0 (fun _ => true) true fuel 34 cs = some x) :
    ∃ (f : Fc) (r : Option Addr) (c : Nat) (q : Option Addr) (d : Nat), cs = [.int .i64 f.peer, .slice r f.v.length c, .bool f.all, .slice q f.rows.length d] ∧ f.v.length ≤ c ∧ f.rows.length ≤ d ∧ Sl W r f.v ∧ RL W q f.rows := by
  obtain ⟨xs, n, _, _, hlen, hxl, hall⟩ := DataW.trod_struct Try.underlying34 hf
  rw [cells34] at hlen
  match cs, hlen with
  | [c0, c1, c2, c3], _ =>
    match xs, hxl with
    | [y0, y1, y2, y3], _ =>
      have g0 := hall 0 _ rfl
      have g1 := hall 1 _ rfl
      have g2 := hall 2 _ rfl
      have g3 := hall 3 _ rfl
      simp [cells3, cells32', cells4, cells30] at g0 g1 g2 g3
      obtain ⟨p, e0, _, _⟩ := DataW.trod_int Try.underlying3 g0
      obtain ⟨r, c, ds, e1, h1, h2⟩ := dots_of_trod g1
      obtain ⟨b, e2, _⟩ := DataW.trod_bool Try.underlying4 g2
      obtain ⟨q, d, rows, e3, h3, h4⟩ := rows_of_trod g3
      simp only [List.cons.injEq, and_true] at e0 e2
      exact ⟨⟨p, ds, b, rows⟩, r, c, q, d, by rw [e0, e1, e2, e3], h1, h3, h2, h4⟩
theorem open_facts {r0 : Reach} {base : Nat} {v0 : Value} {d0 : DataW H} {p0 : List MemPlace}
    (hv : Value.okWide Try.prog W r0 base 22 v0) (h : DataW.Trod enc Try.prog W 0 (fun _ => true) true 22 v0 d0 p0) :
    ∃ (a : Option Addr) (cap : Nat) (fs : List Fc), v0 = .slice a fs.length cap ∧ fs.length ≤ cap ∧ FL W a fs := by
  obtain ⟨a0, len0, cap0, rfl⟩ := okWide_slice Try.underlying22 hv
  obtain ⟨fuel, hf⟩ := h
  rcases open_slice Try.underlying22 hf with ⟨hcs, _⟩ | ⟨a, len, cap, m, n, D, Pl, hcs, _, hl, _, hmm, _, hall⟩
  · simp [Value.cells] at hcs
    obtain ⟨rfl, rfl, rfl⟩ := hcs
    exact ⟨none, 0, [], rfl, Nat.le_refl _, fun h => absurd h (Nat.lt_irrefl _)⟩
  · simp [Value.cells] at hcs
    obtain ⟨rfl, rfl, rfl⟩ := hcs
    simp only [if_true] at hmm
    obtain ⟨b, off, spot⟩ := a
    have each : ∀ i, i < len0 → ∃ z : Fc × Option Addr × Nat × Option Addr × Nat, (∀ j u, ([.int .i64 z.1.peer, .slice z.2.1 z.1.v.length z.2.2.1, .bool z.1.all, .slice z.2.2.2.1 z.1.rows.length z.2.2.2.2] : List Value)[j]? = some u → W.cell? ((⟨b, off, spot⟩ : Addr).add (i * 4 + j)) = some u) ∧ z.1.v.length ≤ z.2.2.1 ∧ z.1.rows.length ≤ z.2.2.2.2 ∧ Sl W z.2.1 z.1.v ∧ RL W z.2.2.2.1 z.1.rows := by
      intro i hi
      obtain ⟨cs', h1, h2⟩ := hall i (by omega)
      rw [cells34] at h1
      obtain ⟨_, hlen, hcell⟩ := World.cells?_some h1
      obtain ⟨f, r, c, q, d, e, g1, g2, g3, g4⟩ := fact_of_trod h2
      refine ⟨(f, r, c, q, d), fun j u hu => ?_, g1, g2, g3, g4⟩
      have hj : j < 4 := (List.getElem?_eq_some_iff.1 hu).1
      have hc := hcell j (by omega)
      rw [add_add] at hc
      rw [hc, e]
      exact hu
    haveI : Inhabited Fc := ⟨⟨0, [], false, []⟩⟩
    obtain ⟨q, hq⟩ := choose_lt each
    have hbl : ((List.range len0).map fun i => (q i).1).length = len0 := by simp
    refine ⟨some ⟨b, off, spot⟩, cap0, (List.range len0).map fun i => (q i).1, by rw [hbl], by omega, fun h0 => ?_⟩
    rw [hbl] at h0
    have hspot : spot = none := by simpa [Addr.add] using World.cell?_spot ((hq 0 h0).1 0 _ rfl)
    subst hspot
    have hb : b < W.heap.size := by have := block_lt_of_cell ((hq 0 h0).1 0 _ rfl); rw [add_plain] at this; exact this
    refine ⟨b, off, rfl, hb, fun j v hj => ?_⟩
    have hjl := (List.getElem?_eq_some_iff.1 hj).1
    rw [hbl] at hjl
    simp [hjl] at hj
    subst hj
    obtain ⟨hc, h1, h2, h3, h4⟩ := hq j hjl
    have cc : ∀ i u, ([.int .i64 (q j).1.peer, .slice (q j).2.1 (q j).1.v.length (q j).2.2.1, .bool (q j).1.all, .slice (q j).2.2.2.1 (q j).1.rows.length (q j).2.2.2.2] : List Value)[i]? = some u → W.cell? ⟨b, off + j * 4 + i, none⟩ = some u := fun i u hu => by
      have := hc i u hu
      rw [add_plain, ← Nat.add_assoc] at this
      exact this
    exact ⟨_, _, _, _, cc 0 _ rfl, cc 1 _ rfl, cc 2 _ rfl, cc 3 _ rfl, h1, h2, h3, h4⟩
end
end Go.Proofs.Ytbgpdiinkkgieaa
