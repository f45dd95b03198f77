/-
  Entries in memory; entries that come in, opened. Conditions: those that each theorem names.
-/
import Derived.Test.YtklkacmeopfmhaaGreatShort
namespace Go.Proofs.YtklkacmeopfmhaaGreat
open Go.ChangeShapes Go.WideShapes Go.ChangeAt Go.RowKit Go.Deep

/-- An entry: its path, its versions. -/
abbrev En := ByteArray × List Vc.V
def entL (x : En) (r : Option Addr) (c : Nat) : List Value := [.string x.1, .slice r x.2.length c]
def EnOk (x : En) : Prop := x.1.size ≤ 9223372036854775807 ∧ Short x.2 ∧ ∀ v ∈ x.2, v.data.size ≤ 9223372036854775807
def EAt (W : World) (g o : Nat) (x : En) : Prop := ∃ r c, W.cell? ⟨g, o, none⟩ = some (.string x.1) ∧ W.cell? ⟨g, o + 1, none⟩ = some (.slice r x.2.length c) ∧ x.2.length ≤ c ∧ SV W r x.2
/-- A slice of entries, wherever it lies. -/
def EL (W : World) (a : Option Addr) (es : List En) : Prop := 0 < es.length → ∃ g o, a = some ⟨g, o, none⟩ ∧ g < W.heap.size ∧ ∀ (j : Nat) (x : En), es[j]? = some x → EAt W g (o + j * 2) x

section
variable {H : Type} {enc : TypeId × Value → H} {W : World}
theorem cells32 : Tryz.prog.cellsOf 32 = 1 := by kernel_rfl
theorem cells34 : Tryz.prog.cellsOf 34 = 2 := by kernel_rfl
set_option maxRecDepth 100000 in
theorem vers_of_trod {fuel : Nat} {v : Value} {x : DataW H × List MemPlace} (hf : DataW.trod enc Tryz.prog W 0 (fun _ => true) true fuel 32 [v] = some x) :
    ∃ (a : Option Addr) (cap : Nat) (vs : List Vc.V), v = .slice a vs.length cap ∧ vs.length ≤ cap ∧ Short vs ∧ (∀ v ∈ vs, v.data.size ≤ 9223372036854775807) ∧ SV W a vs := by
  rcases open_slice Tryz.underlying32 hf with ⟨hcs, _⟩ | ⟨a, len, cap, m, n, D, Pl, hcs, _, hl, _, hmm, hx0, hall⟩
  · simp at hcs
    exact ⟨none, 0, [], hcs, Nat.le_refl _, fun _ h => (by cases h), fun _ h => (by cases h), SV.none _ _⟩
  · simp at hcs
    simp only [if_true] at hmm
    obtain ⟨b, off, spot⟩ := a
    have each : ∀ i, i < len → ∃ q : Vc.V × Option Addr × Nat, (∀ j u, (verL q.1 q.2.1 q.2.2)[j]? = some u → W.cell? ((⟨b, off, spot⟩ : Addr).add (i * 5 + j)) = some u) ∧ q.1.past.length ≤ q.2.2 ∧ q.1.past.length ≤ 9223372036854775807 ∧ Sl W q.2.1 q.1.past ∧ q.1.data.size ≤ 9223372036854775807 := by
      intro i hi
      obtain ⟨cs', h1, h2⟩ := hall i (by omega)
      rw [cells56] at h1
      obtain ⟨_, hlen, hcell⟩ := World.cells?_some h1
      obtain ⟨v, r, c, e, g1, g2, g3, _, g10⟩ := ver_of_trod h2
      refine ⟨(v, r, c), fun j u hu => ?_, g1, g2, g3, g10⟩
      have hj : j < 5 := (List.getElem?_eq_some_iff.1 hu).1
      have hc := hcell j (by omega)
      rw [add_add] at hc
      rw [hc, e]
      exact hu
    haveI : Inhabited Vc.V := ⟨zeroV⟩
    obtain ⟨q, hq⟩ := choose_lt each
    have hbl : ((List.range len).map fun i => (q i).1).length = len := by simp
    refine ⟨some ⟨b, off, spot⟩, cap, (List.range len).map fun i => (q i).1, by rw [hbl]; exact hcs, by omega, fun v hv' => ?_, fun v hv' => ?_, fun h0 => ?_⟩
    · obtain ⟨i, hi, rfl⟩ := List.mem_map.1 hv'
      exact (hq i (List.mem_range.1 hi)).2.2.1
    · obtain ⟨i, hi, rfl⟩ := List.mem_map.1 hv'
      exact (hq i (List.mem_range.1 hi)).2.2.2.2
    · rw [hbl] at h0
      have hspot : spot = none := by simpa [Addr.add] using World.cell?_spot ((hq 0 h0).1 0 _ rfl)
      subst hspot
      have hb : b < W.heap.size := by have := block_lt_of_cell ((hq 0 h0).1 0 _ rfl); rw [add_plain] at this; exact this
      refine ⟨b, off, rfl, hb, fun j v hj => ?_⟩
      have hjl := (List.getElem?_eq_some_iff.1 hj).1
      rw [hbl] at hjl
      simp [hjl] at hj
      subst hj
      obtain ⟨hc, h1, _, h3, _⟩ := hq j hjl
      have cc : ∀ i u, (verL (q j).1 (q j).2.1 (q j).2.2)[i]? = some u → W.cell? ⟨b, off + j * 5 + i, none⟩ = some u := fun i u hu => by
        have := hc i u hu
        rw [add_plain, ← Nat.add_assoc] at this
        exact this
      exact ⟨(q j).2.1, (q j).2.2, cc 0 _ rfl, cc 1 _ rfl, cc 2 _ rfl, cc 3 _ rfl, cc 4 _ rfl, h1, h3⟩
set_option maxRecDepth 100000 in
theorem ent_of_trod {fuel : Nat} {cs : List Value} {x : DataW H × List MemPlace} (hf : DataW.trod enc Tryz.prog W 0 (fun _ => true) true fuel 34 cs = some x) :
    ∃ (y : En) (r : Option Addr) (c : Nat), cs = entL y r c ∧ y.2.length ≤ c ∧ EnOk y ∧ SV W r y.2 := by
  obtain ⟨xs, n, _, _, hlen, hxl, hall⟩ := DataW.trod_struct Tryz.underlying34 hf
  rw [cells34] at hlen
  match cs, hlen with
  | [c0, c1], _ =>
    match xs, hxl with
    | [y0, y1], _ =>
      have g0 := hall 0 _ rfl
      have g1 := hall 1 _ rfl
      simp [cells9, cells32] at g0 g1
      obtain ⟨s, e0, _, w0⟩ := DataW.trod_string Tryz.underlying9 g0
      obtain ⟨a, cap, vs, e1, h1, h2, h3, h4⟩ := vers_of_trod g1
      simp only [List.cons.injEq, and_true] at e0
      exact ⟨(s, vs), a, cap, by rw [e0, e1]; rfl, h1, ⟨by unfold maxLen at w0; simpa using w0, h2, h3⟩, h4⟩
set_option maxRecDepth 100000 in
theorem open_entries {r0 : Reach} {base : Nat} {v0 : Value} {d0 : DataW H} {p0 : List MemPlace}
    (hv : Value.okWide Tryz.prog W r0 base 22 v0) (h : DataW.Trod enc Tryz.prog W 0 (fun _ => true) true 22 v0 d0 p0) :
    ∃ (a : Option Addr) (cap : Nat) (es : List En), v0 = .slice a es.length cap ∧ es.length ≤ cap ∧ (∀ x ∈ es, EnOk x) ∧ EL W a es := by
  obtain ⟨a0, len0, cap0, rfl⟩ := okWide_slice Tryz.underlying22 hv
  obtain ⟨fuel, hf⟩ := h
  rcases open_slice Tryz.underlying22 hf with ⟨hcs, _⟩ | ⟨a, len, cap, m, n, D, Pl, hcs, _, hl, _, hmm, hx0, hall⟩
  · simp [Value.cells] at hcs
    obtain ⟨rfl, rfl, rfl⟩ := hcs
    exact ⟨none, 0, [], rfl, Nat.le_refl _, fun _ h => (by cases h), fun h => absurd h (Nat.lt_irrefl _)⟩
  · simp [Value.cells] at hcs
    obtain ⟨rfl, rfl, rfl⟩ := hcs
    simp only [if_true] at hmm
    obtain ⟨b, off, spot⟩ := a
    have each : ∀ i, i < len0 → ∃ q : En × Option Addr × Nat, (∀ j u, (entL q.1 q.2.1 q.2.2)[j]? = some u → W.cell? ((⟨b, off, spot⟩ : Addr).add (i * 2 + j)) = some u) ∧ q.1.2.length ≤ q.2.2 ∧ EnOk q.1 ∧ SV W q.2.1 q.1.2 := by
      intro i hi
      obtain ⟨cs', h1, h2⟩ := hall i (by omega)
      rw [cells34] at h1
      obtain ⟨_, hlen, hcell⟩ := World.cells?_some h1
      obtain ⟨y, r, c, e, g1, g2, g3⟩ := ent_of_trod h2
      refine ⟨(y, r, c), fun j u hu => ?_, g1, g2, g3⟩
      have hj : j < 2 := (List.getElem?_eq_some_iff.1 hu).1
      have hc := hcell j (by omega)
      rw [add_add] at hc
      rw [hc, e]
      exact hu
    haveI : Inhabited En := ⟨(⟨#[]⟩, [])⟩
    obtain ⟨q, hq⟩ := choose_lt each
    have hbl : ((List.range len0).map fun i => (q i).1).length = len0 := by simp
    refine ⟨some ⟨b, off, spot⟩, cap0, (List.range len0).map fun i => (q i).1, by rw [hbl], by omega, fun v hv' => ?_, fun h0 => ?_⟩
    · obtain ⟨i, hi, rfl⟩ := List.mem_map.1 hv'
      exact (hq i (List.mem_range.1 hi)).2.2.1
    · rw [hbl] at h0
      have hspot : spot = none := by simpa [Addr.add] using World.cell?_spot ((hq 0 h0).1 0 _ rfl)
      subst hspot
      have hb : b < W.heap.size := by have := block_lt_of_cell ((hq 0 h0).1 0 _ rfl); rw [add_plain] at this; exact this
      refine ⟨b, off, rfl, hb, fun j v hj => ?_⟩
      have hjl := (List.getElem?_eq_some_iff.1 hj).1
      rw [hbl] at hjl
      simp [hjl] at hj
      subst hj
      obtain ⟨hc, h1, _, h3⟩ := hq j hjl
      have cc : ∀ i u, (entL (q j).1 (q j).2.1 (q j).2.2)[i]? = some u → W.cell? ⟨b, off + j * 2 + i, none⟩ = some u := fun i u hu => by
        have := hc i u hu
        rw [add_plain, ← Nat.add_assoc] at this
        exact this
      exact ⟨(q j).2.1, (q j).2.2, cc 0 _ rfl, cc 1 _ rfl, h1, h3⟩
end
end Go.Proofs.YtklkacmeopfmhaaGreat
