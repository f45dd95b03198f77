/-
  Versions that come in, opened.
-/
import Derived.Test.YthchcjjpplcfnaaDoorOpen
import Derived.Test.YthchcjjpplcfnaaDoorGrow
import Derived.ChangeMaps5
namespace Go.Proofs.YthchcjjpplcfnaaDoor
open Go.ChangeShapes Go.WideShapes Go.ChangeAt Go.RowKit Go.Deep

section
variable {H : Type} {enc : TypeId × Value → H} {W : World}

theorem bytes61 : Tryd.prog.bytesOf 61 = 16 := by kernel_rfl
set_option maxRecDepth 100000 in
theorem mem_weightsAll {e : TypeId} {d : DataW H} {n : Nat} : ∀ {l : List (DataW H)}, d ∈ l → n ∈ d.weights Tryd.prog e → n ∈ DataW.weightsAll Tryd.prog e l
  | [], h, _ => by cases h
  | x :: l, h, hn => by
    rw [DataW.weightsAll]
    rcases List.mem_cons.1 h with rfl | h
    · exact List.mem_append_left _ hn
    · exact List.mem_append_right _ (mem_weightsAll h hn)
/-- What is read is no greater than a machine's memory. -/
def Reached (t : TypeId) (d : DataW H) : Prop := ∀ n ∈ d.weights Tryd.prog t, n ≤ reachBytes
set_option maxRecDepth 100000 in
theorem dots_of_trod {fuel : Nat} {v : Value} {x : DataW H × List MemPlace}
    (hf : DataW.trod enc Tryd.prog W 0 (fun _ => true) true fuel 62 [v] = some x) : ∃ (a : Option Addr) (cap : Nat) (ds : List Vc.D), v = .slice a ds.length cap ∧ ds.length ≤ cap ∧ cap ≤ maxLen ∧ Sl W a ds ∧ (Reached 62 x.1 → ds.length ≤ 8796093022208) := by
  rcases open_slice_pairs Tryd.underlying62 Tryd.underlying61 cells61 rfl rfl cells3 cells3 hf with ⟨hcs, _⟩ | ⟨a, len, cap, m, n, V0, V1, D0, D1, P0, P1, hcs, _, hl, hm, hmm, hx0, hall⟩
  · simp at hcs
    exact ⟨none, 0, [], hcs, Nat.le_refl _, Nat.zero_le _, Sl.none _ _, fun _ => by simp⟩
  · simp at hcs
    simp only [if_true] at hmm
    have hbl : ((List.range len).map fun i => (numOf (V0 i), numOf (V1 i))).length = len := by simp
    refine ⟨some a, cap, (List.range len).map fun i => (numOf (V0 i), numOf (V1 i)), by rw [hbl]; exact hcs, by omega, hm, fun h0 => ?_, fun hR => ?_⟩
    rotate_left
    · rw [hbl]
      have h9 := hR ((((List.range len).map fun i => DataW.agg [D0 i, D1 i]).length + ((List.range (m - len)).map fun j => DataW.agg [D0 (len + j), D1 (len + j)]).length) * Tryd.prog.bytesOf 61) (by rw [hx0]; simp [DataW.weights, Tryd.underlying62])
      rw [bytes61] at h9
      simp at h9
      unfold reachBytes at h9
      omega
    rw [hbl] at h0
    obtain ⟨b, off, spot⟩ := a
    have hspot : spot = none := by simpa [Addr.add] using World.cell?_spot (hall 0 (by omega)).1
    subst hspot
    refine ⟨b, off, rfl, block_lt_of_cell (hall 0 (by omega)).1, fun j x hx => ?_⟩
    have hj := (List.getElem?_eq_some_iff.1 hx).1
    rw [hbl] at hj
    obtain ⟨c0, c1, t0, t1⟩ := hall j (by omega)
    obtain ⟨k0, e0, _, _⟩ := DataW.trod_int Tryd.underlying3 t0
    obtain ⟨k1, e1, _, _⟩ := DataW.trod_int Tryd.underlying3 t1
    simp only [List.cons.injEq, and_true] at e0 e1
    rw [add_plain] at c0 c1
    simp [hj] at hx
    subst hx
    rw [e0] at c0
    rw [e1] at c1
    rw [e0, e1]
    exact ⟨c0, c1⟩
theorem cells64 : Tryd.prog.cellsOf 64 = 5 := by kernel_rfl
theorem cells4 : Tryd.prog.cellsOf 4 = 1 := by kernel_rfl
theorem cells9 : Tryd.prog.cellsOf 9 = 1 := by kernel_rfl
set_option maxRecDepth 100000 in
theorem ver_of_trod {fuel : Nat} {cs : List Value} {x : DataW H × List MemPlace} (hf : DataW.trod enc Tryd.prog W 0 (fun _ => true) true fuel 64 cs = some x) :
    ∃ (v : Vc.V) (r : Option Addr) (c : Nat), cs = verL v r c ∧ v.past.length ≤ c ∧ v.past.length ≤ 9223372036854775807 ∧ Sl W r v.past ∧ (Reached 64 x.1 → v.past.length ≤ 8796093022208) ∧ v.data.size ≤ 9223372036854775807 := by
  obtain ⟨xs, n, _, hx0, hlen, hxl, hall⟩ := DataW.trod_struct Tryd.underlying64 hf
  rw [cells64] at hlen
  match cs, hlen with
  | [c0, c1, c2, c3, c4], _ =>
    match xs, hxl with
    | [y0, y1, y2, y3], _ =>
      have g0 := hall 0 _ rfl
      have g1 := hall 1 _ rfl
      have g2 := hall 2 _ rfl
      have g3 := hall 3 _ rfl
      simp [cells61, cells62, cells4, cells9] at g0 g1 g2 g3
      obtain ⟨zs, m, _, _, _, hzl, hz⟩ := DataW.trod_struct Tryd.underlying61 g0
      match zs, hzl with
      | [z0, z1], _ =>
        have i0 := hz 0 _ rfl
        have i1 := hz 1 _ rfl
        simp [cells3] at i0 i1
        obtain ⟨p, e0, _, _⟩ := DataW.trod_int Tryd.underlying3 i0
        obtain ⟨k, e1, _, _⟩ := DataW.trod_int Tryd.underlying3 i1
        obtain ⟨r, c, ds, e2, h2, h3, h4, h9⟩ := dots_of_trod g1
        obtain ⟨b, e3, _⟩ := DataW.trod_bool Tryd.underlying4 g2
        obtain ⟨s, e4, _, w4⟩ := DataW.trod_string Tryd.underlying9 g3
        simp only [List.cons.injEq, and_true] at e0 e1 e3 e4
        refine ⟨⟨(p, k), ds, b, s⟩, r, c, ?_, h2, ?_, h4, fun hR => h9 fun q hq => hR q ?_, by unfold maxLen at w4; simpa using w4⟩
        · rw [e0, e1, e2, e3, e4]; rfl
        · unfold maxLen at h3; show ds.length ≤ _; omega
        · rw [hx0]
          simp only [DataW.weights, Tryd.underlying64, List.map_cons, List.map_nil, DataW.weightsEach]
          exact List.mem_append_right _ (List.mem_append_left _ hq)
set_option maxRecDepth 100000 in
theorem open_ver {r0 : Reach} {base : Nat} {v0 : Value} {d0 : DataW H} {p0 : List MemPlace}
    (hv : Value.okWide Tryd.prog W r0 base 64 v0) (h : DataW.Trod enc Tryd.prog W 0 (fun _ => true) true 64 v0 d0 p0) :
    ∃ (v : Vc.V) (r : Option Addr) (c : Nat), v0 = .agg (verL v r c).toArray ∧ v.past.length ≤ c ∧ v.past.length ≤ 9223372036854775807 ∧ Sl W r v.past := by
  obtain ⟨cs, rfl, hsz⟩ := okWide_struct Tryd.underlying64 hv
  obtain ⟨fuel, hf⟩ := h
  obtain ⟨v, r, c, e, h1, h2, h3, _⟩ := ver_of_trod hf
  refine ⟨v, r, c, ?_, h1, h2, h3⟩
  rw [← e]
  simp [Value.cells]
set_option maxRecDepth 100000 in
theorem open_vers_l {r0 : Reach} {base : Nat} {v0 : Value} {d0 : DataW H} {p0 : List MemPlace}
    (hv : Value.okWide Tryd.prog W r0 base 22 v0) (h : DataW.Trod enc Tryd.prog W 0 (fun _ => true) true 22 v0 d0 p0) :
    ∃ (a : Option Addr) (cap : Nat) (vs : List Vc.V), v0 = .slice a vs.length cap ∧ vs.length ≤ cap ∧ Short vs ∧ SV W a vs ∧ (Reached 22 d0 → Light vs) ∧ ∀ v ∈ vs, v.data.size ≤ 9223372036854775807 := by
  obtain ⟨a0, len0, cap0, rfl⟩ := okWide_slice Tryd.underlying22 hv
  obtain ⟨fuel, hf⟩ := h
  rcases open_slice Tryd.underlying22 hf with ⟨hcs, _⟩ | ⟨a, len, cap, m, n, D, Pl, hcs, _, hl, _, hmm, hx0, hall⟩
  · simp [Value.cells] at hcs
    obtain ⟨rfl, rfl, rfl⟩ := hcs
    exact ⟨none, 0, [], rfl, Nat.le_refl _, fun _ h => (by cases h), SV.none _ _, fun _ _ h => (by cases h), fun _ h => (by cases h)⟩
  · simp [Value.cells] at hcs
    obtain ⟨rfl, rfl, rfl⟩ := hcs
    simp only [if_true] at hmm
    obtain ⟨b, off, spot⟩ := a
    have each : ∀ i, i < len0 → ∃ q : Vc.V × Option Addr × Nat, (∀ j u, (verL q.1 q.2.1 q.2.2)[j]? = some u → W.cell? ((⟨b, off, spot⟩ : Addr).add (i * 5 + j)) = some u) ∧ q.1.past.length ≤ q.2.2 ∧ q.1.past.length ≤ 9223372036854775807 ∧ Sl W q.2.1 q.1.past ∧ (Reached 22 d0 → q.1.past.length ≤ 8796093022208) ∧ q.1.data.size ≤ 9223372036854775807 := by
      intro i hi
      obtain ⟨cs', h1, h2⟩ := hall i (by omega)
      rw [cells64] at h1
      obtain ⟨_, hlen, hcell⟩ := World.cells?_some h1
      obtain ⟨v, r, c, e, g1, g2, g3, g9, g10⟩ := ver_of_trod h2
      refine ⟨(v, r, c), fun j u hu => ?_, g1, g2, g3, fun hR => g9 fun z hz => hR z ?_, g10⟩
      rotate_left
      · injection hx0 with hd0 _
        rw [hd0]
        simp only [DataW.weights, Tryd.underlying22]
        exact List.mem_cons_of_mem _ (List.mem_append_left _ (mem_weightsAll (List.mem_map.2 ⟨i, List.mem_range.2 hi, rfl⟩) hz))
      have hj : j < 5 := (List.getElem?_eq_some_iff.1 hu).1
      have hc := hcell j (by omega)
      rw [add_add] at hc
      rw [hc, e]
      exact hu
    haveI : Inhabited Vc.V := ⟨zeroV⟩
    obtain ⟨q, hq⟩ := choose_lt each
    have hbl : ((List.range len0).map fun i => (q i).1).length = len0 := by simp
    refine ⟨some ⟨b, off, spot⟩, cap0, (List.range len0).map fun i => (q i).1, by rw [hbl], by omega, fun v hv' => ?_, fun h0 => ?_, fun hR v hv' => ?_, fun v hv' => ?_⟩
    · obtain ⟨i, hi, rfl⟩ := List.mem_map.1 hv'
      exact (hq i (List.mem_range.1 hi)).2.2.1
    · rw [hbl] at h0
      have hspot : spot = none := by simpa [Addr.add] using World.cell?_spot ((hq 0 h0).1 0 _ rfl)
      subst hspot
      have hb : b < W.heap.size := by have := block_lt_of_cell ((hq 0 h0).1 0 _ rfl); rw [add_plain] at this; exact this
      refine ⟨b, off, rfl, hb, fun j v hj => ?_⟩
      have hjl := (List.getElem?_eq_some_iff.1 hj).1
      rw [hbl] at hjl
      simp [hjl] at hj
      subst hj
      obtain ⟨hc, h1, _, h3, _⟩ := hq j hjl
      have cc : ∀ i u, (verL (q j).1 (q j).2.1 (q j).2.2)[i]? = some u → W.cell? ⟨b, off + j * 5 + i, none⟩ = some u := fun i u hu => by
        have := hc i u hu
        rw [add_plain, ← Nat.add_assoc] at this
        exact this
      exact ⟨(q j).2.1, (q j).2.2, cc 0 _ rfl, cc 1 _ rfl, cc 2 _ rfl, cc 3 _ rfl, cc 4 _ rfl, h1, h3⟩
    · obtain ⟨i, hi, rfl⟩ := List.mem_map.1 hv'
      exact (hq i (List.mem_range.1 hi)).2.2.2.2.1 hR
    · obtain ⟨i, hi, rfl⟩ := List.mem_map.1 hv'
      exact (hq i (List.mem_range.1 hi)).2.2.2.2.2
set_option maxRecDepth 100000 in
theorem open_vers {r0 : Reach} {base : Nat} {v0 : Value} {d0 : DataW H} {p0 : List MemPlace}
    (hv : Value.okWide Tryd.prog W r0 base 22 v0) (h : DataW.Trod enc Tryd.prog W 0 (fun _ => true) true 22 v0 d0 p0) :
    ∃ (a : Option Addr) (cap : Nat) (vs : List Vc.V), v0 = .slice a vs.length cap ∧ vs.length ≤ cap ∧ Short vs ∧ SV W a vs := by
  obtain ⟨a, cap, vs, h1, h2, h3, h4, _⟩ := open_vers_l hv h
  exact ⟨a, cap, vs, h1, h2, h3, h4⟩
set_option maxRecDepth 100000 in
theorem open_versd {r0 : Reach} {base : Nat} {v0 : Value} {d0 : DataW H} {p0 : List MemPlace}
    (hv : Value.okWide Tryd.prog W r0 base 22 v0) (h : DataW.Trod enc Tryd.prog W 0 (fun _ => true) true 22 v0 d0 p0) :
    ∃ (a : Option Addr) (cap : Nat) (vs : List Vc.V), v0 = .slice a vs.length cap ∧ vs.length ≤ cap ∧ Short vs ∧ (∀ v ∈ vs, v.data.size ≤ 9223372036854775807) ∧ SV W a vs := by
  obtain ⟨a, cap, vs, h1, h2, h3, h4, _, h5⟩ := open_vers_l hv h
  exact ⟨a, cap, vs, h1, h2, h3, h5, h4⟩
set_option maxRecDepth 100000 in
theorem open_strb {r0 : Reach} {base : Nat} {v0 : Value} {d0 : DataW H} {p0 : List MemPlace}
    (hv : Value.okWide Tryd.prog W r0 base 9 v0) (h : DataW.Trod enc Tryd.prog W 0 (fun _ => true) true 9 v0 d0 p0) : ∃ s : ByteArray, v0 = .string s ∧ s.size ≤ 9223372036854775807 := by
  obtain ⟨s, h1, _, _, h2⟩ := Go.ChangeMaps.open_string Tryd.underlying9 hv h
  unfold maxLen at h2
  exact ⟨s, h1, by simpa using h2⟩
set_option maxRecDepth 100000 in
theorem open_str0 {r0 : Reach} {base : Nat} {v0 : Value} {d0 : DataW H} {p0 : List MemPlace}
    (hv : Value.okWide Tryd.prog W r0 base 9 v0) (h : DataW.Trod enc Tryd.prog W 0 (fun _ => true) true 9 v0 d0 p0) : ∃ s : ByteArray, v0 = .string s := by
  obtain ⟨s, h1, _⟩ := Go.ChangeMaps.open_string Tryd.underlying9 hv h
  exact ⟨s, h1⟩
end
end Go.Proofs.YthchcjjpplcfnaaDoor
