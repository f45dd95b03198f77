/-
  A node that comes in, opened.
-/
import Derived.Test.YthchcjjpplcfnaaDoorOpenV
import Derived.Test.YthchcjjpplcfnaaDoorK1
namespace Go.Proofs.YthchcjjpplcfnaaDoor
open Go.ChangeShapes Go.WideShapes Go.ChangeAt Go.RowKit Go.Deep

section
variable {H : Type} {enc : TypeId × Value → H} {W : World}

set_option maxRecDepth 100000 in
theorem vers_of_trod {fuel : Nat} {v : Value} {x : DataW H × List MemPlace}
    (hf : DataW.trod enc Tryd.prog W 0 (fun _ => true) true fuel 22 [v] = some x) :
    ∃ (a : Option Addr) (cap : Nat) (vs : List Vc.V), v = .slice a vs.length cap ∧ vs.length ≤ cap ∧ Short vs ∧ SV W a vs ∧ (Reached 22 x.1 → Light vs) ∧ ∀ v ∈ vs, v.data.size ≤ 9223372036854775807 := by
  rcases open_slice Tryd.underlying22 hf with ⟨hcs, _⟩ | ⟨a, len, cap, m, n, D, Pl, hcs, _, hl, _, hmm, hx0, hall⟩
  · simp at hcs
    exact ⟨none, 0, [], hcs, Nat.le_refl _, fun _ h => (by cases h), SV.none _ _, fun _ _ h => (by cases h), fun _ h => (by cases h)⟩
  · simp at hcs
    subst hcs
    simp only [if_true] at hmm
    obtain ⟨b, off, spot⟩ := a
    have each : ∀ i, i < len → ∃ q : Vc.V × Option Addr × Nat, (∀ j u, (verL q.1 q.2.1 q.2.2)[j]? = some u → W.cell? ((⟨b, off, spot⟩ : Addr).add (i * 5 + j)) = some u) ∧ q.1.past.length ≤ q.2.2 ∧ q.1.past.length ≤ 9223372036854775807 ∧ Sl W q.2.1 q.1.past ∧ (Reached 22 x.1 → q.1.past.length ≤ 8796093022208) ∧ q.1.data.size ≤ 9223372036854775807 := by
      intro i hi
      obtain ⟨cs', h1, h2⟩ := hall i (by omega)
      rw [cells64] at h1
      obtain ⟨_, hlen, hcell⟩ := World.cells?_some h1
      obtain ⟨v, r, c, e, g1, g2, g3, g9, g10⟩ := ver_of_trod h2
      refine ⟨(v, r, c), fun j u hu => ?_, g1, g2, g3, fun hR => g9 fun z hz => hR z ?_, g10⟩
      rotate_left
      · rw [hx0]
        simp only [DataW.weights, Tryd.underlying22]
        exact List.mem_cons_of_mem _ (List.mem_append_left _ (mem_weightsAll (List.mem_map.2 ⟨i, List.mem_range.2 hi, rfl⟩) hz))
      have hj : j < 5 := (List.getElem?_eq_some_iff.1 hu).1
      have hc := hcell j (by omega)
      rw [add_add] at hc
      rw [hc, e]
      exact hu
    haveI : Inhabited Vc.V := ⟨zeroV⟩
    obtain ⟨q, hq⟩ := choose_lt each
    have hbl : ((List.range len).map fun i => (q i).1).length = len := by simp
    refine ⟨some ⟨b, off, spot⟩, cap, (List.range len).map fun i => (q i).1, by rw [hbl], by omega, fun v hv' => ?_, fun h0 => ?_, fun hR v hv' => ?_, fun v hv' => ?_⟩
    · obtain ⟨i, hi, rfl⟩ := List.mem_map.1 hv'
      exact (hq i (List.mem_range.1 hi)).2.2.1
    · rw [hbl] at h0
      have hspot : spot = none := by simpa [Addr.add] using World.cell?_spot ((hq 0 h0).1 0 _ rfl)
      subst hspot
      have hb : b < W.heap.size := by have := block_lt_of_cell ((hq 0 h0).1 0 _ rfl); rw [add_plain] at this; exact this
      refine ⟨b, off, rfl, hb, fun j v hj => ?_⟩
      have hjl := (List.getElem?_eq_some_iff.1 hj).1
      rw [hbl] at hjl
      simp [hjl] at hj
      subst hj
      obtain ⟨hc, h1, _, h3, _⟩ := hq j hjl
      have cc : ∀ i u, (verL (q j).1 (q j).2.1 (q j).2.2)[i]? = some u → W.cell? ⟨b, off + j * 5 + i, none⟩ = some u := fun i u hu => by
        have := hc i u hu
        rw [add_plain, ← Nat.add_assoc] at this
        exact this
      exact ⟨(q j).2.1, (q j).2.2, cc 0 _ rfl, cc 1 _ rfl, cc 2 _ rfl, cc 3 _ rfl, cc 4 _ rfl, h1, h3⟩
    · obtain ⟨i, hi, rfl⟩ := List.mem_map.1 hv'
      exact (hq i (List.mem_range.1 hi)).2.2.2.2.1 hR
    · obtain ⟨i, hi, rfl⟩ := List.mem_map.1 hv'
      exact (hq i (List.mem_range.1 hi)).2.2.2.2.2

theorem byte_of {k : Int} (h : Lit.wf (.int .u8 k) = true) : ∃ b : UInt8, (Value.int .u8 k) = byteVal b := by
  simp only [Lit.wf, Bool.and_eq_true, decide_eq_true_eq] at h
  have h1 : IntKind.u8.min = 0 := rfl
  have h2 : IntKind.u8.max = 255 := rfl
  refine ⟨UInt8.ofNat k.toNat, ?_⟩
  rw [byteVal, Cnt.u8_lt (by omega)]
  congr 1
  omega
theorem bytes_of : ∀ (cs : List Value), (∀ v ∈ cs, ∃ b : UInt8, v = byteVal b) → ∃ d : List UInt8, cs = d.map byteVal
  | [], _ => ⟨[], rfl⟩
  | v :: cs, h => by
    obtain ⟨b, rfl⟩ := h v (by simp)
    obtain ⟨d, rfl⟩ := bytes_of cs (fun x hx => h x (by simp [hx]))
    exact ⟨b :: d, rfl⟩
theorem cellsB : Tryd.prog.cellsOf 5 = 1 := by kernel_rfl
theorem cellsDg : Tryd.prog.cellsOf 33 = 32 := by kernel_rfl
theorem cellsK : Tryd.prog.cellsOf 37 = 33 := by kernel_rfl
theorem cellsVs : Tryd.prog.cellsOf 22 = 1 := by kernel_rfl
theorem cellsKs : Tryd.prog.cellsOf 23 = 1 := by kernel_rfl
theorem cellsNd : Tryd.prog.cellsOf 25 = 2 := by kernel_rfl
theorem bytes_of_trod {fuel : Nat} {cs : List Value} {x : DataW H × List MemPlace} (hf : DataW.trod enc Tryd.prog W 0 (fun _ => true) true fuel 33 cs = some x) : ∃ d : List UInt8, d.length = 32 ∧ cs = d.map byteVal := by
  obtain ⟨xs, m, _, _, hcs, hxl, hel⟩ := DataW.trod_array Tryd.underlying33 hf
  rw [cellsDg] at hcs
  obtain ⟨d, hd⟩ : ∃ d : List UInt8, cs = d.map byteVal := by
    refine bytes_of cs fun v hv => ?_
    obtain ⟨i, hi, rfl⟩ := List.mem_iff_getElem.1 hv
    have h1 := hel i (by omega)
    rw [cellsB, Nat.mul_one] at h1
    have h2 : xs[i]? = some xs[i] := List.getElem?_eq_getElem (by omega)
    rw [h2] at h1
    obtain ⟨k, e1, e2, hw⟩ := DataW.trod_int Tryd.underlying5 h1
    have e3 : cs[i] = .int .u8 k := by
      have h3 := congrArg (·[0]?) e1
      simp only [List.getElem?_take, List.getElem?_drop] at h3
      have h4 : cs[i]? = some (.int .u8 k) := by simpa using h3
      exact (List.getElem?_eq_some_iff.1 h4).2
    rw [e3]
    exact byte_of hw
  exact ⟨d, by rw [hd, List.length_map] at hcs; exact hcs, hd⟩
/-- A kid as it may come in. -/
def Kok (k : Kd) : Prop := k.1.size ≤ 9223372036854775807 ∧ k.2.length = 32
set_option maxRecDepth 100000 in
theorem kid_of_trod {fuel : Nat} {cs : List Value} {x : DataW H × List MemPlace} (hf : DataW.trod enc Tryd.prog W 0 (fun _ => true) true fuel 37 cs = some x) : ∃ y : Kd, cs = kL y ∧ Kok y := by
  obtain ⟨xs, n, _, _, hlen, hxl, hall⟩ := DataW.trod_struct Tryd.underlying37 hf
  rw [cellsK] at hlen
  match cs, hlen with
  | c0 :: rest, hlen =>
    match xs, hxl with
    | [y0, y1], _ =>
      have g0 := hall 0 _ rfl
      have g1 := hall 1 _ rfl
      simp [cells9] at g0
      obtain ⟨s, e0, _, w0⟩ := DataW.trod_string Tryd.underlying9 g0
      have hr : rest.length = 32 := by simpa using hlen
      have g1' : DataW.trod enc Tryd.prog W 0 (fun _ => true) true n 33 (List.take (Tryd.prog.cellsOf 33) rest) = some y1 := g1
      rw [cellsDg, List.take_of_length_le (by omega)] at g1'
      obtain ⟨d, hd, e1⟩ := bytes_of_trod g1'
      simp only [List.cons.injEq, and_true] at e0
      unfold maxLen at w0
      exact ⟨(s, d), by rw [e0, e1]; rfl, by simpa using w0, hd⟩
set_option maxRecDepth 100000 in
theorem kids_of_trod {fuel : Nat} {v : Value} {x : DataW H × List MemPlace} (hf : DataW.trod enc Tryd.prog W 0 (fun _ => true) true fuel 23 [v] = some x) :
    ∃ (a : Option Addr) (cap : Nat) (l : List Kd), v = .slice a l.length cap ∧ l.length ≤ cap ∧ l.length ≤ 9223372036854775807 ∧ (∀ k ∈ l, Kok k) ∧ SK W a l := by
  rcases open_slice Tryd.underlying23 hf with ⟨hcs, _⟩ | ⟨a, len, cap, m, n, D, Pl, hcs, _, hl, hm, hmm, _, hall⟩
  · simp at hcs
    exact ⟨none, 0, [], hcs, Nat.le_refl _, by simp, fun _ h => by simp at h, SK.none _ _⟩
  · simp at hcs
    subst hcs
    simp only [if_true] at hmm
    obtain ⟨b, off, spot⟩ := a
    have each : ∀ i, i < len → ∃ z : Kd, (∀ j u, (kL z)[j]? = some u → W.cell? ((⟨b, off, spot⟩ : Addr).add (i * 33 + j)) = some u) ∧ Kok z := by
      intro i hi
      obtain ⟨cs', h1, h2⟩ := hall i (by omega)
      rw [cellsK] at h1
      obtain ⟨_, hlen, hcell⟩ := World.cells?_some h1
      obtain ⟨z, e, hz⟩ := kid_of_trod h2
      refine ⟨z, fun j u hu => ?_, hz⟩
      have hj : j < 33 := by have := (List.getElem?_eq_some_iff.1 hu).1; rw [kL_len hz.2] at this; exact this
      have hc := hcell j (by omega)
      rw [add_add] at hc
      rw [hc, e]
      exact hu
    haveI : Inhabited Kd := ⟨zeroK⟩
    obtain ⟨q, hq⟩ := choose_lt each
    have hbl : ((List.range len).map q).length = len := by simp
    refine ⟨some ⟨b, off, spot⟩, cap, (List.range len).map q, by rw [hbl], by rw [hbl]; omega, by rw [hbl]; unfold maxLen at hm; omega, fun x hx => ?_, fun h0 => ?_⟩
    · obtain ⟨i, hi, rfl⟩ := List.mem_map.1 hx
      exact (hq i (List.mem_range.1 hi)).2
    · rw [hbl] at h0
      have hspot : spot = none := by simpa [Addr.add] using World.cell?_spot ((hq 0 h0).1 0 _ rfl)
      subst hspot
      have hb : b < W.heap.size := by have := block_lt_of_cell ((hq 0 h0).1 0 _ rfl); rw [add_plain] at this; exact this
      refine ⟨b, off, rfl, hb, fun j v hj i u hu => ?_⟩
      have hjl := (List.getElem?_eq_some_iff.1 hj).1
      rw [hbl] at hjl
      simp [hjl] at hj
      subst hj
      have := (hq j hjl).1 i u hu
      rw [add_plain, ← Nat.add_assoc] at this
      exact this
/-- A node as it may come in. -/
structure Ncome (n : Nd) : Prop where
  short : Short n.vs
  kids : n.ks.length ≤ 9223372036854775807
  kok : ∀ k ∈ n.ks, Kok k
  data : ∀ v ∈ n.vs, v.data.size ≤ 9223372036854775807
set_option maxRecDepth 100000 in
theorem node_of_trod {fuel : Nat} {cs : List Value} {x : DataW H × List MemPlace} (hf : DataW.trod enc Tryd.prog W 0 (fun _ => true) true fuel 25 cs = some x) :
    ∃ (n : Nd) (a : Option Addr) (c : Nat) (b : Option Addr) (d : Nat), cs = ndL n a c b d ∧ NdAt W n a c b d ∧ Ncome n ∧ (Reached 25 x.1 → Light n.vs) := by
  obtain ⟨xs, n, _, hx0, hlen, hxl, hall⟩ := DataW.trod_struct Tryd.underlying25 hf
  rw [cellsNd] at hlen
  match cs, hlen with
  | [c0, c1], _ =>
    match xs, hxl with
    | [y0, y1], _ =>
      have g0 := hall 0 _ rfl
      have g1 := hall 1 _ rfl
      simp [cellsVs, cellsKs] at g0 g1
      obtain ⟨a, c, vs, e0, h1, h2, h3, h4, h5⟩ := vers_of_trod g0
      obtain ⟨b, d, ks, e1, k1, k2, k3, k4⟩ := kids_of_trod g1
      refine ⟨⟨vs, ks⟩, a, c, b, d, by rw [e0, e1]; rfl, ⟨h1, k1, h3, k4⟩, ⟨h2, k2, k3, h5⟩, fun hR => h4 fun q hq => hR q ?_⟩
      rw [hx0]
      simp only [DataW.weights, Tryd.underlying25, List.map_cons, List.map_nil, DataW.weightsEach]
      exact List.mem_append_left _ hq
set_option maxRecDepth 100000 in
theorem open_node {r0 : Reach} {base : Nat} {v0 : Value} {d0 : DataW H} {p0 : List MemPlace}
    (hv : Value.okWide Tryd.prog W r0 base 25 v0) (h : DataW.Trod enc Tryd.prog W 0 (fun _ => true) true 25 v0 d0 p0) :
    ∃ (n : Nd) (a : Option Addr) (c : Nat) (b : Option Addr) (d : Nat), v0 = .agg (ndL n a c b d).toArray ∧ Ncome n ∧ NdAt W n a c b d ∧ (Reached 25 d0 → Light n.vs) := by
  unfold Value.okWide at hv
  rw [Tryd.underlying25] at hv
  obtain ⟨cs, rfl, hcs, _⟩ := hv
  obtain ⟨fuel, hf⟩ := h
  obtain ⟨n, a, c, b, d, e, h1, h2, h3⟩ := node_of_trod hf
  refine ⟨n, a, c, b, d, ?_, h2, h1, h3⟩
  simp only [Value.cells] at e
  rw [← e]
end
end Go.Proofs.YthchcjjpplcfnaaDoor
