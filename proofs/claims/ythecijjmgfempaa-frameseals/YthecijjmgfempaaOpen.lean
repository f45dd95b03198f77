/-
  What comes in, opened: a list of dots, a dot, a number.
-/
import Derived.Test.YthecijjmgfempaaCMath
import Derived.ProofKit
import Derived.OpenShut
import Derived.Deep.SlicePairs
import Derived.Lib.SmallJoins
import Derived.Test.YthecijjmgfempaaSame
import Derived.ChangeMaps5
import Derived.Test.YthecijjmgfempaaM1
namespace Go.Proofs.Ythecijjmgfempaa
open Go.ChangeShapes Go.WideShapes Go.ChangeAt Go.RowKit Go.Deep

theorem cells24 : Try.prog.cellsOf 24 = 1 := by kernel_rfl
theorem cells81 : Try.prog.cellsOf 86 = 2 := by kernel_rfl
theorem cells3 : Try.prog.cellsOf 3 = 1 := by kernel_rfl

def numOf : Value → Int
  | .int _ n => n
  | _ => 0

set_option maxRecDepth 100000 in
theorem open_dots {H : Type} {enc : TypeId × Value → H} {W : World} {r : Reach} {base : Nat} {v0 : Value} {d0 : DataW H} {p0 : List MemPlace}
    (hv : Value.okWide Try.prog W r base 24 v0) (h : DataW.Trod enc Try.prog W 0 (fun _ => true) true 24 v0 d0 p0) :
    ∃ (a : Option Addr) (cap : Nat) (ds : List Vc.D), v0 = .slice a ds.length cap ∧ ds.length ≤ cap ∧ Sl W a ds := by
  obtain ⟨a0, len0, cap0, rfl⟩ := okWide_slice Try.underlying24 hv
  obtain ⟨fuel, hf⟩ := h
  rcases open_slice_pairs Try.underlying24 Try.underlying86 cells81 rfl rfl cells3 cells3 hf with ⟨hcs, hx⟩ | ⟨a, len, cap, m, n, V0, V1, D0, D1, P0, P1, hcs, _, hl, hm, hmm, hx, hall⟩
  · simp [Value.cells] at hcs
    obtain ⟨rfl, rfl, rfl⟩ := hcs
    exact ⟨none, 0, [], rfl, Nat.le_refl _, Sl.none _ _⟩
  · simp [Value.cells] at hcs
    obtain ⟨rfl, rfl, rfl⟩ := hcs
    simp only [if_true] at hmm
    have hbl : ((List.range len0).map fun i => (numOf (V0 i), numOf (V1 i))).length = len0 := by simp
    refine ⟨some a, cap0, (List.range len0).map fun i => (numOf (V0 i), numOf (V1 i)), by rw [hbl], by omega, fun h0 => ?_⟩
    rw [hbl] at h0
    obtain ⟨b, off, spot⟩ := a
    have hspot : spot = none := by simpa [Addr.add] using World.cell?_spot (hall 0 (by omega)).1
    subst hspot
    refine ⟨b, off, rfl, block_lt_of_cell (hall 0 (by omega)).1, fun j x hx => ?_⟩
    have hj := (List.getElem?_eq_some_iff.1 hx).1
    rw [hbl] at hj
    obtain ⟨c0, c1, t0, t1⟩ := hall j (by omega)
    obtain ⟨k0, e0, _, _⟩ := DataW.trod_int Try.underlying3 t0
    obtain ⟨k1, e1, _, _⟩ := DataW.trod_int Try.underlying3 t1
    simp only [List.cons.injEq, and_true] at e0 e1
    rw [add_plain] at c0 c1
    simp [hj] at hx
    subst hx
    rw [e0] at c0
    rw [e1] at c1
    rw [e0, e1]
    exact ⟨c0, c1⟩

set_option maxRecDepth 100000 in
theorem open_dot {H : Type} {enc : TypeId × Value → H} {W : World} {r : Reach} {base : Nat} {v0 : Value} {d0 : DataW H} {p0 : List MemPlace}
    (hv : Value.okWide Try.prog W r base 86 v0) (h : DataW.Trod enc Try.prog W 0 (fun _ => true) true 86 v0 d0 p0) :
    ∃ (p c : Int), v0 = .agg #[.int .i64 p, .int .i64 c] := by
  obtain ⟨v0, v1, y0, y1, n, rfl, _, _, t0, t1⟩ := Go.Joins.open_agg2 Try.underlying86 (by kernel_rfl) cells81 hv h
  obtain ⟨k0, e0, _, _⟩ := DataW.trod_int Try.underlying3 t0
  obtain ⟨k1, e1, _, _⟩ := DataW.trod_int Try.underlying3 t1
  simp only [List.cons.injEq, and_true] at e0 e1
  exact ⟨k0, k1, by rw [e0, e1]⟩
set_option maxRecDepth 100000 in
theorem open_int0 {H : Type} {enc : TypeId × Value → H} {W : World} {r : Reach} {base : Nat} {v0 : Value} {d0 : DataW H} {p0 : List MemPlace}
    (hv : Value.okWide Try.prog W r base 3 v0) (h : DataW.Trod enc Try.prog W 0 (fun _ => true) true 3 v0 d0 p0) :
    ∃ (n : Int), v0 = .int .i64 n := by
  obtain ⟨n, h1, _⟩ := open_int Try.underlying3 hv h
  exact ⟨n, h1⟩
end Go.Proofs.Ythecijjmgfempaa

namespace Go.Proofs.Ythecijjmgfempaa
open Go.ChangeShapes Go.WideShapes Go.ChangeAt Go.RowKit Go.Deep

section
variable {H : Type} {enc : TypeId × Value → H} {W : World}

theorem dots_of_trod {fuel : Nat} {v : Value} {x : DataW H × List MemPlace}
    (hf : DataW.trod enc Try.prog W 0 (fun _ => true) true fuel 24 [v] = some x) : ∃ (a : Option Addr) (cap : Nat) (ds : List Vc.D), v = .slice a ds.length cap ∧ ds.length ≤ cap ∧ Sl W a ds := by
  rcases open_slice_pairs Try.underlying24 Try.underlying86 cells81 rfl rfl cells3 cells3 hf with ⟨hcs, _⟩ | ⟨a, len, cap, m, n, V0, V1, D0, D1, P0, P1, hcs, _, hl, hm, hmm, _, hall⟩
  · simp at hcs
    exact ⟨none, 0, [], hcs, Nat.le_refl _, Sl.none _ _⟩
  · simp at hcs
    simp only [if_true] at hmm
    have hbl : ((List.range len).map fun i => (numOf (V0 i), numOf (V1 i))).length = len := by simp
    refine ⟨some a, cap, (List.range len).map fun i => (numOf (V0 i), numOf (V1 i)), by rw [hbl]; exact hcs, by omega, fun h0 => ?_⟩
    rw [hbl] at h0
    obtain ⟨b, off, spot⟩ := a
    have hspot : spot = none := by simpa [Addr.add] using World.cell?_spot (hall 0 (by omega)).1
    subst hspot
    refine ⟨b, off, rfl, block_lt_of_cell (hall 0 (by omega)).1, fun j x hx => ?_⟩
    have hj := (List.getElem?_eq_some_iff.1 hx).1
    rw [hbl] at hj
    obtain ⟨c0, c1, t0, t1⟩ := hall j (by omega)
    obtain ⟨k0, e0, _, _⟩ := DataW.trod_int Try.underlying3 t0
    obtain ⟨k1, e1, _, _⟩ := DataW.trod_int Try.underlying3 t1
    simp only [List.cons.injEq, and_true] at e0 e1
    rw [add_plain] at c0 c1
    simp [hj] at hx
    subst hx
    rw [e0] at c0
    rw [e1] at c1
    rw [e0, e1]
    exact ⟨c0, c1⟩
theorem cells24' : Try.prog.cellsOf 24 = 1 := by kernel_rfl
theorem cells25 : Try.prog.cellsOf 25 = 1 := by kernel_rfl
theorem rows_of_trod {fuel : Nat} {v : Value} {x : DataW H × List MemPlace}
    (hf : DataW.trod enc Try.prog W 0 (fun _ => true) true fuel 25 [v] = some x) : ∃ (a : Option Addr) (cap : Nat) (rows : List (List Vc.D)), v = .slice a rows.length cap ∧ rows.length ≤ cap ∧ rows.length ≤ 9223372036854775807 ∧ RL W a rows := by
  rcases open_slice Try.underlying25 hf with ⟨hcs, _⟩ | ⟨a, len, cap, m, n, D, Pl, hcs, _, hl, hm, hmm, _, hall⟩
  · simp at hcs
    exact ⟨none, 0, [], hcs, Nat.le_refl _, Nat.zero_le _, RL.none _ _⟩
  · simp at hcs
    simp only [if_true] at hmm
    obtain ⟨b, off, spot⟩ := a
    have each : ∀ i, i < len → ∃ q : List Vc.D × Option Addr × Nat, W.cell? ((⟨b, off, spot⟩ : Addr).add i) = some (.slice q.2.1 q.1.length q.2.2) ∧ q.1.length ≤ q.2.2 ∧ Sl W q.2.1 q.1 := by
      intro i hi
      obtain ⟨cs', h1, h2⟩ := hall i (by omega)
      rw [cells24'] at h1
      obtain ⟨_, hlen, hcell⟩ := World.cells?_some h1
      match cs', hlen with
      | [c0], _ =>
        obtain ⟨r, c, ds, e, g1, g2⟩ := dots_of_trod h2
        have hc := hcell 0 (by omega)
        rw [add_add] at hc
        refine ⟨(ds, r, c), ?_, g1, g2⟩
        rw [show i = i * 1 + 0 by omega, hc, e]
        rfl
    obtain ⟨q, hq⟩ := choose_lt each
    have hbl : ((List.range len).map fun i => (q i).1).length = len := by simp
    refine ⟨some ⟨b, off, spot⟩, cap, (List.range len).map fun i => (q i).1, by rw [hbl]; exact hcs, by omega, by rw [hbl]; unfold maxLen at hm; omega, fun h0 => ?_⟩
    rw [hbl] at h0
    have hspot : spot = none := by simpa [Addr.add] using World.cell?_spot (hq 0 h0).1
    subst hspot
    have hb : b < W.heap.size := by have := block_lt_of_cell (hq 0 h0).1; rw [add_plain] at this; exact this
    refine ⟨b, off, rfl, hb, fun j v hj => ?_⟩
    have hjl := (List.getElem?_eq_some_iff.1 hj).1
    rw [hbl] at hjl
    simp [hjl] at hj
    subst hj
    obtain ⟨hc, h1, h3⟩ := hq j hjl
    rw [add_plain] at hc
    exact ⟨(q j).2.1, (q j).2.2, hc, h1, h3⟩
end
end Go.Proofs.Ythecijjmgfempaa

namespace Go.Proofs.Ythecijjmgfempaa
open Go.ChangeShapes Go.WideShapes Go.ChangeAt Go.RowKit Go.Deep

section
variable {H : Type} {enc : TypeId × Value → H} {W : World}

theorem cells9 : Try.prog.cellsOf 9 = 1 := by kernel_rfl
theorem cells5 : Try.prog.cellsOf 5 = 1 := by kernel_rfl
theorem cellsDg : Try.prog.cellsOf 23 = 32 := by kernel_rfl
theorem byte_of {k : Int} (h : Lit.wf (.int .u8 k) = true) : ∃ b : UInt8, (Value.int .u8 k) = byteVal b := by
  simp only [Lit.wf, Bool.and_eq_true, decide_eq_true_eq] at h
  have h1 : IntKind.u8.min = 0 := rfl
  have h2 : IntKind.u8.max = 255 := rfl
  refine ⟨UInt8.ofNat k.toNat, ?_⟩
  rw [byteVal, Cnt.u8_lt (by omega)]
  congr 1
  omega
theorem bytes_of : ∀ (cs : List Value), (∀ v ∈ cs, ∃ b : UInt8, v = byteVal b) → ∃ d : List UInt8, cs = d.map byteVal
  | [], _ => ⟨[], rfl⟩
  | v :: cs, h => by
    obtain ⟨b, rfl⟩ := h v (by simp)
    obtain ⟨d, rfl⟩ := bytes_of cs (fun x hx => h x (by simp [hx]))
    exact ⟨b :: d, rfl⟩
set_option maxRecDepth 100000 in
theorem bytes_of_trod {fuel : Nat} {cs : List Value} {x : DataW H × List MemPlace} (hf : DataW.trod enc Try.prog W 0 (fun _ => true) true fuel 23 cs = some x) : ∃ d : List UInt8, d.length = 32 ∧ cs = d.map byteVal := by
  obtain ⟨xs, m, _, _, hcs, hxl, hel⟩ := DataW.trod_array Try.underlying23 hf
  rw [cellsDg] at hcs
  obtain ⟨d, hd⟩ : ∃ d : List UInt8, cs = d.map byteVal := by
    refine bytes_of cs fun v hv => ?_
    obtain ⟨i, hi, rfl⟩ := List.mem_iff_getElem.1 hv
    have h1 := hel i (by omega)
    rw [cells5, Nat.mul_one] at h1
    have h2 : xs[i]? = some xs[i] := List.getElem?_eq_getElem (by omega)
    rw [h2] at h1
    obtain ⟨k, e1, e2, hw⟩ := DataW.trod_int Try.underlying5 h1
    have e3 : cs[i] = .int .u8 k := by
      have h3 := congrArg (·[0]?) e1
      simp only [List.getElem?_take, List.getElem?_drop] at h3
      have h4 : cs[i]? = some (.int .u8 k) := by simpa using h3
      exact (List.getElem?_eq_some_iff.1 h4).2
    rw [e3]
    exact byte_of hw
  exact ⟨d, by rw [hd, List.length_map] at hcs; exact hcs, hd⟩
set_option maxRecDepth 100000 in
theorem open_strb {r0 : Reach} {base : Nat} {v0 : Value} {d0 : DataW H} {p0 : List MemPlace}
    (hv : Value.okWide Try.prog W r0 base 9 v0) (h : DataW.Trod enc Try.prog W 0 (fun _ => true) true 9 v0 d0 p0) : ∃ s : ByteArray, v0 = .string s ∧ s.size ≤ 9223372036854775807 := by
  obtain ⟨s, h1, _, _, h2⟩ := Go.ChangeMaps.open_string Try.underlying9 hv h
  unfold maxLen at h2
  exact ⟨s, h1, by simpa using h2⟩
end
end Go.Proofs.Ythecijjmgfempaa

namespace Go.Proofs.Ythecijjmgfempaa
open Go.ChangeShapes Go.WideShapes Go.ChangeAt Go.RowKit Go.Deep

section
variable {H : Type} {enc : TypeId × Value → H} {W : World}
theorem cells27 : Try.prog.cellsOf 27 = 41 := by kernel_rfl
theorem cells4 : Try.prog.cellsOf 4 = 1 := by kernel_rfl
theorem rest_of {rest : List Value} (h : rest.length = 35) : ∃ (R : List Value) (x y z : Value), R.length = 32 ∧ rest = R ++ [x, y, z] := by
  have h1 : (rest.drop 32).length = 3 := by rw [List.length_drop]; omega
  match hd : rest.drop 32, h1 with
  | [x, y, z], _ => exact ⟨rest.take 32, x, y, z, by rw [List.length_take]; omega, by rw [← hd, List.take_append_drop]⟩
set_option maxRecDepth 100000 in
theorem msg_of_trod {fuel : Nat} {cs : List Value} {x : DataW H × List MemPlace} (hf : DataW.trod enc Try.prog W 0 (fun _ => true) true fuel 27 cs = some x) :
    ∃ (m : Msg) (a b : Option Addr) (c d : Nat), cs = mL m a c b d ∧ m.root.length = 32 ∧ m.rows.length ≤ 9223372036854775807 ∧ Sl W a m.ctx ∧ RL W b m.rows := by
  obtain ⟨xs, n, _, _, hlen, hxl, hall⟩ := DataW.trod_struct Try.underlying27 hf
  rw [cells27] at hlen
  match cs, hlen with
  | c0 :: c1 :: c2 :: c3 :: c4 :: c5 :: rest, hlen =>
    obtain ⟨R, x7, x8, x9, hR, rfl⟩ := rest_of (rest := rest) (by simpa using hlen)
    match xs, hxl with
    | [y0, y1, y2, y3, y4, y5, y6, y7, y8, y9], _ =>
      have g0 := hall 0 _ rfl
      have g1 := hall 1 _ rfl
      have g2 := hall 2 _ rfl
      have g3 := hall 3 _ rfl
      have g4 := hall 4 _ rfl
      have g5 := hall 5 _ rfl
      have g6 := hall 6 _ rfl
      have g7 := hall 7 _ rfl
      have g8 := hall 8 _ rfl
      have g9 := hall 9 _ rfl
      simp [cells3, cells4, cells9, cellsDg, cells24, cells25, List.drop_append, List.take_append, hR] at g0 g1 g2 g3 g4 g5 g6 g7 g8 g9
      rw [List.drop_of_length_le (by omega), List.take_nil, List.nil_append] at g8 g9
      obtain ⟨k, e0, _, _⟩ := DataW.trod_int Try.underlying3 g0
      obtain ⟨f, e1, _, _⟩ := DataW.trod_int Try.underlying3 g1
      obtain ⟨t, e2, _, _⟩ := DataW.trod_int Try.underlying3 g2
      obtain ⟨s, e3, _, _⟩ := DataW.trod_int Try.underlying3 g3
      obtain ⟨u, e4, _⟩ := DataW.trod_bool Try.underlying4 g4
      obtain ⟨p, e5, _, _⟩ := DataW.trod_string Try.underlying9 g5
      obtain ⟨r, hr, e6⟩ := bytes_of_trod g6
      obtain ⟨a, c, ds, e7, _, s7⟩ := dots_of_trod g7
      obtain ⟨b, d, rows, e8, _, h8, s8⟩ := rows_of_trod g8
      obtain ⟨x, e9, _, _⟩ := DataW.trod_string Try.underlying9 g9
      simp only [List.cons.injEq, and_true] at e0 e1 e2 e3 e4 e5 e9
      exact ⟨⟨k, f, t, s, u, p, r, ds, rows, x⟩, a, b, c, d, by rw [e0, e1, e2, e3, e4, e5, e6, e7, e8, e9]; rfl, hr, h8, s7, s8⟩
set_option maxRecDepth 100000 in
theorem open_msg {r0 : Reach} {base : Nat} {v0 : Value} {d0 : DataW H} {p0 : List MemPlace}
    (hv : Value.okWide Try.prog W r0 base 27 v0) (h : DataW.Trod enc Try.prog W 0 (fun _ => true) true 27 v0 d0 p0) :
    ∃ (m : Msg) (a b : Option Addr) (c d : Nat), v0 = .agg (mL m a c b d).toArray ∧ m.root.length = 32 ∧ m.rows.length ≤ 9223372036854775807 ∧ Sl W a m.ctx ∧ RL W b m.rows := by
  unfold Value.okWide at hv
  rw [Try.underlying27] at hv
  obtain ⟨cs, rfl, hcs, _⟩ := hv
  obtain ⟨fuel, hf⟩ := h
  obtain ⟨m, a, b, c, d, e, h1, h2, h3, h4⟩ := msg_of_trod hf
  refine ⟨m, a, b, c, d, ?_, h1, h2, h3, h4⟩
  simp only [Value.cells] at e
  rw [← e]
end
end Go.Proofs.Ythecijjmgfempaa
