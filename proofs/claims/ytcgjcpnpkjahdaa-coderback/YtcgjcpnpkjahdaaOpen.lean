/-
  What comes in, opened: a text, a piece, a list of pieces.
-/
import Derived.Test.YtcgjcpnpkjahdaaReads
import Derived.ProofKit
import Derived.OpenShut
import Derived.ChangeMaps5
import Derived.Deep.SlicePairs
import Derived.Lib.SmallJoins
namespace Go.Proofs.Ytcgjcpnpkjahdaa
open Go.ChangeShapes Go.WideShapes Go.ChangeAt Go.RowKit Go.Deep

section
variable {H : Type} {enc : TypeId × Value → H} {W : World}

theorem cells3 : Try.prog.cellsOf 3 = 1 := by kernel_rfl
theorem cells9 : Try.prog.cellsOf 9 = 1 := by kernel_rfl
theorem cells5 : Try.prog.cellsOf 5 = 1 := by kernel_rfl
theorem cells33 : Try.prog.cellsOf 34 = 32 := by kernel_rfl
theorem cells35 : Try.prog.cellsOf 36 = 35 := by kernel_rfl
theorem i64_of_wf {n : Int} (h : (Lit.int .i64 n).wf = true) : I64 n := by
  simp [Lit.wf, IntKind.min, IntKind.max, IntKind.bits, IntKind.signed] at h
  exact h
theorem byte_of {k : Int} (h : Lit.wf (.int .u8 k) = true) : ∃ b : UInt8, (Value.int .u8 k) = byteVal b := by
  simp only [Lit.wf, Bool.and_eq_true, decide_eq_true_eq] at h
  have h1 : IntKind.u8.min = 0 := rfl
  have h2 : IntKind.u8.max = 255 := rfl
  refine ⟨UInt8.ofNat k.toNat, ?_⟩
  rw [byteVal, Cnt.u8_lt (by omega)]
  congr 1
  omega
theorem bytes_of : ∀ (cs : List Value), (∀ v ∈ cs, ∃ b : UInt8, v = byteVal b) → ∃ d : List UInt8, cs = d.map byteVal
  | [], _ => ⟨[], rfl⟩
  | v :: cs, h => by
    obtain ⟨b, rfl⟩ := h v (by simp)
    obtain ⟨d, rfl⟩ := bytes_of cs (fun x hx => h x (by simp [hx]))
    exact ⟨b :: d, rfl⟩
theorem bytes_of_trod {fuel : Nat} {cs : List Value} {x : DataW H × List MemPlace} (hf : DataW.trod enc Try.prog W 0 (fun _ => true) true fuel 34 cs = some x) : ∃ d : List UInt8, d.length = 32 ∧ cs = d.map byteVal := by
  obtain ⟨xs, m, _, _, hcs, hxl, hel⟩ := DataW.trod_array Try.underlying34 hf
  rw [cells33] at hcs
  obtain ⟨d, hd⟩ : ∃ d : List UInt8, cs = d.map byteVal := by
    refine bytes_of cs fun v hv => ?_
    obtain ⟨i, hi, rfl⟩ := List.mem_iff_getElem.1 hv
    have h1 := hel i (by omega)
    rw [cells5, Nat.mul_one] at h1
    have h2 : xs[i]? = some xs[i] := List.getElem?_eq_getElem (by omega)
    rw [h2] at h1
    obtain ⟨k, e1, e2, hw⟩ := DataW.trod_int Try.underlying5 h1
    have e3 : cs[i] = .int .u8 k := by
      have h3 := congrArg (·[0]?) e1
      simp only [List.getElem?_take, List.getElem?_drop] at h3
      have h4 : cs[i]? = some (.int .u8 k) := by simpa using h3
      exact (List.getElem?_eq_some_iff.1 h4).2
    rw [e3]
    exact byte_of hw
  exact ⟨d, by rw [hd, List.length_map] at hcs; exact hcs, hd⟩
theorem piece_of_trod {fuel : Nat} {cs : List Value} {x : DataW H × List MemPlace} (hf : DataW.trod enc Try.prog W 0 (fun _ => true) true fuel 36 cs = some x) : ∃ y : Pc, cs = pcL y ∧ Pok y := by
  obtain ⟨xs, n, _, _, hlen, hxl, hall⟩ := DataW.trod_struct Try.underlying36 hf
  rw [cells35] at hlen
  match cs, hlen with
  | c0 :: c1 :: c2 :: rest, hlen =>
    match xs, hxl with
    | [y0, y1, y2, y3], _ =>
      have g0 := hall 0 _ rfl
      have g1 := hall 1 _ rfl
      have g2 := hall 2 _ rfl
      have g3 := hall 3 _ rfl
      simp [cells3, cells9] at g0 g1 g2
      obtain ⟨k, e0, _, w0⟩ := DataW.trod_int Try.underlying3 g0
      obtain ⟨m, e1, _, w1⟩ := DataW.trod_int Try.underlying3 g1
      obtain ⟨s, e2, _, w2⟩ := DataW.trod_string Try.underlying9 g2
      have hr : rest.length = 32 := by simpa using hlen
      have g3' : DataW.trod enc Try.prog W 0 (fun _ => true) true n 34 (List.take (Try.prog.cellsOf 34) rest) = some y3 := g3
      rw [cells33, List.take_of_length_le (by omega)] at g3'
      obtain ⟨d, hd, e3⟩ := bytes_of_trod g3'
      simp only [List.cons.injEq, and_true] at e0 e1 e2
      unfold maxLen at w2
      exact ⟨⟨k, m, s, d⟩, by rw [e0, e1, e2, e3]; rfl, i64_of_wf w0, i64_of_wf w1, by simpa using w2, hd⟩
theorem open_strb {r0 : Reach} {base : Nat} {v0 : Value} {d0 : DataW H} {p0 : List MemPlace}
    (hv : Value.okWide Try.prog W r0 base 9 v0) (h : DataW.Trod enc Try.prog W 0 (fun _ => true) true 9 v0 d0 p0) : ∃ s : ByteArray, v0 = .string s ∧ s.size ≤ 9223372036854775807 := by
  obtain ⟨s, h1, _, _, h2⟩ := Go.ChangeMaps.open_string Try.underlying9 hv h
  unfold maxLen at h2
  exact ⟨s, h1, by simpa using h2⟩
theorem open_piece {r0 : Reach} {base : Nat} {v0 : Value} {d0 : DataW H} {p0 : List MemPlace}
    (hv : Value.okWide Try.prog W r0 base 36 v0) (h : DataW.Trod enc Try.prog W 0 (fun _ => true) true 36 v0 d0 p0) : ∃ y : Pc, v0 = .agg (pcL y).toArray ∧ Pok y := by
  unfold Value.okWide at hv
  rw [Try.underlying36] at hv
  obtain ⟨cs, rfl, hcs, _⟩ := hv
  obtain ⟨fuel, hf⟩ := h
  obtain ⟨y, e, hy⟩ := piece_of_trod hf
  refine ⟨y, ?_, hy⟩
  simp only [Value.cells] at e
  rw [← e]
theorem add_plain (b o i : Nat) : (⟨b, o, none⟩ : Addr).add i = ⟨b, o + i, none⟩ := by unfold Addr.add; split <;> simp_all
theorem open_pieces {r0 : Reach} {base : Nat} {v0 : Value} {d0 : DataW H} {p0 : List MemPlace}
    (hv : Value.okWide Try.prog W r0 base 22 v0) (h : DataW.Trod enc Try.prog W 0 (fun _ => true) true 22 v0 d0 p0) :
    ∃ (a : Option Addr) (cap : Nat) (l : List Pc), v0 = .slice a l.length cap ∧ l.length ≤ 9223372036854775807 ∧ (∀ x ∈ l, Pok x) ∧ PL W a l := by
  obtain ⟨a0, len0, cap0, rfl⟩ := okWide_slice Try.underlying22 hv
  obtain ⟨fuel, hf⟩ := h
  rcases open_slice Try.underlying22 hf with ⟨hcs, _⟩ | ⟨a, len, cap, m, n, D, Pl, hcs, _, hl, hm, hmm, _, hall⟩
  · simp [Value.cells] at hcs
    obtain ⟨rfl, rfl, rfl⟩ := hcs
    exact ⟨none, 0, [], rfl, by simp, fun _ h => by simp at h, fun h => absurd h (Nat.lt_irrefl _)⟩
  · simp [Value.cells] at hcs
    obtain ⟨rfl, rfl, rfl⟩ := hcs
    simp only [if_true] at hmm
    obtain ⟨b, off, spot⟩ := a
    have each : ∀ i, i < len0 → ∃ z : Pc, (∀ j u, (pcL z)[j]? = some u → W.cell? ((⟨b, off, spot⟩ : Addr).add (i * 35 + j)) = some u) ∧ Pok z := by
      intro i hi
      obtain ⟨cs', h1, h2⟩ := hall i (by omega)
      rw [cells35] at h1
      obtain ⟨_, hlen, hcell⟩ := World.cells?_some h1
      obtain ⟨z, e, hz⟩ := piece_of_trod h2
      refine ⟨z, fun j u hu => ?_, hz⟩
      have hj : j < 35 := by have := (List.getElem?_eq_some_iff.1 hu).1; rw [pcL_len hz] at this; exact this
      have hc := hcell j (by omega)
      rw [add_add] at hc
      rw [hc, e]
      exact hu
    haveI : Inhabited Pc := ⟨⟨0, 0, ⟨#[]⟩, []⟩⟩
    obtain ⟨q, hq⟩ := choose_lt each
    have hbl : ((List.range len0).map q).length = len0 := by simp
    refine ⟨some ⟨b, off, spot⟩, cap0, (List.range len0).map q, by rw [hbl], by rw [hbl]; unfold maxLen at hm; omega, fun x hx => ?_, fun h0 => ?_⟩
    · obtain ⟨i, hi, rfl⟩ := List.mem_map.1 hx
      exact (hq i (List.mem_range.1 hi)).2
    · rw [hbl] at h0
      have hspot : spot = none := by simpa [Addr.add] using World.cell?_spot ((hq 0 h0).1 0 _ rfl)
      subst hspot
      have hb : b < W.heap.size := by have := block_lt_of_cell ((hq 0 h0).1 0 _ rfl); rw [add_plain] at this; exact this
      refine ⟨b, off, rfl, hb, fun j v hj i u hu => ?_⟩
      have hjl := (List.getElem?_eq_some_iff.1 hj).1
      rw [hbl] at hjl
      simp [hjl] at hj
      subst hj
      have := (hq j hjl).1 i u hu
      rw [add_plain, ← Nat.add_assoc] at this
      exact this
end
end Go.Proofs.Ytcgjcpnpkjahdaa
