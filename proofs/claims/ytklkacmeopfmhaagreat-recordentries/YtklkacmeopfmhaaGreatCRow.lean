/-
  Rows of values in a block: their cells, a store into one, what stays as it was; a row as a whole.
-/
import Derived.Test.YtklkacmeopfmhaaGreatCPut
import Derived.Test.YtklkacmeopfmhaaGreatHelp
import Derived.Outline
import Derived.Deep.MidRow
import Derived.Deep.WholeRow
import Derived.RegionTactic
import Derived.BigRegion
import Derived.OwnWalk
import Derived.Laws.ResultCell
namespace Go.Proofs.YtklkacmeopfmhaaGreat
open Go.RowKit

/-- Of what was there nothing turns but the blocks that are owned. -/
structure Beside (own : Nat → Prop) (w w' : World) : Prop where
  os : w'.os = w.os
  tape : w'.tape = w.tape
  output : w'.output = w.output
  size : w.heap.size ≤ w'.heap.size
  block : ∀ k, k < w.heap.size → ¬ own k → w'.heap[k]? = w.heap[k]?
theorem beside_of {own : Nat → Prop} {w w' : World} (h : Below w.heap.size w w') : Beside own w w' := ⟨h.os, h.tape, h.output, h.size, fun k hk _ => h.block k hk⟩
theorem Beside.refl (own : Nat → Prop) (w : World) : Beside own w w := beside_of (Below.refl _ _)
theorem Beside.trans {own : Nat → Prop} {a b c : World} (h : Beside own a b) (h2 : Beside own b c) : Beside own a c :=
  ⟨h2.os.trans h.os, h2.tape.trans h.tape, h2.output.trans h.output, Nat.le_trans h.size h2.size, fun k hk hk2 => (h2.block k (Nat.lt_of_lt_of_le hk h.size) hk2).trans (h.block k hk hk2)⟩
theorem Beside.below {own : Nat → Prop} {w w' : World} {B : Nat} (h : Beside own w w') (hB : B ≤ w.heap.size) (ho : ∀ g, own g → B ≤ g) : Below B w w' :=
  ⟨h.os, h.tape, h.output, h.size, fun k hk => h.block k (by omega) fun hk' => by have := ho k hk'; omega⟩
theorem beside_set (q k : Nat) (w : World) (v : Value) : Beside (· = q) w (w.setCell ⟨q, k, none⟩ v) :=
  ⟨rfl, rfl, rfl, by simp, fun j _ hj => heap_setCell_other w ⟨q, k, none⟩ j v hj⟩
theorem VRow.beside {own : Nat → Prop} {W W' : World} {A T : Nat} {vs : List Value} (h : VRow W A T vs) (hb : Beside own W W') (hA : ¬ own A) : VRow W' A T vs := (hb.block A h.lt hA).trans h
end Go.Proofs.YtklkacmeopfmhaaGreat
