/-
  A kid built of its parts, and a slice of one kid. Conditions: a digest has 32 bytes.
-/
import Derived.Test.YthchcjjpplcfnaaK1
import Derived.Great.BuildSlice
namespace Go.Proofs.Ythchcjjpplcfnaa
open Go.RowKit
theorem run_buildK (s : ByteArray) (d : List UInt8) (hd : d.length = 32) (w : World) : (Instr.build 41 #[(0, .string s), (1, .agg (d.map byteVal).toArray)]).run Try.prog w = .ok (.agg (kL (s, d)).toArray) w := by
  match d, hd with
  | [a0, a1, a2, a3, a4, a5, a6, a7, a8, a9, b0, b1, b2, b3, b4, b5, b6, b7, b8, b9, c0, c1, c2, c3, c4, c5, c6, c7, c8, c9, d0, d1], _ => exact run_build w _ _ _ (by kernel_rfl)
theorem fillK0 (s : ByteArray) (a0 a1 a2 a3 a4 a5 a6 a7 a8 a9 b0 b1 b2 b3 b4 b5 b6 b7 b8 b9 c0 c1 c2 c3 c4 c5 c6 c7 c8 c9 d0 d1 : UInt8) : Instr.fill (fun i => some (i * 33, 33)) ((Array.range (1 * 33)).map ((Value.agg zeroKA).cells[· % (Value.agg zeroKA).cells.size]!)) #[(0, Value.agg (kL (s, [a0, a1, a2, a3, a4, a5, a6, a7, a8, a9, b0, b1, b2, b3, b4, b5, b6, b7, b8, b9, c0, c1, c2, c3, c4, c5, c6, c7, c8, c9, d0, d1])).toArray)].toList = some (kL (s, [a0, a1, a2, a3, a4, a5, a6, a7, a8, a9, b0, b1, b2, b3, b4, b5, b6, b7, b8, b9, c0, c1, c2, c3, c4, c5, c6, c7, c8, c9, d0, d1])).toArray := by kernel_rfl
theorem fillK (s : ByteArray) (d : List UInt8) (hd : d.length = 32) : Instr.fill (fun i => some (i * 33, 33)) ((Array.range (1 * 33)).map ((Value.agg zeroKA).cells[· % (Value.agg zeroKA).cells.size]!)) #[(0, Value.agg (kL (s, d)).toArray)].toList = some (kL (s, d)).toArray := by
  match d, hd with
  | [a0, a1, a2, a3, a4, a5, a6, a7, a8, a9, b0, b1, b2, b3, b4, b5, b6, b7, b8, b9, c0, c1, c2, c3, c4, c5, c6, c7, c8, c9, d0, d1], _ => exact fillK0 s a0 a1 a2 a3 a4 a5 a6 a7 a8 a9 b0 b1 b2 b3 b4 b5 b6 b7 b8 b9 c0 c1 c2 c3 c4 c5 c6 c7 c8 c9 d0 d1
theorem run_sliceK (k : Kd) (hd : k.2.length = 32) (w : World) : (Instr.buildSlice 23 1 #[(0, .agg (kL k).toArray)]).run Try.prog w = .ok (.slice (some ⟨w.heap.size, 0, none⟩) 1 1) (w.alloc (.cells (kL k).toArray 41)) := by
  obtain ⟨i0, hi, hz0, hz1, hz2⟩ := info_parts infoK
  refine run_buildSlice w 23 41 1 _ _ i0 _ Try.underlying23 hi hz0 (by rw [hz1]; decide) (by rw [hz1]; decide) ?_
  rw [hz1]
  exact fillK k.1 k.2 hd
theorem step_buildK {ops : Array Oper} {rest : List Oper} {o : Oper} {a : Act} {w : World} {Q : Exit → Act → World → Prop} (hgd : o.guard = none) (x y : Operand) (ho : o.op = .build 41 #[(0, x), (1, y)])
    (s : ByteArray) (d : List UInt8) (hx : a.eval x = .string s) (hy : a.eval y = .agg (d.map byteVal).toArray) (hd : d.length = 32)
    (h : wpList Try.prog ops Q rest (a.put o.dst (.agg (kL (s, d)).toArray)) w) : wpList Try.prog ops Q (o :: rest) a w :=
  wpList_plain hgd fun K hK => by
    have hr := run_buildK s d hd w
    rw [← hx, ← hy] at hr
    unfold Oper.wp execOp
    simp only [ho]
    have e : (#[(0, x), (1, y)] : Array (Nat × Operand)).map (fun (i, x) => (i, a.eval x)) = #[(0, a.eval x), (1, a.eval y)] := by simp
    rw [e]
    simp only [Sem.run_bind, hr, Result.andThen_ok]
    exact hK _ _ h
theorem step_sliceK {ops : Array Oper} {rest : List Oper} {o : Oper} {a : Act} {w : World} {Q : Exit → Act → World → Prop} (hgd : o.guard = none) (x : Operand) (ho : o.op = .buildSlice 23 1 #[(0, x)])
    (k : Kd) (hx : a.eval x = .agg (kL k).toArray) (hd : k.2.length = 32)
    (h : wpList Try.prog ops Q rest (a.put o.dst (.slice (some ⟨w.heap.size, 0, none⟩) 1 1)) (w.alloc (.cells (kL k).toArray 41))) : wpList Try.prog ops Q (o :: rest) a w :=
  wpList_plain hgd fun K hK => by
    have hr := run_sliceK k hd w
    rw [← hx] at hr
    unfold Oper.wp execOp
    simp only [ho]
    have e : (#[(0, x)] : Array (Nat × Operand)).map (fun (i, x) => (i, a.eval x)) = #[(0, a.eval x)] := by simp
    rw [e]
    simp only [Sem.run_bind, hr, Result.andThen_ok]
    exact hK _ _ h
/-- An operation of this head stands there: nothing is turned. -/
theorem at_buildK {ops : Array Oper} {rest : List Oper} {o : Option Tmp} {x y : Nat × Operand} {ty : TypeId} {pos : String} {after : Array Edge} {gd : Option (Nat × Bool)} {a : Act} {w : World} {Q : Exit → Act → World → Prop}
    (h : wpList Try.prog ops Q ({ dst := o, op := .build 41 #[x, y], type := ty, pos := pos, after := after, guard := gd } :: rest) a w) : wpList Try.prog ops Q ({ dst := o, op := .build 41 #[x, y], type := ty, pos := pos, after := after, guard := gd } :: rest) a w := h
theorem at_sliceK {ops : Array Oper} {rest : List Oper} {o : Option Tmp} {x : Nat × Operand} {ty : TypeId} {pos : String} {after : Array Edge} {gd : Option (Nat × Bool)} {a : Act} {w : World} {Q : Exit → Act → World → Prop}
    (h : wpList Try.prog ops Q ({ dst := o, op := .buildSlice 23 1 #[x], type := ty, pos := pos, after := after, guard := gd } :: rest) a w) : wpList Try.prog ops Q ({ dst := o, op := .buildSlice 23 1 #[x], type := ty, pos := pos, after := after, guard := gd } :: rest) a w := h
end Go.Proofs.Ythchcjjpplcfnaa
