/-
  A node loaded where the operation has a guard. Conditions: the guard lets it.
-/
import Derived.Test.YthchcjjpplcfnaaDoorK1
namespace Go.Proofs.YthchcjjpplcfnaaDoor
open Go.RowKit
theorem load_node_want {ops : Array Oper} {rest : List Oper} {o : Oper} {a : Act} {w : World} {Q : Exit → Act → World → Prop} (hw : Region.wanted o (yielded ops a.tmps) = true) (x : Operand) (ho : o.op = .load 25 x)
    (B : Nat) (hx : a.eval x = .pointer (some ⟨B, 0, none⟩)) (vs : List Value) (hr : VRow w B 25 vs) (hn : vs.length = 2)
    (h : wpList Tryd.prog ops Q rest (a.put o.dst (.agg vs.toArray)) w) : wpList Tryd.prog ops Q (o :: rest) a w :=
  wpList_step fun _ hK => by rw [if_pos hw]; exact wp_load_row 25 x ho B hx 25 vs.toArray (0, 0) _ hr Tryd.underlying25 rfl (by rw [sizeNd]; simp [hn]) (hK _ _ h)
end Go.Proofs.YthchcjjpplcfnaaDoor
