/-
  The walks of two laws: whether a message may be, and which messages are the same.
-/
import Derived.Test.YthecijjmgfempaaN3
import Derived.Test.YthecijjmgfempaaM3
import Derived.Test.YthecijjmgfempaaOpen
import Derived.Lib.QuietBelow
namespace Go.Proofs.Ythecijjmgfempaa
open Go.RowKit

theorem few_of {m : Msg} (h : greatM m = false) (hr : m.root.length = 32) : FewM m := by
  obtain ⟨h1, h2, h3, h4, h5⟩ := greatM_no h
  exact ⟨hr, by omega, by omega, ⟨by omega, fun r hr => by have := h5 r hr; omega⟩, by omega⟩

theorem quiet_load27 {ops : Array Oper} {rest : List Oper} {o : Oper} {a : Act} {w : World} {Q : Act → Prop} (hw : Region.wanted o (yielded ops a.tmps) = true) (x : Operand) (ho : o.op = .load 27 x)
    (B : Nat) (hx : a.eval x = .pointer (some ⟨B, 0, none⟩)) (vs : List Value) (hr : VRow w B 27 vs) (hn : vs.length = 41)
    (h : wpQuiet Try.prog ops (fun w' => ∃ p : Regrown, w' = Go.Sort.grow (redrawn w p.d) p.os) Q rest (a.put o.dst (.agg vs.toArray))) :
    wpQuiet Try.prog ops (fun w' => ∃ p : Regrown, w' = Go.Sort.grow (redrawn w p.d) p.os) Q (o :: rest) a := by
  refine wpQuiet_step fun K hK => ?_
  rw [if_pos hw]
  refine ⟨.agg vs.toArray, ?_, hK _ h⟩
  rintro w' ⟨p, rfl⟩
  have hr' : VRow (Go.Sort.grow (redrawn w p.d) p.os) B 27 vs := hr.below (below_regrown w p.d p.os) hr.lt
  unfold Oper.quietAt execOp
  simp only [ho, hx, Instr.loadAt, Instr.sureAddr, Sem.run_bind, Sem.run_pure, Result.andThen_ok, run_loadVar_row _ B 27 27 vs.toArray (0, 0) _ hr' Try.underlying27 rfl (by rw [sizeM]; simp [hn])]
  exact ⟨rfl, rfl⟩

end Go.Proofs.Ythecijjmgfempaa

namespace Go.Proofs.Ythecijjmgfempaa
open Go.RowKit
theorem load_msg_want {ops : Array Oper} {rest : List Oper} {o : Oper} {a : Act} {w : World} {Q : Exit → Act → World → Prop} (hw : Region.wanted o (yielded ops a.tmps) = true) (x : Operand) (ho : o.op = .load 27 x)
    (B : Nat) (hx : a.eval x = .pointer (some ⟨B, 0, none⟩)) (vs : List Value) (hr : VRow w B 27 vs) (hn : vs.length = 41)
    (h : wpList Try.prog ops Q rest (a.put o.dst (.agg vs.toArray)) w) : wpList Try.prog ops Q (o :: rest) a w :=
  wpList_step fun _ hK => by rw [if_pos hw]; exact wp_load_row 27 x ho B hx 27 vs.toArray (0, 0) _ hr Try.underlying27 rfl (by rw [sizeM]; simp [hn]) (hK _ _ h)
open Classical in
theorem some_bool (p : Prop) : ∃ D : Bool, D = true ↔ p := ⟨decide p, by simp⟩
end Go.Proofs.Ythecijjmgfempaa
