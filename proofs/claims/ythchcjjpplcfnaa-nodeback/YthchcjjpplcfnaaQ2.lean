/-
  Two kids loaded and compared in a region that draws its order: steps of the walk. Conditions: those that each theorem names.
-/
import Derived.Test.YthchcjjpplcfnaaQ1
import Derived.BigQuiet
namespace Go.Proofs.Ythchcjjpplcfnaa
open Go.RowKit

theorem quiet_kid {ops : Array Oper} {rest : List Oper} {o : Oper} {a : Act} {S : World → Prop} {Q : Act → Prop} (hw : Region.wanted o (yielded ops a.tmps) = true) (x : Operand) (ho : o.op = .load 41 x)
    (B i : Nat) (hx : a.eval x = .pointer (some ⟨B, i, none⟩)) (k : Kd) (hr : ∀ w', S w' → w'.rangeAt B i (kL k)) (hn : k.2.length = 32)
    (h : wpQuiet Try.prog ops S Q rest (a.put o.dst (.agg (kL k).toArray))) : wpQuiet Try.prog ops S Q (o :: rest) a := by
  refine wpQuiet_step fun K hK => ?_
  rw [if_pos hw]
  refine ⟨.agg (kL k).toArray, ?_, hK _ h⟩
  intro w' hS
  unfold Oper.quietAt execOp
  simp only [ho, hx, Instr.loadAt, Instr.sureAddr, Sem.run_bind, Sem.run_pure, Result.andThen_ok, run_loadVar_mid w' B i 41 (kL k) _ (hr w' hS) Try.underlying41 rfl (by rw [sizeK, kL_len hn])]
  exact ⟨rfl, rfl⟩
theorem quiet_neqK {ops : Array Oper} {rest : List Oper} {o : Oper} {a : Act} {S : World → Prop} {Q : Act → Prop} (hw : Region.wanted o (yielded ops a.tmps) = true) (x y : Operand) (ho : o.op = .binOp .neq 41 x y 41)
    (k l : Kd) (hx : a.eval x = .agg (kL k).toArray) (hy : a.eval y = .agg (kL l).toArray) (hk : k.2.length = 32) (hl : l.2.length = 32)
    (h : wpQuiet Try.prog ops S Q rest (a.put o.dst (.bool (!sameK k l)))) : wpQuiet Try.prog ops S Q (o :: rest) a := by
  refine wpQuiet_step fun K hK => ?_
  rw [if_pos hw]
  refine ⟨.bool (!sameK k l), ?_, hK _ h⟩
  intro w' hS
  unfold Oper.quietAt execOp
  have he := eqK k l hk hl w'
  have hg := run_eqGuard_agg (P := Try.prog) w' .neq 41 x y (kL k).toArray (kL l).toArray (by kernel_rfl)
  have hne := run_neq_struct (P := Try.prog) w' 41 (kL k).toArray (kL l).toArray
  rw [he] at hne
  simp only [ho, hx, hy]
  simp only [Sem.run_bind, hg, hne, Result.andThen_ok, Sem.run_pure]
  exact ⟨rfl, rfl⟩
end Go.Proofs.Ythchcjjpplcfnaa
