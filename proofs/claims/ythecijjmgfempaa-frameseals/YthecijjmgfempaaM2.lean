/-
  Whether a message may be: the document's.
-/
import Derived.Test.YthecijjmgfempaaM1
namespace Go.Proofs.Ythecijjmgfempaa
open Go.RowKit

theorem checkM_head {m : Msg} (h : headM m ≠ 0) : checkM m = headM m := if_pos h
theorem checkM_foreign {m : Msg} (h : headM m = 0) (hf : foreign m = true) : checkM m = 7 := by unfold checkM; rw [if_neg (by simp [h]), if_pos hf]
theorem checkM_own {m : Msg} (h : headM m = 0) (hf : foreign m = false) : checkM m = ownErr m := by unfold checkM; rw [if_neg (by simp [h]), if_neg (by simp [hf])]
theorem headM_zero {m : Msg} (h : headM m = 0) : 1 ≤ m.kind ∧ m.kind ≤ 6 ∧ 0 ≤ m.frm ∧ m.frm ≤ 63 ∧ 0 ≤ m.dst ∧ m.dst ≤ 63 ∧ m.frm ≠ m.dst ∧ 1 ≤ m.sid ∧ m.sid ≤ 1048576 := by
  unfold headM at h
  split at h
  · omega
  · split at h
    · omega
    · split at h <;> omega
/-- What a message's own fields take of memory: bounds. -/
structure FewM (m : Msg) : Prop where
  root : m.root.length = 32
  path : m.path.size ≤ 1000
  ctx : m.ctx.length ≤ 9223372036854775807
  rows : FewR m.rows
  text : m.text.size ≤ 9223372036854775807
theorem pathErr_none : pathErr ⟨#[]⟩ = 0 := by unfold pathErr; rw [if_pos rfl]
theorem pathErr_some {s : ByteArray} (h : s ≠ ⟨#[]⟩) : pathErr s = Pth.Pt.check s.data.toList := by unfold pathErr; rw [if_neg h]
end Go.Proofs.Ythecijjmgfempaa
