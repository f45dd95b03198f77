/-
  What the document's Join, Meet and With answer, and the program's With.
-/
import Derived.Test.YtklkacmeopfmhaaGrow
namespace Go.Proofs.Ytklkacmeopfmhaa
open Go.RowKit

theorem one_sl1 (w : World) (p c : Int) : Sl (w.alloc (.cells #[.int .i64 p, .int .i64 c] 64)) (some ⟨w.heap.size, 0, none⟩) [(p, c)] := fun _ => by
  have hr := VRow.new w 64 [.int .i64 p, .int .i64 c]
  refine ⟨w.heap.size, 0, rfl, lt_new _ _, fun j d hj => ?_⟩
  have hj2 : j = 0 := by have := (List.getElem?_eq_some_iff.1 hj).1; simp at this; omega
  subst hj2
  simp at hj
  subst hj
  exact ⟨hr.cell 0 _ rfl, hr.cell 1 _ rfl⟩

end Go.Proofs.Ytklkacmeopfmhaa
