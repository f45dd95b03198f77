/-
  What the document's of, Join, Meet and With answer: the vector of the counts of all peers.
-/
import Derived.Test.YtklkacmeopfmhaaGreatHelp
namespace Go.Proofs.YtklkacmeopfmhaaGreat
open Go.RowKit

theorem grown_below {w w' : World} {base : Nat} {e : TypeId} {size : Nat} {v : Value} {n : Nat} {xs : List Value} (hown : w.ownsRow base e size v n xs) (hg : w.grownBy w' v.ownBlock) (hb : base ≤ w.heap.size) : Below base w w' :=
  ⟨hg.os, hg.tape, hg.output, hg.size, fun k hk => hg.block k (by omega) (by
    rcases hown.2 with ⟨rfl, _⟩ | ⟨g, cap, cur, rfl, hg', _⟩
    · simp [Value.ownBlock]
    · simp [Value.ownBlock]; omega)⟩

end Go.Proofs.YtklkacmeopfmhaaGreat

namespace Go.Proofs.YtklkacmeopfmhaaGreat
open Go.RowKit

theorem one_sl1 (w : World) (p c : Int) : Sl (w.alloc (.cells #[.int .i64 p, .int .i64 c] 52)) (some ⟨w.heap.size, 0, none⟩) [(p, c)] := fun _ => by
  have hr := VRow.new w 52 [.int .i64 p, .int .i64 c]
  refine ⟨w.heap.size, 0, rfl, lt_new _ _, fun j d hj => ?_⟩
  have hj2 : j = 0 := by have := (List.getElem?_eq_some_iff.1 hj).1; simp at this; omega
  subst hj2
  simp at hj
  subst hj
  exact ⟨hr.cell 0 _ rfl, hr.cell 1 _ rfl⟩

end Go.Proofs.YtklkacmeopfmhaaGreat
