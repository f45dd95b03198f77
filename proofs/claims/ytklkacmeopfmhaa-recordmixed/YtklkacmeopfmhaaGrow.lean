/-
  What the document's of, Join, Meet and With answer: the vector of the counts of all peers.
-/
import Derived.Test.YtklkacmeopfmhaaHelp
namespace Go.Proofs.Ytklkacmeopfmhaa
open Go.RowKit

theorem grown_below {w w' : World} {base : Nat} {e : TypeId} {size : Nat} {v : Value} {n : Nat} {xs : List Value} (hown : w.ownsRow base e size v n xs) (hg : w.grownBy w' v.ownBlock) (hb : base ≤ w.heap.size) : Below base w w' :=
  ⟨hg.os, hg.tape, hg.output, hg.size, fun k hk => hg.block k (by omega) (by
    rcases hown.2 with ⟨rfl, _⟩ | ⟨g, cap, cur, rfl, hg', _⟩
    · simp [Value.ownBlock]
    · simp [Value.ownBlock]; omega)⟩

end Go.Proofs.Ytklkacmeopfmhaa
