/-
  Which messages are the same: the document's.
-/
import Derived.Test.YthecijjmgfempaaVSame
import Derived.Test.YthecijjmgfempaaM2
namespace Go.Proofs.Ythecijjmgfempaa
open Go.RowKit

theorem cellB {W W' : World} {p : Addr} {v : Value} (hb : Below W.heap.size W W') (h : W.cell? p = some v) : W'.cell? p = some v := (hb.cell (block_lt_of_cell h)).trans h

end Go.Proofs.Ythecijjmgfempaa
