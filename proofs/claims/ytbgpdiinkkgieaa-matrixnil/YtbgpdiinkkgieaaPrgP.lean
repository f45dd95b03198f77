/-
  The program's matrix keeps and answers what the laws want of it; so its three laws' walks.
-/
import Derived.Test.YtbgpdiinkkgieaaP3
import Derived.Test.YtbgpdiinkkgieaaOwnR
import Derived.Test.YtbgpdiinkkgieaaNilLaw
import Derived.Test.YtbgpdiinkkgieaaOrderLaw
import Derived.Test.YtbgpdiinkkgieaaLearnsLaw
namespace Go.Proofs.Ytbgpdiinkkgieaa
open Go.RowKit

theorem prg : Prg MatR where
  lt := fun h g hg => by obtain ⟨b, g', cap, ps, h⟩ := h; exact h.lt g hg
  vecs := fun h => by obtain ⟨b, g', cap, ps, h⟩ := h; exact h.vecs
  keep := fun h hs hb => by obtain ⟨b, g', cap, ps, h⟩ := h; exact ⟨b, g', cap, ps, h.keep hs hb⟩
  new := fun n w h1 h2 => new_any n w h1 h2
  newNil := newNil_any
  peers := fun h => peers_any h
  row := fun h i hi => row_any h i hi
  rows := fun h => rows_any h
  learn := fun h peer r c v hv hc hs _ => learn_any h peer r c v (by omega) hc hs
  merge := fun h r c more hf _ hs hp => merge_any h r c more hf hs hp
  stable := fun h => stable_any h
  steady := fun h q c => steady_any h q c
  nPeers := nPeers_any
  nRow := nRow_any
  nRows := nRows_any
  nLearn := nLearn_any
  nMerge := nMerge_any
  nStable := nStable_any
  nSteady := nSteady_any
theorem learns_walk (n : Int) (a : Option Addr) (cap : Nat) (fs : List Fc) (_ : fs.length ≤ cap) (ap ac : Int) (W : World) (h : FL W a fs) :
    Calls Try.prog 3 #[.int .i64 n, .slice a fs.length cap, .agg #[.int .i64 ap, .int .i64 ac]] W fun e w' => e = .returned (.bool true) ∧ Below W.heap.size W w' := learnsLaw_any prg n a cap fs ap ac W h
theorem nil_walk (n : Int) (a : Option Addr) (cap : Nat) (ds : List Vc.D) (_ : ds.length ≤ cap) (W : World) (_ : Sl W a ds) :
    Calls Try.prog 4 #[.int .i64 n, .slice a ds.length cap] W fun e w' => e = .returned (.bool true) ∧ Below W.heap.size W w' := nilLaw_any prg n a ds.length cap W
theorem order_walk (n : Int) (a : Option Addr) (cap : Nat) (fs : List Fc) (_ : fs.length ≤ cap) (W : World) (h : FL W a fs) :
    Calls Try.prog 5 #[.int .i64 n, .slice a fs.length cap] W fun e w' => e = .returned (.bool true) ∧ Below W.heap.size W w' := orderLaw_any prg n a cap fs W h
end Go.Proofs.Ytbgpdiinkkgieaa
