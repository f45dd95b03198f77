/-
  No cell of these rows narrows 'for every input' (looked for: loops, veiled, ifaces, maps, wideKeys, modest, calm, conditions, laid).
  DERIVED. THE GIVEN ROWS OF THIS SEAT. 5 by the template 'for every input the law returns true; each argument reads behind the call as it read before'; 0 by the template 'total and deterministic' (their statements: YtklkacmeopfmhaaTotals.lean).
  GIVEN WITH THE SEED: the statements are not yours to turn. If you find one false, say at which input.
  Laid BY PROGRAM, IN A SANDBOX (cutbox-rows.mjs): the forced cells as the released guide's own fill.sh prints them over the translation c99d335db56a5830… (all of the seat's roots in one cut). By AI agents, Wed Nov 11 2026. No macro, syntax, notation, axiom, sorry.
-/
import Derived.Test.YtklkacmeopfmhaaChecked
import GoSem.Claim
import GoSem.ClaimJoined
import GoSem.ClaimMapViews
import Derived.JoinedTies
import Derived.KernelRfl
namespace Go.Proofs.Ytklkacmeopfmhaa
/- THE CELL 'sum', in the pinned program and in every row, IS THE sha256 OF THE DUMP (.gsa) THAT YtklkacmeopfmhaaProg.lean LOADS. Nothing in Lean hashes anything: it is a label: what it is worth is what the hold of that sum in a sandbox is worth. -/
noncomputable def Try.pinned : Pinned := { name := "ytklkacmeopfmhaa", sum := "c99d335db56a5830539ea1e4a4072c1e2510dc2eaddb059ab52d38df74ca5316", checked := Try.checked }
namespace Rows
def none {H : Type} : Left H := { results := [], args := [] }

/-- 'hearsaylaw11.RecordVecs': WHATEVER THE INPUT: true; the input reads as it did. -/
def recordVecsSpec : ChangeSpec := { name := "recordVecs", fn := fun _ => fun
  | [d] => { results := [.lit (.bool true)], args := [d] }
  | _ => none }
def recordVecsRow : OpenClaim := { program := "ytklkacmeopfmhaa", sum := "c99d335db56a5830539ea1e4a4072c1e2510dc2eaddb059ab52d38df74ca5316", func := "hearsay/hearsaylaw11.RecordVecs", spec := "recordVecs", unfollowed := true, recurses := true, apart := false }
def RecordVecsSaid : Prop := recordVecsRow.holds Try.pinned (OpenSpec.ofChange recordVecsSpec)

/-- ITS FALSE NEIGHBOUR: 'it returns false'. Refute it at one input. -/
def recordVecsWrong : ChangeSpec := { name := "recordVecs", fn := fun _ => fun
  | [d] => { results := [.lit (.bool false)], args := [d] }
  | _ => none }
def RecordVecsWrongFalsely : Prop := recordVecsRow.holds Try.pinned (OpenSpec.ofChange recordVecsWrong)

/-- 'hearsaylaw11.RecordLeaves': WHATEVER THE INPUT: true; the input reads as it did. -/
def recordLeavesSpec : ChangeSpec := { name := "recordLeaves", fn := fun _ => fun
  | [d] => { results := [.lit (.bool true)], args := [d] }
  | _ => none }
def recordLeavesRow : OpenClaim := { program := "ytklkacmeopfmhaa", sum := "c99d335db56a5830539ea1e4a4072c1e2510dc2eaddb059ab52d38df74ca5316", func := "hearsay/hearsaylaw11.RecordLeaves", spec := "recordLeaves", unfollowed := true, recurses := true, apart := false }
def RecordLeavesSaid : Prop := recordLeavesRow.holds Try.pinned (OpenSpec.ofChange recordLeavesSpec)

/-- ITS FALSE NEIGHBOUR: 'it returns false'. Refute it at one input. -/
def recordLeavesWrong : ChangeSpec := { name := "recordLeaves", fn := fun _ => fun
  | [d] => { results := [.lit (.bool false)], args := [d] }
  | _ => none }
def RecordLeavesWrongFalsely : Prop := recordLeavesRow.holds Try.pinned (OpenSpec.ofChange recordLeavesWrong)

/-- 'hearsaylaw11.RecordReads': WHATEVER THE INPUT: true; the input reads as it did. -/
def recordReadsSpec : ChangeSpec := { name := "recordReads", fn := fun _ => fun
  | [d] => { results := [.lit (.bool true)], args := [d] }
  | _ => none }
def recordReadsRow : OpenClaim := { program := "ytklkacmeopfmhaa", sum := "c99d335db56a5830539ea1e4a4072c1e2510dc2eaddb059ab52d38df74ca5316", func := "hearsay/hearsaylaw11.RecordReads", spec := "recordReads", unfollowed := true, recurses := true, apart := false }
def RecordReadsSaid : Prop := recordReadsRow.holds Try.pinned (OpenSpec.ofChange recordReadsSpec)

/-- ITS FALSE NEIGHBOUR: 'it returns false'. Refute it at one input. -/
def recordReadsWrong : ChangeSpec := { name := "recordReads", fn := fun _ => fun
  | [d] => { results := [.lit (.bool false)], args := [d] }
  | _ => none }
def RecordReadsWrongFalsely : Prop := recordReadsRow.holds Try.pinned (OpenSpec.ofChange recordReadsWrong)

/-- 'hearsaylaw11.RecordBack': WHATEVER THE INPUT: true; the input reads as it did. -/
def recordBackSpec : ChangeSpec := { name := "recordBack", fn := fun _ => fun
  | [d1, d2, d3] => { results := [.lit (.bool true)], args := [d1, d2, d3] }
  | _ => none }
def recordBackRow : OpenClaim := { program := "ytklkacmeopfmhaa", sum := "c99d335db56a5830539ea1e4a4072c1e2510dc2eaddb059ab52d38df74ca5316", func := "hearsay/hearsaylaw11.RecordBack", spec := "recordBack", unfollowed := true, recurses := true, apart := false }
def RecordBackSaid : Prop := recordBackRow.holds Try.pinned (OpenSpec.ofChange recordBackSpec)

/-- ITS FALSE NEIGHBOUR: 'it returns false'. Refute it at one input. -/
def recordBackWrong : ChangeSpec := { name := "recordBack", fn := fun _ => fun
  | [d1, d2, d3] => { results := [.lit (.bool false)], args := [d1, d2, d3] }
  | _ => none }
def RecordBackWrongFalsely : Prop := recordBackRow.holds Try.pinned (OpenSpec.ofChange recordBackWrong)

/-- 'hearsaylaw11.RecordMixed': WHATEVER THE INPUT: true; the input reads as it did. -/
def recordMixedSpec : ChangeSpec := { name := "recordMixed", fn := fun _ => fun
  | [d1, d2, d3] => { results := [.lit (.bool true)], args := [d1, d2, d3] }
  | _ => none }
def recordMixedRow : OpenClaim := { program := "ytklkacmeopfmhaa", sum := "c99d335db56a5830539ea1e4a4072c1e2510dc2eaddb059ab52d38df74ca5316", func := "hearsay/hearsaylaw11.RecordMixed", spec := "recordMixed", unfollowed := true, recurses := true, apart := false }
def RecordMixedSaid : Prop := recordMixedRow.holds Try.pinned (OpenSpec.ofChange recordMixedSpec)

/-- ITS FALSE NEIGHBOUR: 'it returns false'. Refute it at one input. -/
def recordMixedWrong : ChangeSpec := { name := "recordMixed", fn := fun _ => fun
  | [d1, d2, d3] => { results := [.lit (.bool false)], args := [d1, d2, d3] }
  | _ => none }
def RecordMixedWrongFalsely : Prop := recordMixedRow.holds Try.pinned (OpenSpec.ofChange recordMixedWrong)

/- THE SECOND FORM. 'bulk': how many values and letters a reading holds, each counted each time it is reached (what is shared counts as often as it is met; a slice's spare places count too). A statement '..UptoSaid' is the law's where the arguments, and the package variables that the reading takes, are together of bulk at most 1048576: NARROWER than '..Said'. Prove '..Said' where nothing that the law and all that it calls make is longer than what came in: it says more and counts as full. Else prove '..UptoSaid'. A law counts once. -/
mutual
def uptoBulk {H : Type} : DataW H → Nat
  | .lit (.string bytes) => bytes.length + 1
  | .lit _ => 1
  | .nil => 1
  | .ptr d => uptoBulk d + 1
  | .slice elems spare => uptoBulkAll elems + uptoBulkAll spare + 1
  | .agg parts => uptoBulkAll parts + 1
  | .iface _ d => uptoBulk d + 1
  | .map entries => uptoBulkEntries entries + 1
  | .held _ => 1
def uptoBulkAll {H : Type} : List (DataW H) → Nat
  | [] => 0
  | d :: r => uptoBulk d + uptoBulkAll r
def uptoBulkEntries {H : Type} : List (Lit × DataW H) → Nat
  | [] => 0
  | x :: r => uptoBulkEntry x + uptoBulkEntries r
def uptoBulkEntry {H : Type} : Lit × DataW H → Nat
  | (.string bytes, d) => bytes.length + uptoBulk d + 1
  | (_, d) => uptoBulk d + 1
 end
def uptoSmall : (H : Type) → List (DataW H) → Bool := fun _ ds => decide (uptoBulkAll ds ≤ 1048576)
def OpenSpec.upto (s : _root_.Go.ChangeSpec) : _root_.Go.OpenSpec := { _root_.Go.OpenSpec.ofChange s with cond := some uptoSmall }

/-- 'hearsaylaw11.RecordVecs', WHERE WHAT IT READS IS OF BULK AT MOST 1048576: true; the input reads as it did. -/
def recordVecsUptoRow : OpenClaim := { program := "ytklkacmeopfmhaa", sum := "c99d335db56a5830539ea1e4a4072c1e2510dc2eaddb059ab52d38df74ca5316", func := "hearsay/hearsaylaw11.RecordVecs", spec := "recordVecs", unfollowed := true, recurses := true, apart := false, narrowed := true }
def RecordVecsUptoSaid : Prop := recordVecsUptoRow.holds Try.pinned (OpenSpec.upto recordVecsSpec)

/-- 'hearsaylaw11.RecordLeaves', WHERE WHAT IT READS IS OF BULK AT MOST 1048576: true; the input reads as it did. -/
def recordLeavesUptoRow : OpenClaim := { program := "ytklkacmeopfmhaa", sum := "c99d335db56a5830539ea1e4a4072c1e2510dc2eaddb059ab52d38df74ca5316", func := "hearsay/hearsaylaw11.RecordLeaves", spec := "recordLeaves", unfollowed := true, recurses := true, apart := false, narrowed := true }
def RecordLeavesUptoSaid : Prop := recordLeavesUptoRow.holds Try.pinned (OpenSpec.upto recordLeavesSpec)

/-- 'hearsaylaw11.RecordReads', WHERE WHAT IT READS IS OF BULK AT MOST 1048576: true; the input reads as it did. -/
def recordReadsUptoRow : OpenClaim := { program := "ytklkacmeopfmhaa", sum := "c99d335db56a5830539ea1e4a4072c1e2510dc2eaddb059ab52d38df74ca5316", func := "hearsay/hearsaylaw11.RecordReads", spec := "recordReads", unfollowed := true, recurses := true, apart := false, narrowed := true }
def RecordReadsUptoSaid : Prop := recordReadsUptoRow.holds Try.pinned (OpenSpec.upto recordReadsSpec)

/-- 'hearsaylaw11.RecordBack', WHERE WHAT IT READS IS OF BULK AT MOST 1048576: true; the input reads as it did. -/
def recordBackUptoRow : OpenClaim := { program := "ytklkacmeopfmhaa", sum := "c99d335db56a5830539ea1e4a4072c1e2510dc2eaddb059ab52d38df74ca5316", func := "hearsay/hearsaylaw11.RecordBack", spec := "recordBack", unfollowed := true, recurses := true, apart := false, narrowed := true }
def RecordBackUptoSaid : Prop := recordBackUptoRow.holds Try.pinned (OpenSpec.upto recordBackSpec)

/-- 'hearsaylaw11.RecordMixed', WHERE WHAT IT READS IS OF BULK AT MOST 1048576: true; the input reads as it did. -/
def recordMixedUptoRow : OpenClaim := { program := "ytklkacmeopfmhaa", sum := "c99d335db56a5830539ea1e4a4072c1e2510dc2eaddb059ab52d38df74ca5316", func := "hearsay/hearsaylaw11.RecordMixed", spec := "recordMixed", unfollowed := true, recurses := true, apart := false, narrowed := true }
def RecordMixedUptoSaid : Prop := recordMixedUptoRow.holds Try.pinned (OpenSpec.upto recordMixedSpec)

end Rows
end Go.Proofs.Ytklkacmeopfmhaa
