/-
  No cell of these rows narrows 'for every input' (looked for: loops, veiled, ifaces, maps, wideKeys, modest, calm, conditions, laid).
  DERIVED. THE GIVEN ROWS OF THIS SEAT. 6 by the template 'for every input the law returns true; each argument reads behind the call as it read before'; 0 by the template 'total and deterministic' (their statements: YtbghekolfcakeaaTotals.lean).
  GIVEN WITH THE SEED: the statements are not yours to turn. If you find one false, say at which input.
  Laid BY PROGRAM, IN A SANDBOX (cutbox-rows.mjs): the forced cells as the released guide's own fill.sh prints them over the translation 4766d0bb8e8377a8… (all of the seat's roots in one cut). By AI agents, Wed Nov 11 2026. No macro, syntax, notation, axiom, sorry.
-/
import Derived.Test.YtbghekolfcakeaaChecked
import GoSem.Claim
import GoSem.ClaimJoined
import GoSem.ClaimMapViews
import Derived.JoinedTies
import Derived.KernelRfl
namespace Go.Proofs.Ytbghekolfcakeaa
/- THE CELL 'sum', in the pinned program and in every row, IS THE sha256 OF THE DUMP (.gsa) THAT YtbghekolfcakeaaProg.lean LOADS. Nothing in Lean hashes anything: it is a label: what it is worth is what the hold of that sum in a sandbox is worth. -/
noncomputable def Try.pinned : Pinned := { name := "ytbghekolfcakeaa", sum := "4766d0bb8e8377a87210dd4b41663a32e007b1d632e0c58e23ab8cc64df73284", checked := Try.checked }
namespace Rows
def none {H : Type} : Left H := { results := [], args := [] }

/-- 'hearsaylaw07.SiblingChecks': WHATEVER THE INPUT: true; the input reads as it did. -/
def siblingChecksSpec : ChangeSpec := { name := "siblingChecks", fn := fun _ => fun
  | [d1, d2, d3] => { results := [.lit (.bool true)], args := [d1, d2, d3] }
  | _ => none }
def siblingChecksRow : OpenClaim := { program := "ytbghekolfcakeaa", sum := "4766d0bb8e8377a87210dd4b41663a32e007b1d632e0c58e23ab8cc64df73284", func := "hearsay/hearsaylaw07.SiblingChecks", spec := "siblingChecks", unfollowed := true, recurses := true, apart := false }
def SiblingChecksSaid : Prop := siblingChecksRow.holds Try.pinned (OpenSpec.ofChange siblingChecksSpec)

/-- ITS FALSE NEIGHBOUR: 'it returns false'. Refute it at one input. -/
def siblingChecksWrong : ChangeSpec := { name := "siblingChecks", fn := fun _ => fun
  | [d1, d2, d3] => { results := [.lit (.bool false)], args := [d1, d2, d3] }
  | _ => none }
def SiblingChecksWrongFalsely : Prop := siblingChecksRow.holds Try.pinned (OpenSpec.ofChange siblingChecksWrong)

/-- 'hearsaylaw07.SiblingWrites': WHATEVER THE INPUT: true; the input reads as it did. -/
def siblingWritesSpec : ChangeSpec := { name := "siblingWrites", fn := fun _ => fun
  | [d1, d2, d3] => { results := [.lit (.bool true)], args := [d1, d2, d3] }
  | _ => none }
def siblingWritesRow : OpenClaim := { program := "ytbghekolfcakeaa", sum := "4766d0bb8e8377a87210dd4b41663a32e007b1d632e0c58e23ab8cc64df73284", func := "hearsay/hearsaylaw07.SiblingWrites", spec := "siblingWrites", unfollowed := true, recurses := true, apart := false }
def SiblingWritesSaid : Prop := siblingWritesRow.holds Try.pinned (OpenSpec.ofChange siblingWritesSpec)

/-- ITS FALSE NEIGHBOUR: 'it returns false'. Refute it at one input. -/
def siblingWritesWrong : ChangeSpec := { name := "siblingWrites", fn := fun _ => fun
  | [d1, d2, d3] => { results := [.lit (.bool false)], args := [d1, d2, d3] }
  | _ => none }
def SiblingWritesWrongFalsely : Prop := siblingWritesRow.holds Try.pinned (OpenSpec.ofChange siblingWritesWrong)

/-- 'hearsaylaw07.SiblingWins': WHATEVER THE INPUT: true; the input reads as it did. -/
def siblingWinsSpec : ChangeSpec := { name := "siblingWins", fn := fun _ => fun
  | [d1, d2, d3] => { results := [.lit (.bool true)], args := [d1, d2, d3] }
  | _ => none }
def siblingWinsRow : OpenClaim := { program := "ytbghekolfcakeaa", sum := "4766d0bb8e8377a87210dd4b41663a32e007b1d632e0c58e23ab8cc64df73284", func := "hearsay/hearsaylaw07.SiblingWins", spec := "siblingWins", unfollowed := true, recurses := true, apart := false }
def SiblingWinsSaid : Prop := siblingWinsRow.holds Try.pinned (OpenSpec.ofChange siblingWinsSpec)

/-- ITS FALSE NEIGHBOUR: 'it returns false'. Refute it at one input. -/
def siblingWinsWrong : ChangeSpec := { name := "siblingWins", fn := fun _ => fun
  | [d1, d2, d3] => { results := [.lit (.bool false)], args := [d1, d2, d3] }
  | _ => none }
def SiblingWinsWrongFalsely : Prop := siblingWinsRow.holds Try.pinned (OpenSpec.ofChange siblingWinsWrong)

/-- 'hearsaylaw07.SiblingSyncs': WHATEVER THE INPUT: true; the input reads as it did. -/
def siblingSyncsSpec : ChangeSpec := { name := "siblingSyncs", fn := fun _ => fun
  | [d1, d2] => { results := [.lit (.bool true)], args := [d1, d2] }
  | _ => none }
def siblingSyncsRow : OpenClaim := { program := "ytbghekolfcakeaa", sum := "4766d0bb8e8377a87210dd4b41663a32e007b1d632e0c58e23ab8cc64df73284", func := "hearsay/hearsaylaw07.SiblingSyncs", spec := "siblingSyncs", unfollowed := true, recurses := true, apart := false }
def SiblingSyncsSaid : Prop := siblingSyncsRow.holds Try.pinned (OpenSpec.ofChange siblingSyncsSpec)

/-- ITS FALSE NEIGHBOUR: 'it returns false'. Refute it at one input. -/
def siblingSyncsWrong : ChangeSpec := { name := "siblingSyncs", fn := fun _ => fun
  | [d1, d2] => { results := [.lit (.bool false)], args := [d1, d2] }
  | _ => none }
def SiblingSyncsWrongFalsely : Prop := siblingSyncsRow.holds Try.pinned (OpenSpec.ofChange siblingSyncsWrong)

/-- 'hearsaylaw07.SiblingOrder': WHATEVER THE INPUT: true; the input reads as it did. -/
def siblingOrderSpec : ChangeSpec := { name := "siblingOrder", fn := fun _ => fun
  | [d] => { results := [.lit (.bool true)], args := [d] }
  | _ => none }
def siblingOrderRow : OpenClaim := { program := "ytbghekolfcakeaa", sum := "4766d0bb8e8377a87210dd4b41663a32e007b1d632e0c58e23ab8cc64df73284", func := "hearsay/hearsaylaw07.SiblingOrder", spec := "siblingOrder", unfollowed := true, recurses := true, apart := false }
def SiblingOrderSaid : Prop := siblingOrderRow.holds Try.pinned (OpenSpec.ofChange siblingOrderSpec)

/-- ITS FALSE NEIGHBOUR: 'it returns false'. Refute it at one input. -/
def siblingOrderWrong : ChangeSpec := { name := "siblingOrder", fn := fun _ => fun
  | [d] => { results := [.lit (.bool false)], args := [d] }
  | _ => none }
def SiblingOrderWrongFalsely : Prop := siblingOrderRow.holds Try.pinned (OpenSpec.ofChange siblingOrderWrong)

/-- 'hearsaylaw07.SiblingKept': WHATEVER THE INPUT: true; the input reads as it did. -/
def siblingKeptSpec : ChangeSpec := { name := "siblingKept", fn := fun _ => fun
  | [d] => { results := [.lit (.bool true)], args := [d] }
  | _ => none }
def siblingKeptRow : OpenClaim := { program := "ytbghekolfcakeaa", sum := "4766d0bb8e8377a87210dd4b41663a32e007b1d632e0c58e23ab8cc64df73284", func := "hearsay/hearsaylaw07.SiblingKept", spec := "siblingKept", unfollowed := true, recurses := true, apart := false }
def SiblingKeptSaid : Prop := siblingKeptRow.holds Try.pinned (OpenSpec.ofChange siblingKeptSpec)

/-- ITS FALSE NEIGHBOUR: 'it returns false'. Refute it at one input. -/
def siblingKeptWrong : ChangeSpec := { name := "siblingKept", fn := fun _ => fun
  | [d] => { results := [.lit (.bool false)], args := [d] }
  | _ => none }
def SiblingKeptWrongFalsely : Prop := siblingKeptRow.holds Try.pinned (OpenSpec.ofChange siblingKeptWrong)

/- THE SECOND FORM. 'bulk': how many values and letters a reading holds, each counted each time it is reached (what is shared counts as often as it is met; a slice's spare places count too). A statement '..UptoSaid' is the law's where the arguments, and the package variables that the reading takes, are together of bulk at most 1048576: NARROWER than '..Said'. Prove '..Said' where nothing that the law and all that it calls make is longer than what came in: it says more and counts as full. Else prove '..UptoSaid'. A law counts once. -/
mutual
def uptoBulk {H : Type} : DataW H → Nat
  | .lit (.string bytes) => bytes.length + 1
  | .lit _ => 1
  | .nil => 1
  | .ptr d => uptoBulk d + 1
  | .slice elems spare => uptoBulkAll elems + uptoBulkAll spare + 1
  | .agg parts => uptoBulkAll parts + 1
  | .iface _ d => uptoBulk d + 1
  | .map entries => uptoBulkEntries entries + 1
  | .held _ => 1
def uptoBulkAll {H : Type} : List (DataW H) → Nat
  | [] => 0
  | d :: r => uptoBulk d + uptoBulkAll r
def uptoBulkEntries {H : Type} : List (Lit × DataW H) → Nat
  | [] => 0
  | x :: r => uptoBulkEntry x + uptoBulkEntries r
def uptoBulkEntry {H : Type} : Lit × DataW H → Nat
  | (.string bytes, d) => bytes.length + uptoBulk d + 1
  | (_, d) => uptoBulk d + 1
 end
def uptoSmall : (H : Type) → List (DataW H) → Bool := fun _ ds => decide (uptoBulkAll ds ≤ 1048576)
def OpenSpec.upto (s : _root_.Go.ChangeSpec) : _root_.Go.OpenSpec := { _root_.Go.OpenSpec.ofChange s with cond := some uptoSmall }

/-- 'hearsaylaw07.SiblingChecks', WHERE WHAT IT READS IS OF BULK AT MOST 1048576: true; the input reads as it did. -/
def siblingChecksUptoRow : OpenClaim := { program := "ytbghekolfcakeaa", sum := "4766d0bb8e8377a87210dd4b41663a32e007b1d632e0c58e23ab8cc64df73284", func := "hearsay/hearsaylaw07.SiblingChecks", spec := "siblingChecks", unfollowed := true, recurses := true, apart := false, narrowed := true }
def SiblingChecksUptoSaid : Prop := siblingChecksUptoRow.holds Try.pinned (OpenSpec.upto siblingChecksSpec)

/-- 'hearsaylaw07.SiblingWrites', WHERE WHAT IT READS IS OF BULK AT MOST 1048576: true; the input reads as it did. -/
def siblingWritesUptoRow : OpenClaim := { program := "ytbghekolfcakeaa", sum := "4766d0bb8e8377a87210dd4b41663a32e007b1d632e0c58e23ab8cc64df73284", func := "hearsay/hearsaylaw07.SiblingWrites", spec := "siblingWrites", unfollowed := true, recurses := true, apart := false, narrowed := true }
def SiblingWritesUptoSaid : Prop := siblingWritesUptoRow.holds Try.pinned (OpenSpec.upto siblingWritesSpec)

/-- 'hearsaylaw07.SiblingWins', WHERE WHAT IT READS IS OF BULK AT MOST 1048576: true; the input reads as it did. -/
def siblingWinsUptoRow : OpenClaim := { program := "ytbghekolfcakeaa", sum := "4766d0bb8e8377a87210dd4b41663a32e007b1d632e0c58e23ab8cc64df73284", func := "hearsay/hearsaylaw07.SiblingWins", spec := "siblingWins", unfollowed := true, recurses := true, apart := false, narrowed := true }
def SiblingWinsUptoSaid : Prop := siblingWinsUptoRow.holds Try.pinned (OpenSpec.upto siblingWinsSpec)

/-- 'hearsaylaw07.SiblingSyncs', WHERE WHAT IT READS IS OF BULK AT MOST 1048576: true; the input reads as it did. -/
def siblingSyncsUptoRow : OpenClaim := { program := "ytbghekolfcakeaa", sum := "4766d0bb8e8377a87210dd4b41663a32e007b1d632e0c58e23ab8cc64df73284", func := "hearsay/hearsaylaw07.SiblingSyncs", spec := "siblingSyncs", unfollowed := true, recurses := true, apart := false, narrowed := true }
def SiblingSyncsUptoSaid : Prop := siblingSyncsUptoRow.holds Try.pinned (OpenSpec.upto siblingSyncsSpec)

/-- 'hearsaylaw07.SiblingOrder', WHERE WHAT IT READS IS OF BULK AT MOST 1048576: true; the input reads as it did. -/
def siblingOrderUptoRow : OpenClaim := { program := "ytbghekolfcakeaa", sum := "4766d0bb8e8377a87210dd4b41663a32e007b1d632e0c58e23ab8cc64df73284", func := "hearsay/hearsaylaw07.SiblingOrder", spec := "siblingOrder", unfollowed := true, recurses := true, apart := false, narrowed := true }
def SiblingOrderUptoSaid : Prop := siblingOrderUptoRow.holds Try.pinned (OpenSpec.upto siblingOrderSpec)

/-- 'hearsaylaw07.SiblingKept', WHERE WHAT IT READS IS OF BULK AT MOST 1048576: true; the input reads as it did. -/
def siblingKeptUptoRow : OpenClaim := { program := "ytbghekolfcakeaa", sum := "4766d0bb8e8377a87210dd4b41663a32e007b1d632e0c58e23ab8cc64df73284", func := "hearsay/hearsaylaw07.SiblingKept", spec := "siblingKept", unfollowed := true, recurses := true, apart := false, narrowed := true }
def SiblingKeptUptoSaid : Prop := siblingKeptUptoRow.holds Try.pinned (OpenSpec.upto siblingKeptSpec)

end Rows
end Go.Proofs.Ytbghekolfcakeaa
