/-
  The walk of the statement on what two leaves come to together.
-/
import Derived.Test.YtklkacmeopfmhaaGreat
import Derived.Test.YtklkacmeopfmhaaMade
namespace Go.Proofs.Ytklkacmeopfmhaa
open Go.RowKit

/-- No past is too long to be. -/
def Short (vs : List Vc.V) : Prop := ∀ v ∈ vs, v.past.length ≤ 9223372036854775807
theorem Short.few {vs : List Vc.V} (h : Short vs) (hl : vs.length ≤ 70) : Few vs := ⟨by omega, h⟩
theorem bool_of (p : Prop) : ∃ D : Bool, D = true ↔ p := ⟨@decide p (Classical.propDecidable _), @decide_eq_true_iff p (Classical.propDecidable _)⟩
end Go.Proofs.Ytklkacmeopfmhaa
