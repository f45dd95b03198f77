/-
  What readers see of versions: the document's.
-/
import Derived.Test.YtklkacmeopfmhaaRefSame
import Derived.Test.YtklkacmeopfmhaaOne
namespace Go.Proofs.Ytklkacmeopfmhaa
open Go.RowKit

def zeroV : Vc.V := ⟨(0, 0), [], false, ⟨#[]⟩⟩
def zero68 : List Value := [.int .i64 0, .int .i64 0, .slice none 0 0, .bool false, .string ⟨#[]⟩]
theorem size68 : (Try.prog.info? 68).map (·.size) = some 5 := by kernel_rfl
theorem Sl.onlyNe {w w' : World} {D : Nat} {r : Option Addr} {ds : List Vc.D} (h : Sl w r ds) (ho : Only D w w') (hne : ∀ ad, r = some ad → 0 < ds.length → ad.block ≠ D) : Sl w' r ds := fun h0 => by
  obtain ⟨g, o, e, hg, hc⟩ := h h0
  have hn : g ≠ D := hne _ e h0
  have e1 : ∀ k, w'.cell? ⟨g, k, Option.none⟩ = w.cell? ⟨g, k, Option.none⟩ := fun k => World.cell?_of_block (w := w) (ho.block g hn)
  refine ⟨g, o, e, by rw [ho.size]; exact hg, fun j d hj => ?_⟩
  rw [e1, e1]
  exact hc j d hj
theorem verL_one (v : Vc.V) (r : Option Addr) (c : Nat) : ∀ x ∈ verL v r c, x.oneCell' = true := by simp [verL, Value.oneCell']

end Go.Proofs.Ytklkacmeopfmhaa
