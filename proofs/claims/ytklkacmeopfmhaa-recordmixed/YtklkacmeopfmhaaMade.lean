/-
  What Cover, Live, Write and Erase answer: the document's.
-/
import Derived.Test.YtklkacmeopfmhaaVer
namespace Go.Proofs.Ytklkacmeopfmhaa
open Go.RowKit

def MadeV (O : Nat → Prop) (w : World) (vs : List Vc.V) (e : Ending) (w' : World) : Prop := ∃ r cap, e = .returned (.slice r vs.length cap) ∧ vs.length ≤ cap ∧ SV w' r vs ∧ Prov O w' r vs ∧ Below w.heap.size w w'
def MadeVE (O : Nat → Prop) (w : World) (x : List Vc.V × Int) (e : Ending) (w' : World) : Prop := ∃ r cap, e = .returned (.tuple #[.slice r x.1.length cap, .int .i64 x.2]) ∧ x.1.length ≤ cap ∧ SV w' r x.1 ∧ Prov O w' r x.1 ∧ Below w.heap.size w w'
def All : Nat → Prop := fun _ => True
theorem prov_all (W : World) (a : Option Addr) (vs : List Vc.V) : Prov All W a vs := Prov.any W a vs
theorem one_sv {W : World} {D T : Nat} {v : Vc.V} {r : Option Addr} {c : Nat} (h : VRow W D T (verL v r c)) (hc : v.past.length ≤ c) (hs : Sl W r v.past) : SV W (some ⟨D, 0, none⟩) [v] := fun _ => by
  refine ⟨D, 0, rfl, h.lt, fun j u hj => ?_⟩
  have hj0 : j = 0 := by have := (List.getElem?_eq_some_iff.1 hj).1; simp at this; omega
  subst hj0
  simp at hj
  subst hj
  exact ⟨r, c, h.cell 0 _ rfl, h.cell 1 _ rfl, h.cell 2 _ rfl, h.cell 3 _ rfl, h.cell 4 _ rfl, hc, hs⟩

end Go.Proofs.Ytklkacmeopfmhaa
