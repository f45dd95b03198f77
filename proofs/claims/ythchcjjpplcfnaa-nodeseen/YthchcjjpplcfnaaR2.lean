/-
  What the document puts: vectors and leaves. Conditions: those that each theorem names.
-/
import Derived.Test.YthchcjjpplcfnaaMathR
import Derived.Test.YthchcjjpplcfnaaSib
namespace Go.Proofs.Ythchcjjpplcfnaa
open Go.RowKit

/-- What a call has come to at the document's writer or reader so far. -/
def DS (q T : Nat) (w : World) (st : St) (wr : World) : Prop := Doc wr q T st ∧ Beside (· = q) w wr
def zero62 : List Value := [.int .i64 0, .int .i64 0]
theorem size62 : (Try.prog.info? 62).map (·.size) = some 2 := by kernel_rfl
section
variable {q T : Nat} {w w1 wr wr' : World} {st st' : St}
theorem DS.start (h : Doc w q T st) : DS q T w st w := ⟨h, Beside.refl _ _⟩
theorem DS.after (h : DS q T w st wr) (hb : Below wr.heap.size wr wr') : DS q T w st wr' :=
  ⟨h.1.after hb, h.2.trans (beside_of hb)⟩
theorem DS.below (h : DS q T w st wr) {B : Nat} (hB : B ≤ w.heap.size) (hq : B ≤ q) : Below B w wr := h.2.below hB fun g (e : g = q) => by subst e; exact hq
theorem DS.row (h : DS q T w st wr) {B U : Nat} {vs : List Value} (hr : VRow w B U vs) (hB : B ≠ q) : VRow wr B U vs := hr.beside h.2 hB
theorem DS.of (hb : Below w.heap.size w w1) (h : DS q T w1 st wr) : DS q T w st wr := ⟨h.1, (beside_of hb).trans h.2⟩
theorem DS.lt (h : DS q T w st wr) : q < wr.heap.size := h.1.lt
/-- What a call does to it, said of what was there ahead. -/
theorem DS.call {f : Nat} {args : Array Value} {v : Value} (h : DS q T w st wr) (K : Doc wr q T st → Calls Try.prog f args wr (DocMade q T wr st' v)) : Calls Try.prog f args wr fun e w' => e = .returned v ∧ DS q T w st' w' :=
  (K h.1).mono fun _ _ hm => ⟨hm.1, hm.2.1, h.2.trans hm.2.2⟩
theorem DS.made (h : DS q T w st wr) (v : Value) : DocMade q T w st v (.returned v) wr := ⟨rfl, h.1, h.2⟩
end

theorem doc_zero (w : World) : Doc (w.alloc (.cells #[.string ⟨#[]⟩, .int .i64 0] 46)) w.heap.size 46 ([], 0) := VRow.new w 46 [.string ⟨#[]⟩, .int .i64 0]
end Go.Proofs.Ythchcjjpplcfnaa
