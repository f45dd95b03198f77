/-
  What the program's writer and reader must answer, as the laws want it; pieces in memory.
-/
import Derived.Test.YtklkacmeopfmhaaGreatCRefR
namespace Go.Proofs.YtklkacmeopfmhaaGreat
open Go.RowKit

/-- An int of 64 bits. -/
def I64 (n : Int) : Prop := -9223372036854775808 ≤ n ∧ n ≤ 9223372036854775807
/-- The cells of a Writer that has nothing. -/
abbrev zeroW : Array Value := #[.slice none 0 0, .int .i64 0]
/-- What is turned is owned, or new. -/
def Turned (X : World → Addr → St → (Nat → Prop) → Prop) (own : Nat → Prop) (p : Addr) (w : World) (st : St) (v : Value) (e : Ending) (w' : World) : Prop :=
  ∃ own' : Nat → Prop, e = .returned v ∧ X w' p st own' ∧ (∀ g, own' g → own g ∨ w.heap.size ≤ g) ∧ Beside own w w'
def Told (w : World) (v : Value) (e : Ending) (w' : World) : Prop := e = .returned v ∧ Below w.heap.size w w'
theorem below_beside {own : Nat → Prop} {n : Nat} {a w w' : World} (h : Below n a w) (hn : n ≤ a.heap.size) (ho : ∀ g, own g → n ≤ g) (hb : Beside own w w') : Below n a w' := h.trans (hb.below (Nat.le_trans hn h.size) ho)
theorem own_beside {own own' : Nat → Prop} {n : Nat} {a w : World} (h : Below n a w) (hn : n ≤ a.heap.size) (ho : ∀ g, own g → n ≤ g) (hb : ∀ g, own' g → own g ∨ w.heap.size ≤ g) : ∀ g, own' g → n ≤ g := fun g hg => by
  rcases hb g hg with h1 | h1
  · exact ho g h1
  · have := h.size; omega

theorem range_after {W W' : World} {g o : Nat} {cs : List Value} (h : W.rangeAt g o cs) (hg : g < W.heap.size) (hb : Below W.heap.size W W') : W'.rangeAt g o cs := fun j v hv => (hb.cell (p := ⟨g, o + j, none⟩) hg).trans (h j v hv)
theorem VRow.range {W : World} {B T : Nat} {vs : List Value} (h : VRow W B T vs) : W.rangeAt B 0 vs := fun j v hv => by rw [Nat.zero_add]; exact h.cell j v hv
end Go.Proofs.YtklkacmeopfmhaaGreat
