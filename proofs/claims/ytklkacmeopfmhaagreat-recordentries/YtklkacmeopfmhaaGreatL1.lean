/-
  The walks of the statements on which bytes a vector and a leaf have, and on what bytes are. Conditions: those that each theorem names.
-/
import Derived.Test.YtklkacmeopfmhaaGreatR6
import Derived.Test.YtklkacmeopfmhaaGreatR1
import Derived.Test.YtklkacmeopfmhaaGreatGreat
import Derived.Test.YtklkacmeopfmhaaGreatShort
import Derived.Test.YtklkacmeopfmhaaGreatRefSame
namespace Go.Proofs.YtklkacmeopfmhaaGreat
open Go.RowKit

theorem sl_two {W : World} {D T : Nat} {a b c d : Int} (h : VRow W D T [.int .i64 a, .int .i64 b, .int .i64 c, .int .i64 d]) : Sl W (some ⟨D, 0, none⟩) [(a, b), (c, d)] := fun _ => by
  refine ⟨D, 0, rfl, h.lt, fun j x hj => ?_⟩
  have hj0 : j = 0 ∨ j = 1 := by have := (List.getElem?_eq_some_iff.1 hj).1; simp at this; omega
  rcases hj0 with rfl | rfl
  · simp at hj
    subst hj
    exact ⟨h.cell 0 _ rfl, h.cell 1 _ rfl⟩
  · simp at hj
    subst hj
    exact ⟨h.cell 2 _ rfl, h.cell 3 _ rfl⟩
theorem example_bytes : wVec ([], 0) [(0, 2), (3, 1)] = ([2, 0, 2, 3, 1], 0) := by decide +kernel

set_option maxRecDepth 100000 in
set_option maxHeartbeats 400000 in
theorem awake_any (w : World) : Calls Tryz.prog 4 #[] w fun e w' => e = .returned (.bool true) ∧ Below w.heap.size w w' := by
  have HB := hide (below_alloc' (w := w) (.cells #[.int .i64 0, .int .i64 2, .int .i64 3, .int .i64 1] 52))
  have K := hide (vec_any (some ⟨w.heap.size, 0, none⟩) 2 [(0, 2), (3, 1)] (by simp) _ (sl_two (VRow.new w 52 [.int .i64 0, .int .i64 2, .int .i64 3, .int .i64 1])))
  rw [example_bytes] at K
  rw [show str (told ([2, 0, 2, 3, 1], 0)) = ⟨#[2, 0, 2, 3, 1]⟩ from rfl] at K
  go_enter Tryz.func4, Tryz.ntmps4
  go_wp2_with fail
  refine (unhide K).mono ?_
  rintro e w1 ⟨rfl, hb⟩
  have HB1 := hide (below_grow (unhide HB) (Nat.le_refl _) hb)
  clear hb
  go_wp2_with fail
  go_ret
  exact ⟨rfl, unhide HB1⟩

/-- Whether one leaf is too much. -/
def Great1 (a : List Vc.V) (w : World) (e : Ending) (w' : World) : Prop := ∃ B : Bool, e = .returned (.bool B) ∧ w' = w ∧ (B = false → a.length ≤ 70)
theorem great1 (w : World) (ra : Option Addr) (ca : Nat) (a : List Vc.V) (ha : SV w ra a) :
    Calls Tryz.prog 5 #[.slice (some ⟨w.heap.size, 0, none⟩) 1 1] (w.alloc (.cells #[.slice ra a.length ca] 32)) (Great1 a (w.alloc (.cells #[.slice ra a.length ca] 32))) := by
  have hr := VRow.new w 32 [.slice ra a.length ca]
  refine (great_any w.heap.size 1 (by decide) (fun _ => ra) (fun _ => ca) (fun _ => a) _ (fun j hj => ?_) (fun j hj => ?_)).mono ?_
  · obtain rfl : j = 0 := by omega
    exact hr.cell 0 _ rfl
  · exact ha.after (below_alloc' _)
  · rintro e w' ⟨B, h1, h2, h3⟩
    exact ⟨B, h1, h2, fun h => (h3 h 0 (by decide)).1⟩

theorem ofVec_len (s : List UInt8) : (ofVec s).1.length ≤ 64 := by
  unfold ofVec
  dsimp only
  split
  · simp
  · exact rVec_len _
theorem ofLeaf_few (s : List UInt8) : Few (ofLeaf s).1 := by
  unfold ofLeaf
  dsimp only
  split
  · exact ⟨by simp, fun v hv => by cases hv⟩
  · exact ⟨by have := rLeaf_len (s, 0); omega, fun v hv => by have := rLeaf_past (s, 0) v hv; omega⟩

end Go.Proofs.YtklkacmeopfmhaaGreat
