/-
  Whether a node is empty, and chapter 14's example. Conditions: none but those that each theorem names.
-/
import Derived.Test.YthchcjjpplcfnaaDoorN3
namespace Go.Proofs.YthchcjjpplcfnaaDoor
open Go.RowKit

def empN (n : Nd) : Bool := decide (n.vs.length = 0) && decide (n.ks.length = 0)
set_option maxRecDepth 100000 in
set_option maxHeartbeats 400000 in
theorem empty_any (a : Option Addr) (c : Nat) (b : Option Addr) (d : Nat) (n : Nd) (w : World) :
    Calls Tryd.prog 13 #[.agg (ndL n a c b d).toArray] w fun e w' => e = .returned (.bool (empN n)) ∧ Below w.heap.size w w' := by
  have HB0 := hide (below_alloc' (w := w) (.cells (ndL n a c b d).toArray 25))
  have hr := VRow.new w 25 (ndL n a c b d)
  have x0 : (w.alloc (.cells (ndL n a c b d).toArray 25)).cell? ⟨w.heap.size, 0, none⟩ = some (.slice a n.vs.length c) := hr.cell 0 _ rfl
  have x1 : (w.alloc (.cells (ndL n a c b d).toArray 25)).cell? ⟨w.heap.size, 1, none⟩ = some (.slice b n.ks.length d) := hr.cell 1 _ rfl
  have HE : Hid ((((n.vs.length : Nat) : Int) == 0) = decide (n.vs.length = 0)) := hide (by rw [Bool.eq_iff_iff, beq_iff_eq, decide_eq_true_eq]; omega)
  have HE2 : Hid ((((n.ks.length : Nat) : Int) == 0) = decide (n.ks.length = 0)) := hide (by rw [Bool.eq_iff_iff, beq_iff_eq, decide_eq_true_eq]; omega)
  unfold empN
  generalize decide (n.vs.length = 0) = V at HE ⊢
  generalize decide (n.ks.length = 0) = K at HE2 ⊢
  clear hr
  unfold ndL at *
  go_enter Tryd.func13, Tryd.ntmps13
  cases V with
  | true =>
    have hv := unhide HE
    go_wp2_with fail
    go_ret
    refine ⟨ret_bool ?_, unhide HB0⟩
    simpa using unhide HE2
  | false =>
    have hv := unhide HE
    go_wp2_with fail
    go_ret
    exact ⟨rfl, unhide HB0⟩

def zN : Nd := ⟨[], []⟩
theorem zN_ok : Nok zN where
  few := ⟨Nat.zero_le _, fun v h => nomatch (show v ∈ [] from h)⟩
  kids := Nat.zero_le _
  digs := fun k h => nomatch (show k ∈ [] from h)
  names := fun k h => nomatch (show k ∈ [] from h)
theorem zN_at (w : World) : NdAt w zN none 0 none 0 := ⟨Nat.le_refl _, Nat.le_refl _, SV.none _ _, SK.none _ _⟩
theorem zN_bytes : bytesN zN = ([0, 0], 0) := by decide +kernel
set_option maxRecDepth 100000 in
set_option maxHeartbeats 1000000 in
theorem awakeN_any (w : World) : Calls Tryd.prog 5 #[] w fun e w' => e = .returned (.bool true) ∧ Below w.heap.size w w' := by
  have KB : Hid (Calls Tryd.prog 6 #[.agg #[.slice none 0 0, .slice none 0 0]] w fun e w' => e = .returned (.tuple #[.string ⟨#[0, 0]⟩, .int .i64 0]) ∧ Below w.heap.size w w') := hide (by
    have h := bytesN_any none 0 none 0 zN zN_ok w (zN_at w)
    rw [zN_bytes] at h
    exact h)
  have KE : Hid (∀ W, Calls Tryd.prog 13 #[.agg #[.slice none 0 0, .slice none 0 0]] W fun e w' => e = .returned (.bool true) ∧ Below W.heap.size W w') := hide fun W => empty_any none 0 none 0 zN W
  go_enter Tryd.func5, Tryd.ntmps5
  go_wp2_with fail
  refine (unhide KB).mono ?_
  rintro e w1 ⟨rfl, hb⟩
  have HB := hide hb
  clear hb
  go_wp2_with fail
  refine (unhide KE _).mono ?_
  rintro e w2 ⟨rfl, hb⟩
  have HB2 := hide (below_grow (unhide HB) (Nat.le_refl _) hb)
  clear hb
  go_wp2_with fail
  go_ret
  exact ⟨rfl, unhide HB2⟩
end Go.Proofs.YthchcjjpplcfnaaDoor
