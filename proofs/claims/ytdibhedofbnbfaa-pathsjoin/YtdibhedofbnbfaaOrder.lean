/-
  The walk of the statement on which of two texts stands ahead.
-/
import Derived.Test.YtdibhedofbnbfaaRefCmp
namespace Go.Proofs.Ytdibhedofbnbfaa
open Go.RowKit

/-- long, at texts in a row. -/
theorem long_row (ss : List ByteArray) (n : Nat) (hn : ss.length = n) (h0 : 0 < n) (h1 : n ≤ 100) (W : World) (g T : Nat) (hr : VRow W g T (ss.map Value.string)) (L : Bool) (hL : (ss.any fun x => decide (400 < x.size)) = L) :
    Calls Try.prog 9 #[.slice (some ⟨g, 0, none⟩) n n] W fun e w' => e = .returned (.bool L) ∧ w' = W := by
  subst hn
  refine long_any g 0 ss.length ss _ (fun _ => rfl) (by unfold maxLen; omega) _ ?_ L hL.symm
  intro i x hx
  rw [Nat.zero_add]
  exact hr.cell i _ (by rw [List.getElem?_map, hx]; rfl)

theorem small_all (ss : List ByteArray) (h : (ss.any fun x => decide (400 < x.size)) = false) : ∀ x ∈ ss, x.size ≤ 400 := by
  intro x hx
  have := List.any_eq_false.1 h x hx
  rw [decide_eq_true_eq] at this
  omega

set_option maxRecDepth 100000 in
set_option maxHeartbeats 1000000 in
theorem order_walk (a b : ByteArray) (w : World) :
    Calls Try.prog 6 #[.string a, .string b] w fun e w' => e = .returned (.bool true) ∧ Below w.heap.size w w' := by
  obtain ⟨L, hL⟩ : ∃ L, ([a, b].any fun x => decide (400 < x.size)) = L := ⟨_, rfl⟩
  have HL := hide hL
  clear hL
  go_enter Try.func6, Try.ntmps6
  go_wp2_with fail
  refine (long_row [a, b] 2 rfl (by decide) (by decide) _ w.heap.size 9 (VRow.new w 9 ([a, b].map Value.string)) L (unhide HL)).mono ?_
  rintro e w1 ⟨rfl, rfl⟩
  have HB1 := hide ((Below.refl w.heap.size w).alloc (Nat.le_refl _) (.cells ([a, b].map Value.string).toArray 9))
  cases L with
  | true =>
    go_wp2_with fail
    refine (awake_any _).mono ?_
    rintro e w9 ⟨rfl, hb9⟩
    have HB9 := hide (below_grow (unhide HB1) (Nat.le_refl _) hb9)
    clear hb9
    go_wp2_with fail
    go_ret
    exact ⟨rfl, unhide HB9⟩
  | false =>
    have hsm := small_all _ (unhide HL)
    have ha := hsm a (by simp)
    have hb := hsm b (by simp)
    have K1 := hide (compare_any a b (by unfold maxLen; omega) (by unfold maxLen; omega))
    have K2 := hide (refCompare_any a b (by omega) (by omega))
    clear hsm ha hb HL
    generalize Pt.cmpT a.data.toList b.data.toList = X at *
    go_wp2_with fail
    refine (unhide K1 _).mono ?_
    rintro e w2 ⟨rfl, n2, rfl⟩
    go_wp2_with fail
    refine (unhide K2 _).mono ?_
    rintro e w3 ⟨rfl, hb3⟩
    have HB3 := hide (below_grow (below_drewN (unhide HB1) _) (Nat.le_refl _) hb3)
    clear hb3
    go_wp2_with fail
    refine (awake_any _).mono ?_
    rintro e w9 ⟨rfl, hb9⟩
    have HB9 := hide (below_grow (unhide HB3) (Nat.le_refl _) hb9)
    clear hb9
    go_wp2_with fail
    go_ret
    exact ⟨rfl, unhide HB9⟩
end Go.Proofs.Ytdibhedofbnbfaa
