/-
  The walk of the statement that what stands between two paths below a directory is below it, too.
-/
import Derived.Test.YtdibhedofbnbfabUnder
namespace Go.Proofs.Ytdibhedofbnbfab
open Go.RowKit

/-- long, at texts in a row. -/
theorem long_row (ss : List ByteArray) (n : Nat) (hn : ss.length = n) (h0 : 0 < n) (h1 : n ≤ 100) (W : World) (g T : Nat) (hr : VRow W g T (ss.map Value.string)) (L : Bool) (hL : (ss.any fun x => decide (400 < x.size)) = L) :
    Calls Try.prog 4 #[.slice (some ⟨g, 0, none⟩) n n] W fun e w' => e = .returned (.bool L) ∧ w' = W := by
  subst hn
  refine long_any g 0 ss.length ss _ (fun _ => rfl) (by unfold maxLen; omega) _ ?_ L hL.symm
  intro i x hx
  rw [Nat.zero_add]
  exact hr.cell i _ (by rw [List.getElem?_map, hx]; rfl)

theorem small_all (ss : List ByteArray) (h : (ss.any fun x => decide (400 < x.size)) = false) : ∀ x ∈ ss, x.size ≤ 400 := by
  intro x hx
  have := List.any_eq_false.1 h x hx
  rw [decide_eq_true_eq] at this
  omega

set_option maxRecDepth 100000 in
set_option maxHeartbeats 2000000 in
theorem tog_walk (a b c d : ByteArray) (w : World) :
    Calls Try.prog 3 #[.agg #[.string a, .string b, .string c], .string d] w fun e w' => e = .returned (.bool true) ∧ Below w.heap.size w w' := by
  have hbox : ∀ w : World, (Instr.box 22 (.agg #[.string a, .string b, .string c])).run Try.prog w = .ok (.pointer (some ⟨w.heap.size, 0, none⟩)) (w.alloc (.cells #[.string a, .string b, .string c] 22)) := by
    intro w
    kernel_rfl
  obtain ⟨L, hL⟩ : ∃ L, ([a, b, d, c].any fun x => decide (400 < x.size)) = L := ⟨_, rfl⟩
  have HL := hide hL
  clear hL
  go_enter Try.func3, Try.ntmps3
  go_wp2_with fail
  go_quiet (fail)
  go_wp2_with fail
  have HR1 : Hid (VRow (((w.alloc (.cells #[.string a, .string b, .string c] 22)).alloc (.cells ([a, b, d, c].map Value.string).toArray 9)).drewN nq) (w.heap.size + 1) 9 ([a, b, d, c].map Value.string)) := hide ((VRow.newAt (by simp)).drewN nq)
  refine (long_row [a, b, d, c] 4 rfl (by decide) (by decide) _ _ 9 (unhide HR1) L (unhide HL)).mono ?_
  rintro e w1 ⟨rfl, rfl⟩
  have HB1 := hide (below_drewN (((Below.refl w.heap.size w).alloc (Nat.le_refl _) (.cells #[.string a, .string b, .string c] 22)).alloc (by simp) (.cells ([a, b, d, c].map Value.string).toArray 9)) nq)
  cases L with
  | true =>
    go_wp2_with fail
    refine (awake_any _).mono ?_
    rintro e w9 ⟨rfl, hb9⟩
    have HB9 := hide (below_grow (unhide HB1) (Nat.le_refl _) hb9)
    clear hb9
    go_wp2_with fail
    go_ret
    exact ⟨rfl, unhide HB9⟩
  | false =>
    have hsm := small_all _ (unhide HL)
    have ha := hsm a (by simp)
    have hb := hsm b (by simp)
    have hd := hsm d (by simp)
    have hc := hsm c (by simp)
    have HT := hide (Pt.together a.data.toList b.data.toList c.data.toList d.data.toList)
    have K1 := hide (under_any a d (by omega))
    have K2 := hide (under_any b d (by omega))
    have K3 := hide (check_any c (by omega))
    have K4 := hide (compare_any a c (by unfold maxLen; omega) (by unfold maxLen; omega))
    have K5 := hide (compare_any c b (by unfold maxLen; omega) (by unfold maxLen; omega))
    have K6 := hide (under_any c d (by omega))
    have HC := hide (Pt.check_ok c.data.toList)
    clear hsm ha hb hd hc HL
    generalize Pt.under a.data.toList d.data.toList = U1 at *
    generalize Pt.under b.data.toList d.data.toList = U2 at *
    generalize Pt.under c.data.toList d.data.toList = U3 at *
    generalize Pt.cmpT a.data.toList c.data.toList = X at *
    generalize Pt.cmpT c.data.toList b.data.toList = Y at *
    generalize Pt.check c.data.toList = C at *
    generalize Pt.isPath c.data.toList = P at *
    go_wp2_with fail
    refine (unhide K1 _).mono ?_
    rintro e w1 ⟨rfl, hb1⟩
    have HB2 := hide (below_grow (unhide HB1) (Nat.le_refl _) hb1)
    clear hb1
    cases U1 with
    | false =>
      go_wp2_with fail
      refine (awake_any _).mono ?_
      rintro e w9 ⟨rfl, hb9⟩
      have HB9 := hide (below_grow (unhide HB2) (Nat.le_refl _) hb9)
      clear hb9
      go_wp2_with fail
      go_ret
      exact ⟨rfl, unhide HB9⟩
    | true =>
      go_wp2_with fail
      refine (unhide K2 _).mono ?_
      rintro e w2 ⟨rfl, hb2⟩
      have HB3 := hide (below_grow (unhide HB2) (Nat.le_refl _) hb2)
      clear hb2
      cases U2 with
      | false =>
        go_wp2_with fail
        refine (awake_any _).mono ?_
        rintro e w9 ⟨rfl, hb9⟩
        have HB9 := hide (below_grow (unhide HB3) (Nat.le_refl _) hb9)
        clear hb9
        go_wp2_with fail
        go_ret
        exact ⟨rfl, unhide HB9⟩
      | true =>
        go_wp2_with fail
        refine (unhide K3 _).mono ?_
        rintro e w3 ⟨rfl, hb3⟩
        have HB4 := hide (below_grow (unhide HB3) (Nat.le_refl _) hb3)
        clear hb3
        by_cases hC : C = 0
        · subst hC
          go_wp2_with fail
          refine (unhide K4 _).mono ?_
          rintro e w4 ⟨rfl, n4, rfl⟩
          by_cases hX : 0 < X
          · have hXd : decide (0 < X) = true := decide_eq_true hX
            go_wp2_with fail
            refine (awake_any _).mono ?_
            rintro e w9 ⟨rfl, hb9⟩
            have HB9 := hide (below_grow (below_drewN (unhide HB4) _) (Nat.le_refl _) hb9)
            clear hb9
            go_wp2_with fail
            go_ret
            exact ⟨rfl, unhide HB9⟩
          · have hXd : decide (0 < X) = false := decide_eq_false hX
            go_wp2_with fail
            refine (unhide K5 _).mono ?_
            rintro e w5 ⟨rfl, n5, rfl⟩
            by_cases hY : 0 < Y
            · have hYd : decide (0 < Y) = true := decide_eq_true hY
              go_wp2_with fail
              refine (awake_any _).mono ?_
              rintro e w9 ⟨rfl, hb9⟩
              have HB9 := hide (below_grow (below_drewN (unhide HB4) _) (Nat.le_refl _) hb9)
              clear hb9
              go_wp2_with fail
              go_ret
              exact ⟨rfl, unhide HB9⟩
            · have hYd : decide (0 < Y) = false := decide_eq_false hY
              obtain rfl : U3 = true := unhide HT trivial trivial ((unhide HC).1 trivial) (by omega) (by omega)
              go_wp2_with fail
              refine (unhide K6 _).mono ?_
              rintro e w6 ⟨rfl, hb6⟩
              have HB6 := hide (below_grow (below_drewN (unhide HB4) _) (Nat.le_refl _) hb6)
              clear hb6
              go_wp2_with fail
              refine (awake_any _).mono ?_
              rintro e w9 ⟨rfl, hb9⟩
              have HB9 := hide (below_grow (unhide HB6) (Nat.le_refl _) hb9)
              clear hb9
              go_wp2_with fail
              go_ret
              exact ⟨rfl, unhide HB9⟩
        · have hCd : (C != 0) = true := bne_iff_ne.2 hC
          go_wp2_with fail
          refine (awake_any _).mono ?_
          rintro e w9 ⟨rfl, hb9⟩
          have HB9 := hide (below_grow (unhide HB4) (Nat.le_refl _) hb9)
          clear hb9
          go_wp2_with fail
          go_ret
          exact ⟨rfl, unhide HB9⟩
end Go.Proofs.Ytdibhedofbnbfab
