/-
  The walk of the statement on directories, last names, and what is below.
-/
import Derived.Test.YtdibhedofbnbfaaRefUp
import Derived.Test.YtdibhedofbnbfaaOrder
namespace Go.Proofs.Ytdibhedofbnbfaa
open Go.RowKit

set_option maxRecDepth 100000 in
set_option maxHeartbeats 1000000 in
theorem uplaw_walk (a b : ByteArray) (w : World) :
    Calls Try.prog 5 #[.string a, .string b] w fun e w' => e = .returned (.bool true) ∧ Below w.heap.size w w' := by
  obtain ⟨L, hL⟩ : ∃ L, ([a, b].any fun x => decide (400 < x.size)) = L := ⟨_, rfl⟩
  have HL := hide hL
  clear hL
  go_enter Try.func5, Try.ntmps5
  go_wp2_with fail
  refine (long_row [a, b] 2 rfl (by decide) (by decide) _ w.heap.size 9 (VRow.new w 9 ([a, b].map Value.string)) L (unhide HL)).mono ?_
  rintro e w1 ⟨rfl, rfl⟩
  have HB1 := hide ((Below.refl w.heap.size w).alloc (Nat.le_refl _) (.cells ([a, b].map Value.string).toArray 9))
  cases L with
  | true =>
    go_wp2_with fail
    refine (awake_any _).mono ?_
    rintro e w9 ⟨rfl, hb9⟩
    have HB9 := hide (below_grow (unhide HB1) (Nat.le_refl _) hb9)
    clear hb9
    go_wp2_with fail
    go_ret
    exact ⟨rfl, unhide HB9⟩
  | false =>
    have hsm := small_all _ (unhide HL)
    have ha := hsm a (by simp)
    have hb := hsm b (by simp)
    obtain ⟨U, hU⟩ : ∃ U : ByteArray, U.data.toList = Pt.up a.data.toList := ⟨ofList (Pt.up a.data.toList), by simp [ofList]⟩
    obtain ⟨V, hV⟩ : ∃ U : ByteArray, U.data.toList = Pt.last a.data.toList := ⟨ofList (Pt.last a.data.toList), by simp [ofList]⟩
    have K1 := hide (up_any a (by omega) U hU)
    have K2 := hide (refUp_any a (by omega) U hU)
    have K3 := hide (last_any a (by omega) V hV)
    have K4 := hide (refLast_any a (by omega) V hV)
    have K5 := hide (under_any a b (by omega))
    have K6 := hide (refUnder_any a b (by omega) (by omega))
    clear hsm ha hb HL hU hV
    generalize Pt.under a.data.toList b.data.toList = B at *
    go_wp2_with fail
    refine (unhide K1 _).mono ?_
    rintro e w2 ⟨rfl, hb⟩
    have HB2 := hide (below_grow (unhide HB1) (Nat.le_refl _) hb)
    clear hb
    go_wp2_with fail
    refine (unhide K2 _).mono ?_
    rintro e w3 ⟨rfl, hb⟩
    have HB3 := hide (below_grow (unhide HB2) (Nat.le_refl _) hb)
    clear hb
    go_wp2_with fail
    refine (unhide K3 _).mono ?_
    rintro e w4 ⟨rfl, hb⟩
    have HB4 := hide (below_grow (unhide HB3) (Nat.le_refl _) hb)
    clear hb
    go_wp2_with fail
    refine (unhide K4 _).mono ?_
    rintro e w5 ⟨rfl, hb⟩
    have HB5 := hide (below_grow (unhide HB4) (Nat.le_refl _) hb)
    clear hb
    go_wp2_with fail
    refine (unhide K5 _).mono ?_
    rintro e w6 ⟨rfl, hb⟩
    have HB6 := hide (below_grow (unhide HB5) (Nat.le_refl _) hb)
    clear hb
    go_wp2_with fail
    refine (unhide K6 _).mono ?_
    rintro e w7 ⟨rfl, hb⟩
    have HB7 := hide (below_grow (unhide HB6) (Nat.le_refl _) hb)
    clear hb
    go_wp2_with fail
    refine (awake_any _).mono ?_
    rintro e w9 ⟨rfl, hb9⟩
    have HB9 := hide (below_grow (unhide HB7) (Nat.le_refl _) hb9)
    clear hb9
    go_wp2_with fail
    go_ret
    exact ⟨rfl, unhide HB9⟩
end Go.Proofs.Ytdibhedofbnbfaa
