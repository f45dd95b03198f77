/-
  The walk of the statement on names and paths.
-/
import Derived.Test.YtdibhedofbnbfaaParts
import Derived.Test.YtdibhedofbnbfaaOrder
namespace Go.Proofs.Ytdibhedofbnbfaa
open Go.RowKit

set_option maxRecDepth 100000 in
set_option maxHeartbeats 1000000 in
theorem chk_walk (s : ByteArray) (w : World) :
    Calls Try.prog 3 #[.string s] w fun e w' => e = .returned (.bool true) ∧ Below w.heap.size w w' := by
  obtain ⟨L, hL⟩ : ∃ L, ([s].any fun x => decide (400 < x.size)) = L := ⟨_, rfl⟩
  have HL := hide hL
  clear hL
  go_enter Try.func3, Try.ntmps3
  go_wp2_with fail
  refine (long_row [s] 1 rfl (by decide) (by decide) _ w.heap.size 9 (VRow.new w 9 ([s].map Value.string)) L (unhide HL)).mono ?_
  rintro e w1 ⟨rfl, rfl⟩
  have HB1 := hide ((Below.refl w.heap.size w).alloc (Nat.le_refl _) (.cells ([s].map Value.string).toArray 9))
  cases L with
  | true =>
    go_wp2_with fail
    refine (awake_any _).mono ?_
    rintro e w9 ⟨rfl, hb9⟩
    have HB9 := hide (below_grow (unhide HB1) (Nat.le_refl _) hb9)
    clear hb9
    go_wp2_with fail
    go_ret
    exact ⟨rfl, unhide HB9⟩
  | false =>
    have hsm := small_all _ (unhide HL)
    have hs := hsm s (by simp)
    have K1 := hide (name_any s (by omega))
    have K2 := hide (refName_any s (by omega))
    have K3 := hide (check_any s (by omega))
    have K4 := hide (refCheck_any s (by omega))
    have K5 := hide (parts_any s (by omega))
    have K6 := hide (refParts_any s (by omega))
    have HP4 := hide (Pt.parts_le s.data.toList)
    clear hsm hs HL
    generalize Pt.isName s.data.toList = N at *
    generalize Pt.check s.data.toList = C at *
    generalize Pt.parts s.data.toList = PS at *
    go_wp2_with fail
    refine (unhide K1 _).mono ?_
    rintro e w2 ⟨rfl, hb2⟩
    have HB2 := hide (below_grow (unhide HB1) (Nat.le_refl _) hb2)
    clear hb2
    go_wp2_with fail
    refine (unhide K2 _).mono ?_
    rintro e w3 ⟨rfl, rfl⟩
    go_wp2_with fail
    refine (unhide K3 _).mono ?_
    rintro e w4 ⟨rfl, hb4⟩
    have HB4 := hide (below_grow (unhide HB2) (Nat.le_refl _) hb4)
    clear hb4
    go_wp2_with fail
    refine (unhide K4 _).mono ?_
    rintro e w5 ⟨rfl, hb5⟩
    have HB5 := hide (below_grow (unhide HB4) (Nat.le_refl _) hb5)
    clear hb5
    go_wp2_with fail
    refine (unhide K5 _).mono ?_
    rintro e w6 ⟨a1, c1, bs, rfl, hl1, hc1, hs1, hb6⟩
    have HB6 := hide (below_grow (unhide HB5) (Nat.le_refl _) hb6)
    have HL1 := hide hl1
    have HS1 := hide hs1
    clear hb6 hl1 hs1 hc1
    go_wp2_with fail
    refine (unhide K6 _).mono ?_
    rintro e w7 ⟨a2, c2, cs, rfl, hl2, hc2, hs2, hb7⟩
    have HB7 := hide (below_grow (unhide HB6) (Nat.le_refl _) hb7)
    have HS1b := hide ((unhide HS1).after hb7)
    have HL2 := hide hl2
    have HS2 := hide hs2
    clear hb7 hl2 hs2 hc2
    go_wp2_with fail
    refine (same_any a1 a2 c1 c2 bs cs (by have h := congrArg List.length (unhide HL1); rw [size_lists] at h; have := unhide HP4; omega) w7 (unhide HS1b) (unhide HS2) true (by rw [unhide HL1, unhide HL2]; exact ⟨fun _ => rfl, fun _ => rfl⟩)).mono ?_
    rintro e w8 ⟨rfl, n8, rfl⟩
    go_wp2_with fail
    refine (awake_any _).mono ?_
    rintro e w9 ⟨rfl, hb9⟩
    have HB9 := hide (below_grow (below_drewN (unhide HB7) _) (Nat.le_refl _) hb9)
    clear hb9
    go_wp2_with fail
    go_ret
    exact ⟨rfl, unhide HB9⟩
end Go.Proofs.Ytdibhedofbnbfaa
