/-
  The walk of the statement on what some texts come to.
-/
import Derived.Test.YtdibhedofbnbfaaJoin
import Derived.Test.YtdibhedofbnbfaaOrder
namespace Go.Proofs.Ytdibhedofbnbfaa
open Go.RowKit

/-- long, at a slice of texts, wherever it lies. -/
theorem long_sl (a : Option Addr) (cap : Nat) (bs : List ByteArray) (hb : bs.length ≤ maxLen) (w : World) (h : Sl w a bs) (L : Bool) (hL : (bs.any fun x => decide (400 < x.size)) = L) :
    Calls Try.prog 9 #[.slice a bs.length cap] w fun e w' => e = .returned (.bool L) ∧ w' = w := by
  by_cases h0 : 0 < bs.length
  · obtain ⟨g, o, rfl, _, hc⟩ := h h0
    exact long_any g o cap bs _ (fun _ => rfl) hb w hc L hL.symm
  · refine long_any 0 0 cap bs _ (fun h => absurd h h0) hb w (fun i x hx => ?_) L hL.symm
    have := (List.getElem?_eq_some_iff.1 hx).1
    omega

set_option maxRecDepth 100000 in
set_option maxHeartbeats 1000000 in
theorem joinlaw_walk (a : Option Addr) (cap : Nat) (bs : List ByteArray) (hb : bs.length ≤ maxLen) (hcap : bs.length ≤ cap) (w : World) (hsl : Sl w a bs) :
    Calls Try.prog 4 #[.slice a bs.length cap] w fun e w' => e = .returned (.bool true) ∧ Below w.heap.size w w' := by
  have HSL := hide hsl
  have HB := hide hb
  unfold maxLen at hb
  clear hsl
  by_cases h20 : 20 < bs.length
  · have HB1 := hide (Below.refl w.heap.size w)
    go_enter Try.func4, Try.ntmps4
    go_wp2_with fail
    refine (awake_any _).mono ?_
    rintro e w9 ⟨rfl, hb9⟩
    have HB9 := hide (below_grow (unhide HB1) (Nat.le_refl _) hb9)
    clear hb9
    go_wp2_with fail
    go_ret
    exact ⟨rfl, unhide HB9⟩
  · obtain ⟨L, hL⟩ : ∃ L, (bs.any fun x => decide (400 < x.size)) = L := ⟨_, rfl⟩
    have HL := hide hL
    have K0 := hide (long_sl a cap bs (unhide HB) w (unhide HSL) L hL)
    have HB1 := hide (Below.refl w.heap.size w)
    clear hL
    go_enter Try.func4, Try.ntmps4
    go_wp2_with fail
    refine (unhide K0).mono ?_
    rintro e w1 ⟨rfl, rfl⟩
    cases L with
    | true =>
      go_wp2_with fail
      refine (awake_any _).mono ?_
      rintro e w9 ⟨rfl, hb9⟩
      have HB9 := hide (below_grow (unhide HB1) (Nat.le_refl _) hb9)
      clear hb9
      go_wp2_with fail
      go_ret
      exact ⟨rfl, unhide HB9⟩
    | false =>
      have hsm := small_all _ (unhide HL)
      obtain ⟨J, E, hJ⟩ := join_ex (lists bs)
      have K1 := hide (join_any a cap bs (by omega) hcap (fun x hx => by have := hsm x hx; omega) w1 (unhide HSL) J E hJ)
      have K2 := hide fun w' (h : Sl w' a bs) => refJoin_any a cap bs (by omega) (fun x hx => by have := hsm x hx; omega) w' h J E hJ
      clear hsm hJ HL K0
      go_wp2_with fail
      refine (unhide K1).mono ?_
      rintro e w2 ⟨rfl, hb2⟩
      have HB2 := hide hb2
      have HS2 := hide ((unhide HSL).after hb2)
      clear hb2
      go_wp2_with fail
      refine (unhide K2 _ (unhide HS2)).mono ?_
      rintro e w3 ⟨rfl, rfl⟩
      go_wp2_with fail
      refine (awake_any _).mono ?_
      rintro e w9 ⟨rfl, hb9⟩
      have HB9 := hide (below_grow (unhide HB2) (Nat.le_refl _) hb9)
      clear hb9
      go_wp2_with fail
      go_ret
      exact ⟨rfl, unhide HB9⟩
end Go.Proofs.Ytdibhedofbnbfaa
