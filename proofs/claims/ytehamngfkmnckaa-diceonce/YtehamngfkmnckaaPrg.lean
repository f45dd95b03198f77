/-
  What the program's dice must answer, as the laws want it; the law's examples.
-/
import Derived.Test.YtehamngfkmnckaaRefOrder
namespace Go.Proofs.Ytehamngfkmnckaa
open Go.RowKit

/-- An int of 64 bits. -/
def I64 (n : Int) : Prop := -9223372036854775808 ≤ n ∧ n ≤ 9223372036854775807
structure Prg : Prop where
  below : ∀ (draw n : Int) (w : World), I64 draw → I64 n → Calls Try.prog 7 #[.int .i64 draw, .int .i64 n] w fun e w' => e = .returned (.int .i64 (belowE draw n)) ∧ Below w.heap.size w w'
  next : ∀ (draw : Int) (w : World), I64 draw → Calls Try.prog 9 #[.int .i64 draw] w fun e w' => e = .returned (.int .i64 (nextE draw)) ∧ Below w.heap.size w w'
  order : ∀ (draw n : Int) (w : World), I64 draw → I64 n → Calls Try.prog 13 #[.int .i64 draw, .int .i64 n] w (MadeN w (ordI draw n))
theorem ordI_len (draw n : Int) : (ordI draw n).length ≤ 1000 := by
  unfold ordI
  split
  · simp
  · rw [ints_len, Dc.order_len]; omega
theorem ord03 : ordI 0 3 = [0, 1, 2] := by decide
theorem ord53 : ordI 5 3 = [2, 1, 0] := by decide
theorem three_new (W : World) (x y z : Int) : Sn (W.alloc (.cells #[.int .i64 x, .int .i64 y, .int .i64 z] 3)) (some ⟨W.heap.size, 0, none⟩) [x, y, z] := VRow.sn (VRow.new W 3 (nums [x, y, z]))

set_option maxRecDepth 100000 in
set_option maxHeartbeats 1000000 in
theorem awake_any (P : Prg) (w : World) : Calls Try.prog 11 #[] w fun e w' => e = .returned (.bool true) ∧ Below w.heap.size w w' := by
  have KB := hide fun W => P.below 7 3 W (by unfold I64; omega) (by unfold I64; omega)
  rw [show belowE 7 3 = 1 by decide] at KB
  have K1 := hide fun W => P.order 0 3 W (by unfold I64; omega) (by unfold I64; omega)
  have K2 := hide fun W => P.order 5 3 W (by unfold I64; omega) (by unfold I64; omega)
  rw [ord03] at K1
  rw [ord53] at K2
  clear P
  go_enter Try.func11, Try.ntmps11
  go_wp2_with fail
  refine (unhide KB _).mono ?_
  rintro e w1 ⟨rfl, hb⟩
  have HB := hide hb
  clear hb
  go_wp2_with fail
  refine (unhide K1 _).mono ?_
  rintro e w2 ⟨r2, c2, rfl, hc2, hs2, hb⟩
  have HB2 := hide (below_grow (unhide HB) (Nat.le_refl _) hb)
  have KS := hide (refSame_any r2 (some ⟨w2.heap.size, 0, none⟩) c2 3 [0, 1, 2] [0, 1, 2] (by simp) (by simp) _ (hs2.after (below_alloc' _)) (three_new w2 0 1 2) true (by simp))
  have HBA := hide (below_grow (unhide HB2) (Nat.le_refl _) (below_alloc' (.cells #[.int .i64 0, .int .i64 1, .int .i64 2] 3)))
  clear hb hs2 hc2 HB HB2
  go_wp2_with fail
  refine (unhide KS).mono ?_
  rintro e w3 ⟨rfl, hb⟩
  have HB := hide (below_grow (unhide HBA) (Nat.le_refl _) hb)
  clear hb HBA KS
  go_wp2_with fail
  refine (unhide K2 _).mono ?_
  rintro e w4 ⟨r4, c4, rfl, hc4, hs4, hb⟩
  have HB2 := hide (below_grow (unhide HB) (Nat.le_refl _) hb)
  have KS := hide (refSame_any r4 (some ⟨w4.heap.size, 0, none⟩) c4 3 [2, 1, 0] [2, 1, 0] (by simp) (by simp) _ (hs4.after (below_alloc' _)) (three_new w4 2 1 0) true (by simp))
  have HBA := hide (below_grow (unhide HB2) (Nat.le_refl _) (below_alloc' (.cells #[.int .i64 2, .int .i64 1, .int .i64 0] 3)))
  clear hb hs4 hc4 HB HB2
  go_wp2_with fail
  refine (unhide KS).mono ?_
  rintro e w5 ⟨rfl, hb⟩
  have HB := hide (below_grow (unhide HBA) (Nat.le_refl _) hb)
  clear hb HBA KS
  go_wp2_with fail
  go_ret
  exact ⟨rfl, unhide HB⟩

set_option maxRecDepth 100000 in
set_option maxHeartbeats 1000000 in
theorem draws_any (P : Prg) (draw n : Int) (hd : I64 draw) (hn : I64 n) (w : World) : Calls Try.prog 3 #[.int .i64 draw, .int .i64 n] w fun e w' => e = .returned (.bool true) ∧ Below w.heap.size w w' := by
  have K1 := hide fun W => P.below draw n W hd hn
  have K2 := hide fun W => refBelow_any draw n hn.2 W
  have K3 := hide fun W => P.next draw W hd
  have K4 := hide fun W => refNext_any draw W
  have K5 := hide fun W => awake_any P W
  generalize belowE draw n = B at K1 K2
  generalize nextE draw = X at K3 K4
  clear P hd hn
  go_enter Try.func3, Try.ntmps3
  go_wp2_with fail
  refine (unhide K1 _).mono ?_
  rintro e w1 ⟨rfl, hb⟩
  have HB := hide hb
  clear hb
  go_wp2_with fail
  refine (unhide K2 _).mono ?_
  rintro e w2 ⟨rfl, rfl⟩
  go_wp2_with fail
  refine (unhide K3 _).mono ?_
  rintro e w3 ⟨rfl, hb⟩
  replace HB := hide (below_grow (unhide HB) (Nat.le_refl _) hb)
  clear hb
  go_wp2_with fail
  refine (unhide K4 _).mono ?_
  rintro e w4 ⟨rfl, rfl⟩
  go_wp2_with fail
  refine (unhide K5 _).mono ?_
  rintro e w5 ⟨rfl, hb⟩
  replace HB := hide (below_grow (unhide HB) (Nat.le_refl _) hb)
  clear hb
  go_wp2_with fail
  go_ret
  exact ⟨rfl, unhide HB⟩

set_option maxRecDepth 100000 in
set_option maxHeartbeats 1000000 in
theorem orders_any (P : Prg) (draw n : Int) (hd : I64 draw) (hn : I64 n) (w : World) : Calls Try.prog 4 #[.int .i64 draw, .int .i64 n] w fun e w' => e = .returned (.bool true) ∧ Below w.heap.size w w' := by
  have K1 := hide fun W => P.order draw n W hd hn
  have K2 := hide fun W => refOrder_any draw n W
  have K5 := hide fun W => awake_any P W
  have hl := ordI_len draw n
  generalize ordI draw n = L at K1 K2 hl
  clear P hd hn
  have tail : Hid (∀ W, Below w.heap.size w W → Calls Try.prog 11 #[] W fun e w' => e = .returned (.bool true) ∧ Below w.heap.size w w') := hide (fun W hW => (unhide K5 W).mono fun _ _ ⟨h1, h2⟩ => ⟨h1, below_grow hW (Nat.le_refl _) h2⟩)
  clear K5
  by_cases h1 : 200 < n ∧ n ≤ 1000
  · have d1 : decide (200 < n) = true := decide_eq_true h1.1
    have d2 : decide (n ≤ 1000) = true := decide_eq_true h1.2
    clear h1
    go_enter Try.func4, Try.ntmps4
    go_wp2_with fail
    refine (unhide tail _ (Below.refl _ _)).mono ?_
    rintro e w1 ⟨rfl, hb⟩
    have HB := hide hb
    clear hb
    go_wp2_with fail
    go_ret
    exact ⟨rfl, unhide HB⟩
  · have rest : Hid (decide (200 < n) = false ∨ (decide (200 < n) = true ∧ decide (n ≤ 1000) = false)) := hide (by
      by_cases h2 : 200 < n
      · exact .inr ⟨decide_eq_true h2, decide_eq_false (fun h => h1 ⟨h2, h⟩)⟩
      · exact .inl (decide_eq_false h2))
    clear h1
    rcases unhide rest with d1 | ⟨d1, d2⟩
    all_goals
      clear rest
      go_enter Try.func4, Try.ntmps4
      go_wp2_with fail
      refine (unhide K1 _).mono ?_
      rintro e w1 ⟨r1, c1, rfl, hc1, hs1, hb⟩
      have HB := hide hb
      have S1 := hide hs1
      clear hb hc1 hs1
      go_wp2_with fail
      refine (unhide K2 _).mono ?_
      rintro e w2 ⟨r2, c2, rfl, hc2, hs2, hb⟩
      have KS := hide (refSame_any r1 r2 c1 c2 L L (by omega) (by omega) w2 ((unhide S1).after hb) hs2 true (by simp))
      replace HB := hide (below_grow (unhide HB) (Nat.le_refl _) hb)
      clear hb hc2 hs2 S1
      go_wp2_with fail
      refine (unhide KS).mono ?_
      rintro e w3 ⟨rfl, hb⟩
      have KT := hide (unhide tail w3 (below_grow (unhide HB) (Nat.le_refl _) hb))
      clear hb HB KS
      go_wp2_with fail
      refine (unhide KT).mono ?_
      rintro e w4 ⟨rfl, hb⟩
      have HB := hide hb
      clear hb KT
      go_wp2_with fail
      go_ret
      exact ⟨rfl, unhide HB⟩
end Go.Proofs.Ytehamngfkmnckaa
