/-
  What the program's Order answers: what the draw tells; and that the program's dice answer all that the laws want.
-/
import Derived.Test.YtehamngfkmnckaaP3
namespace Go.Proofs.Ytehamngfkmnckaa
open Go.RowKit

theorem own_setT {w : World} {base size n T k : Nat} {v : Value} {xs vs : List Value} (h : w.ownsRow base 3 size v n xs) (hr : VRow w T 4 vs) (u : Value) : (w.setCell ⟨T, k, none⟩ u).ownsRow base 3 size v n xs := by
  refine ⟨h.1, ?_⟩
  rcases h.2 with h2 | ⟨g, cap, cur, e1, e2, e3, e4⟩
  · exact .inl h2
  · refine .inr ⟨g, cap, cur, e1, e2, (heap_setCell_other w ⟨T, k, none⟩ g u ?_).trans e3, e4⟩
    intro e
    have e' : g = T := e
    rw [e', show w.heap[T]? = _ from hr] at e3
    cases e3
theorem own_not {w : World} {base size n T : Nat} {v : Value} {xs vs : List Value} (h : w.ownsRow base 3 size v n xs) (hr : VRow w T 4 vs) : some T ≠ v.ownBlock := by
  rcases h.2 with ⟨rfl, _⟩ | ⟨g, cap, cur, rfl, e2, e3, e4⟩
  · simp [Value.ownBlock]
  · simp only [Value.ownBlock]
    intro e
    cases e
    rw [show w.heap[T]? = _ from hr] at e3
    cases e3
/-- Room for so many numbers, none of them there. -/
theorem make_room (n : Nat) (hn : n ≤ 100000) (w : World) : ∃ wm, (Instr.makeSlice 27 (.int .i64 0) (.int .i64 n)).run Try.prog w = .ok (.slice (some ⟨w.heap.size, 0, none⟩) 0 n) wm ∧ wm.ownsRow w.heap.size 3 1 (.slice (some ⟨w.heap.size, 0, none⟩) 0 n) 0 [] ∧ Below w.heap.size w wm := by
  obtain ⟨i0, hi, hz0, hz1, hz2⟩ := info_parts info3
  have hr := run_make (P := Try.prog) w 27 3 i0 (.int .i64 0) Try.underlying27 hi hz0 .i64 .i64 0 n (by omega) (by omega) (by rw [hz2]; omega) (by omega)
  rw [hz1] at hr
  simp only [Int.toNat_natCast, Nat.mul_one] at hr
  refine ⟨_, hr, ⟨rfl, .inr ⟨w.heap.size, n, _, rfl, Nat.le_refl _, heap_alloc_new w _, Nat.zero_le _, by unfold maxLen; omega, by simp [madeCells], by simp⟩⟩, below_alloc' _⟩

set_option maxRecDepth 100000 in
set_option maxHeartbeats 1000000 in
theorem Order_any (draw n : Int) (w : World) : Calls Try.prog 13 #[.int .i64 draw, .int .i64 n] w (MadeN w (ordI draw n)) := by
  unfold ordI
  obtain ⟨i0, hi, hz0, hz1, hz2⟩ := info_parts info3
  by_cases h1 : n < 1
  · have d1 : decide (n < 1) = true := decide_eq_true h1
    rw [if_pos (.inl h1)]
    go_enter Try.func13, Try.ntmps13
    go_wp2_with fail
    go_ret
    exact ⟨none, 0, rfl, Nat.le_refl _, Sn.none _ _, Below.refl _ _⟩
  · have d1 : decide (n < 1) = false := decide_eq_false h1
    by_cases h2 : 1000 < n
    · have d2 : decide (1000 < n) = true := decide_eq_true h2
      rw [if_pos (.inr h2)]
      go_enter Try.func13, Try.ntmps13
      go_wp2_with fail
      go_ret
      exact ⟨none, 0, rfl, Nat.le_refl _, Sn.none _ _, Below.refl _ _⟩
    · have d2 : decide (1000 < n) = false := decide_eq_false h2
      rw [if_neg (by omega)]
      obtain ⟨N, rfl⟩ : ∃ N : Nat, n = N := ⟨n.toNat, by omega⟩
      rw [Int.toNat_natCast]
      have hN : N ≤ 1000 := by omega
      have hN1 : 0 < N := by omega
      obtain ⟨L, hL⟩ : ∃ L, Dc.order (drawN draw) N = L := ⟨_, rfl⟩
      rw [hL]
      have hdr := drawN_is draw
      have hdl := drawN_lt draw
      have HL : Hid ([] ++ Dc.ordG (List.replicate N false) (drawN draw) N = L) := hide (by rw [List.nil_append]; exact hL)
      generalize drawN draw = D0 at HL hdr hdl
      obtain ⟨wr0, hmk0, hro, hbo⟩ := make_room N (by omega) w
      obtain ⟨wm, hmk, hrm, hbm⟩ := make_bools N (by omega) wr0
      have hT := hbo.size
      have HRM := hide hrm
      have HOM := hide (own_after hro hbm)
      have HBM := hide (below_grow hbo (Nat.le_refl _) hbm)
      clear hL h1 h2 hrm hbm hro hbo
      generalize wr0.heap.size = T at hmk hT HRM
      go_enter Try.func13, Try.ntmps13
      go_wp2_with fail
      go_loopw [5, 7, 8] (fun out d left wr => ∃ (m D : Nat) (g : List Bool) (done : List Nat), m ≤ N ∧ D < 18446744073709551616 ∧ left = .int .i64 m ∧ d = .int .u64 D ∧ Hid (g.length = N ∧ Dc.lefts g = m ∧ done ++ Dc.ordG g D m = L ∧ done.length ≤ 1000) ∧ Hid (VRow wr T 4 (bools g) ∧ wr.ownsRow w.heap.size 3 1 out done.length (nums (ints done)) ∧ Below w.heap.size w wr)) (fun _ _ left _ => (intOf left).toNat)
      case atStart => exact ⟨N, D0, List.replicate N false, [], Nat.le_refl _, hdl, rfl, by first | rfl | (rw [hdr]), hide ⟨by simp, Dc.lefts_none N, unhide HL, by simp⟩, hide ⟨unhide HRM, unhide HOM, unhide HBM⟩⟩
      case round =>
        obtain ⟨m, D, g, done, hm, hD, rfl, rfl, HG, HW⟩ := hrel
        by_cases hlt : 0 < m
        · have hmz : decide ((0 : Int) < (m : Int)) = true := decide_eq_true (by omega)
          have hq := div_is D m hD
          have hQ : D / m < 18446744073709551616 := Nat.lt_of_le_of_lt (Nat.div_le_self D m) hD
          have KB := hide fun W => below_any (D : Int) (m : Int) (by omega) (by omega) (by omega) W
          rw [show belowN (D : Int) (m : Int) = ((D % m : Nat) : Int) by rw [belowN, if_neg (by omega), Int.natCast_emod]] at KB
          have hKl : D % m < Dc.lefts g := by rw [(unhide HG).2.1]; exact Nat.mod_lt _ hlt
          have KT := hide (take_any T N (D % m) g (unhide HG).1 hN hKl wr (unhide HW).1)
          have HPF : Hid (g[Dc.pickAt g (D % m)]? = some false) := hide (Dc.pick_false g (D % m) hKl)
          have HN : Hid (done ++ Dc.pickAt g (D % m) :: Dc.ordG (g.set (Dc.pickAt g (D % m)) true) (D / m) (m - 1) = L) := hide (by rw [← ordG_next hlt]; exact (unhide HG).2.2.1)
          have HS : Hid (Dc.lefts (g.set (Dc.pickAt g (D % m)) true) = m - 1) := hide (by
            have h1 := Dc.lefts_set (unhide HPF)
            have h2 := (unhide HG).2.1
            omega)
          have HDL : Hid (done.length + 1 ≤ 1000) := hide (by
            have h1 := congrArg List.length (unhide HN)
            have h2 := Dc.order_len D0 N
            rw [show Dc.order D0 N = L by rw [← unhide HL, List.nil_append]; rfl] at h2
            simp at h1
            omega)
          clear hKl
          generalize Dc.pickAt g (D % m) = P at KT HPF HN HS
          generalize D % m = K at KB KT
          generalize D / m = Q at hq HN hQ
          go_wp2_with fail
          refine (unhide KB _).mono ?_
          rintro e w1 ⟨rfl, hw⟩
          have hw' := hw.symm
          subst hw'
          go_wp2_with fail
          refine (unhide KT).mono ?_
          rintro e w2 ⟨rfl, hb2⟩
          have HV2 : Hid (VRow w2 T 4 (bools (g.set P true))) := hide (by
            rw [← bools_set]
            have h := (unhide HW).1.set P (.bool true)
            exact h.below hb2 (unhide HW).1.lt)
          have HO2 := hide (own_after (own_setT (k := P) (unhide HW).2.1 (unhide HW).1 (.bool true)) (by simpa using hb2))
          have HB2 := hide ((below_set (unhide HW).2.2 hT P (.bool true)).trans (hb2.mono (unhide HW).2.2.size))
          have HBA := hide (below_alloc' (w := w2) (.cells #[.int .i64 P] 3))
          have HOA := hide (own_after (unhide HO2) (unhide HBA))
          have HVA := hide ((unhide HV2).after (unhide HBA))
          have HBB := hide (below_grow (unhide HB2) (Nat.le_refl _) (unhide HBA))
          have HSZ : Hid (w.heap.size ≤ (w2.alloc (.cells #[.int .i64 P] 3)).heap.size) := hide (unhide HBB).size
          clear hb2
          go_wp2_with (at_builtin; refine wpList_append_own _ rfl _ _ 27 rfl w.heap.size 3 i0 _ 1 8 Try.underlying27 hi hz0 hz1 hz2 rfl (by decide) _ _ _ rfl (unhide HOA) ⟨w2.heap.size, 0, none⟩ 1 1 [.int .i64 P] rfl rfl (cell_one_new _ _ _) (by simp [Value.oneCell']) (by have := unhide HDL; unfold maxLen; omega) (by have := unhide HDL; omega) (unhide HSZ) ?_; intro v' w3 hown' hgrow _; have HB3 := hide ((unhide HBB).trans (grown_below (unhide HOA) hgrow (unhide HSZ))); have HO3 := hide hown'; have HV3 := hide ((unhide HVA).grown hgrow (own_not (unhide HOA) (unhide HVA))); clear hgrow hown')
          go_roundw
          case rel =>
            refine ⟨m - 1, Q, g.set P true, done ++ [P], by omega, hQ, by go_num, by first | rfl | (rw [hq]), hide ⟨by rw [List.length_set]; exact (unhide HG).1, unhide HS, by rw [List.append_assoc]; exact unhide HN, by rw [List.length_append]; exact unhide HDL⟩, hide ⟨unhide HV3, ?_, unhide HB3⟩⟩
            rw [List.length_append, ints_append, nums_append]
            exact unhide HO3
          case measure => simp [intOf]; omega
        · obtain rfl : m = 0 := by omega
          have hmz : decide ((0 : Int) < ((0 : Nat) : Int)) = false := by simp
          obtain ⟨r, cap', rfl, hcap, hsl⟩ := own_sn (ints_len done) (unhide HW).2.1
          have HE : Hid (MadeN w (ints L) (.returned (.slice r (ints done).length cap')) wr) := hide (by
            have h := (unhide HG).2.2.1
            rw [Dc.ordG, List.append_nil] at h
            rw [← h]
            exact ⟨r, cap', rfl, hcap, hsl, (unhide HW).2.2⟩)
          clear hcap hsl
          go_wp2_with fail
          go_ret
          exact unhide HE

/-- The program's dice answer all that the laws want. -/
theorem prg : Prg where
  below draw n w _ hn := (Below_any draw n hn.2 w).mono fun e w' ⟨h, hw⟩ => ⟨h, by rw [hw]; exact Below.refl _ _⟩
  next draw w _ := (Next_any draw w).mono fun e w' ⟨h, hw⟩ => ⟨h, by rw [hw]; exact Below.refl _ _⟩
  order draw n w _ _ := Order_any draw n w
end Go.Proofs.Ytehamngfkmnckaa
