/-
  What the document's Order answers.
-/
import Derived.Test.YtehamngfkmnckaaOwn
namespace Go.Proofs.Ytehamngfkmnckaa
open Go.RowKit

theorem cell_one_new (W : World) (x : Value) (T : Nat) : ∀ (j : Nat) (u : Value), [x][j]? = some u → (W.alloc (.cells #[x] T)).cell? ((⟨W.heap.size, 0, none⟩ : Addr).add j) = some u := fun j u hu => by
  cases j with
  | zero =>
    simp at hu
    subst hu
    rw [show (⟨W.heap.size, 0, none⟩ : Addr).add 0 = ⟨W.heap.size, 0, none⟩ by unfold Addr.add; split <;> simp_all]
    exact (VRow.new W T [x]).cell 0 x rfl
  | succ j => simp at hu
theorem mod_is (D m : Nat) (hm : 0 < m) (h : m ≤ 100000) : wrap64 ((D : Int) % (m : Int)) = ((D % m : Nat) : Int) := by
  rw [← Int.natCast_emod]
  have := Nat.mod_lt D hm
  generalize D % m = x at this
  simp only [wrap64]
  omega
theorem div_is (D m : Nat) (h : D < 18446744073709551616) : IntKind.u64.wrap ((D : Int) / (m : Int)) = ((D / m : Nat) : Int) := by
  rw [← Int.natCast_ediv, IntKind.wrap_u64]
  have := Nat.div_le_self D m
  generalize D / m = x at this
  omega
theorem ordG_next {g : List Bool} {D m : Nat} (hm : 0 < m) : Dc.ordG g D m = Dc.pickAt g (D % m) :: Dc.ordG (g.set (Dc.pickAt g (D % m)) true) (D / m) (m - 1) := by
  obtain ⟨k, rfl⟩ : ∃ k, m = k + 1 := ⟨m - 1, by omega⟩
  rw [Dc.ordG, Nat.add_sub_cancel]

set_option maxRecDepth 100000 in
set_option maxHeartbeats 1000000 in
theorem refOrder_any (draw n : Int) (w : World) : Calls Try.prog 14 #[.int .i64 draw, .int .i64 n] w (MadeN w (ordI draw n)) := by
  unfold ordI
  obtain ⟨i0, hi, hz0, hz1, hz2⟩ := info_parts info3
  by_cases h1 : n < 1
  · have d1 : decide (n < 1) = true := decide_eq_true h1
    rw [if_pos (.inl h1)]
    go_enter Try.func14, Try.ntmps14
    go_wp2_with fail
    go_ret
    exact ⟨none, 0, rfl, Nat.le_refl _, Sn.none _ _, Below.refl _ _⟩
  · have d1 : decide (n < 1) = false := decide_eq_false h1
    by_cases h2 : 1000 < n
    · have d2 : decide (1000 < n) = true := decide_eq_true h2
      rw [if_pos (.inr h2)]
      go_enter Try.func14, Try.ntmps14
      go_wp2_with fail
      go_ret
      exact ⟨none, 0, rfl, Nat.le_refl _, Sn.none _ _, Below.refl _ _⟩
    · have d2 : decide (1000 < n) = false := decide_eq_false h2
      rw [if_neg (by omega)]
      obtain ⟨N, rfl⟩ : ∃ N : Nat, n = N := ⟨n.toNat, by omega⟩
      rw [Int.toNat_natCast]
      have hN : N ≤ 1000 := by omega
      have hN1 : 0 < N := by omega
      obtain ⟨L, hL⟩ : ∃ L, Dc.order (drawN draw) N = L := ⟨_, rfl⟩
      rw [hL]
      have hdr := drawN_is draw
      have hdl := drawN_lt draw
      have HL : Hid ([] ++ Dc.ordG (List.replicate N false) (drawN draw) N = L) := hide (by rw [List.nil_append]; exact hL)
      generalize drawN draw = D0 at HL hdr hdl
      obtain ⟨wm, hmk, hrm, hbm⟩ := make_bools N (by omega) w
      have HRM := hide hrm
      have HBM := hide hbm
      clear hL h1 h2 hrm hbm
      go_enter Try.func14, Try.ntmps14
      go_wp2_with fail
      go_loopw [5, 7, 8, 9, 10] (fun out d left _ _ wr => ∃ (m D : Nat) (g : List Bool) (done : List Nat), m ≤ N ∧ D < 18446744073709551616 ∧ left = .int .i64 m ∧ d = .int .u64 D ∧ Hid (g.length = N ∧ Dc.lefts g = m ∧ done ++ Dc.ordG g D m = L ∧ done.length ≤ 1000) ∧ Hid (VRow wr w.heap.size 4 (bools g) ∧ wr.ownsRow (w.heap.size + 1) 3 1 out done.length (nums (ints done)) ∧ Below w.heap.size w wr)) (fun _ _ left _ _ _ => (intOf left).toNat)
      case atStart => exact ⟨N, D0, List.replicate N false, [], Nat.le_refl _, hdl, rfl, by first | rfl | (rw [hdr]), hide ⟨by simp, Dc.lefts_none N, unhide HL, by simp⟩, hide ⟨unhide HRM, World.ownsRow_nil _ _ _ _, unhide HBM⟩⟩
      case round =>
        obtain ⟨m, D, g, done, hm, hD, rfl, rfl, HG, HW⟩ := hrel
        by_cases hlt : 0 < m
        · have hmz : decide ((0 : Int) < (m : Int)) = true := decide_eq_true (by omega)
          have hk := mod_is D m hlt (by omega)
          have hq := div_is D m hD
          have hQ : D / m < 18446744073709551616 := Nat.lt_of_le_of_lt (Nat.div_le_self D m) hD
          have HP : Hid (0 + Dc.pickAt (g.drop 0) (D % m) = Dc.pickAt g (D % m) ∧ D % m < Dc.lefts (g.drop 0)) := hide ⟨by simp, by rw [List.drop_zero, (unhide HG).2.1]; exact Nat.mod_lt _ hlt⟩
          have HN : Hid (done ++ Dc.pickAt g (D % m) :: Dc.ordG (g.set (Dc.pickAt g (D % m)) true) (D / m) (m - 1) = L) := hide (by rw [← ordG_next hlt]; exact (unhide HG).2.2.1)
          have HS : Hid (Dc.lefts (g.set (Dc.pickAt g (D % m)) true) = m - 1) := hide (by
            have h1 := Dc.lefts_set (Dc.pick_false g (D % m) (by rw [(unhide HG).2.1]; exact Nat.mod_lt _ hlt))
            have h2 := (unhide HG).2.1
            omega)
          have HDL : Hid (done.length + 1 ≤ 1000) := hide (by
            have h1 := congrArg List.length (unhide HN)
            have h2 := Dc.order_len D0 N
            rw [show Dc.order D0 N = L by rw [← unhide HL, List.nil_append]; rfl] at h2
            simp at h1
            omega)
          generalize Dc.pickAt g (D % m) = P at HP HN HS
          generalize D % m = K at hk HP
          generalize D / m = Q at hq HN hQ
          generalize wr = wa at HW ⊢
          generalize u5 = OUT at HW ⊢
          go_wp2_with fail
          try rw [hk]
          try rw [hq]
          go_loopw [5, 9, 10] (fun out k i wr => ∃ (c j : Nat), j ≤ N ∧ c ≤ N ∧ out = OUT ∧ k = .int .i64 c ∧ i = .int .i64 j ∧ Hid (j + Dc.pickAt (g.drop j) c = P ∧ c < Dc.lefts (g.drop j)) ∧ wr = wa) (fun _ _ i _ => N - (intOf i).toNat)
          case atStart => exact ⟨K, 0, Nat.zero_le _, by have h1 := (unhide HP).2; have h2 := Dc.lefts_le (g.drop 0); have h3 := (unhide HG).1; rw [List.drop_zero] at h1 h2; omega, rfl, rfl, rfl, HP, rfl⟩
          case round =>
            obtain ⟨c, j, hj, hc, rfl, rfl, rfl, HJ, rfl⟩ := hrel
            by_cases hjl : j < N
            · have hjz : decide ((j : Int) < (N : Int)) = true := decide_eq_true (by omega)
              have hjz2 : (j : Int) < (N : Int) := by omega
              obtain ⟨b, hb⟩ : ∃ b, g[j]? = some b := ⟨_, List.getElem?_eq_getElem (by rw [(unhide HG).1]; exact hjl)⟩
              have x0 := (unhide HW).1.cell j _ (bools_at hb)
              have hpn := Dc.pick_next (g := g) (k := c) (i := j) (by rw [(unhide HG).1]; exact hjl)
              have hln := Dc.lefts_next (g := g) (i := j) (by rw [(unhide HG).1]; exact hjl)
              rw [hb] at hpn hln
              have HPN := hide hpn
              have HLN := hide hln
              clear hpn hln
              cases b with
              | true =>
                have HJ2 : Hid (j + 1 + Dc.pickAt (g.drop (j + 1)) c = P ∧ c < Dc.lefts (g.drop (j + 1))) := hide (by
                  have h1 := unhide HJ; have h2 := unhide HPN; have h3 := unhide HLN
                  rw [if_pos (by rfl)] at h2 h3
                  omega)
                clear hb
                go_wp2_with fail
                go_roundw
                case rel => exact ⟨c, j + 1, by omega, hc, by rfl, by rfl, by go_num, HJ2, by trivial⟩
                case measure => simp [intOf]; omega
              | false =>
                by_cases hc0 : c = 0
                · subst hc0
                  have HJP : Hid (P = j) := hide (by
                    have h1 := unhide HJ; have h2 := unhide HPN
                    rw [if_neg (by simp), if_pos rfl] at h2
                    omega)
                  have HGJ := hb
                  have HBA := hide (below_alloc' (w := wr) (.cells #[.int .i64 j] 3))
                  have HOA := hide (own_after (unhide HW).2.1 (unhide HBA))
                  have HSZ : Hid (w.heap.size + 1 ≤ (wr.alloc (.cells #[.int .i64 j] 3)).heap.size) := hide (by have h1 := (unhide HW).1.lt; have h2 := (unhide HBA).size; omega)
                  clear hb
                  go_wp2_with (at_builtin; refine wpList_append_own _ rfl _ _ 27 rfl (w.heap.size + 1) 3 i0 _ 1 8 Try.underlying27 hi hz0 hz1 hz2 rfl (by decide) _ _ _ rfl (unhide HOA) ⟨wr.heap.size, 0, none⟩ 1 1 [.int .i64 j] rfl rfl (cell_one_new _ _ _) (by simp [Value.oneCell']) (by have := unhide HDL; unfold maxLen; omega) (by have := unhide HDL; omega) (unhide HSZ) ?_; intro v' w2 hown' hgrow _; have HB2 := hide (grown_below (unhide HOA) hgrow (unhide HSZ)); have HO2 := hide hown'; have HV2 := hide (((unhide HW).1.after (unhide HBA)).below (unhide HB2) (Nat.lt_succ_self _)); have x1 := (unhide HV2).cell j _ (bools_at HGJ); have f1 := (unhide HV2).frozen j; clear hgrow hown' x0)
                  go_roundw
                  case rel =>
                    refine ⟨m - 1, Q, g.set P true, done ++ [P], by omega, hQ, by go_num, by rfl, hide ⟨by rw [List.length_set]; exact (unhide HG).1, unhide HS, by rw [List.append_assoc]; exact unhide HN, by rw [List.length_append]; exact unhide HDL⟩, hide ⟨?_, ?_, below_set (below_grow (unhide HW).2.2 (Nat.le_refl _) (unhide HBA) |>.trans ((unhide HB2).mono (Nat.le_succ _))) (Nat.le_refl _) _ _⟩⟩
                    · rw [unhide HJP, ← bools_set]
                      exact (unhide HV2).set j _
                    · rw [unhide HJP, List.length_append, ints_append, nums_append]
                      exact own_set (unhide HO2) (Nat.lt_succ_self _) _ _
                  case measure => simp [intOf]; omega
                · have hcz : ((c : Int) == 0) = false := by simp; omega
                  have HJ2 : Hid (j + 1 + Dc.pickAt (g.drop (j + 1)) (c - 1) = P ∧ c - 1 < Dc.lefts (g.drop (j + 1))) := hide (by
                    have h1 := unhide HJ; have h2 := unhide HPN; have h3 := unhide HLN
                    rw [if_neg (by simp)] at h2 h3
                    rw [if_neg hc0] at h2
                    omega)
                  clear hb
                  go_wp2_with fail
                  go_roundw
                  case rel => exact ⟨c - 1, j + 1, by omega, by omega, by rfl, by go_num, by go_num, HJ2, by trivial⟩
                  case measure => simp [intOf]; omega
            · obtain rfl : j = N := by omega
              exact absurd (unhide HJ).2 (by rw [List.drop_of_length_le (by rw [(unhide HG).1]; exact Nat.le_refl _)]; simp [Dc.lefts])
        · obtain rfl : m = 0 := by omega
          have hmz : decide ((0 : Int) < ((0 : Nat) : Int)) = false := by simp
          obtain ⟨r, cap', rfl, hcap, hsl⟩ := own_sn (ints_len done) (unhide HW).2.1
          have HE : Hid (MadeN w (ints L) (.returned (.slice r (ints done).length cap')) wr) := hide (by
            have h := (unhide HG).2.2.1
            rw [Dc.ordG, List.append_nil] at h
            rw [← h]
            exact ⟨r, cap', rfl, hcap, hsl, (unhide HW).2.2⟩)
          clear hcap hsl
          go_wp2_with fail
          go_ret
          exact unhide HE
end Go.Proofs.Ytehamngfkmnckaa
