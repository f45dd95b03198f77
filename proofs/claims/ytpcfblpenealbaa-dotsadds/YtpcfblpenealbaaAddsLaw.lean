/-
  The walk of the statement on what a set is with a dot.
-/
import Derived.Test.YtpcfblpenealbaaRefAdd
import Derived.Test.YtpcfblpenealbaaMany
namespace Go.Proofs.Ytpcfblpenealbaa
open Go.RowKit

theorem adds_same {B E B1 E1 B2 E2 : List Vc.D} {d : Vc.D} {i j : Bool}
    (g1 : Vc.checkS B E = 0 ∧ Vc.dotErr d = 0 → Vc.SetOk B1 E1 ∧ (∀ x, Vc.In B1 E1 x ↔ Vc.In B E x ∨ x = d) ∧ (i = true ↔ ¬ Vc.In B E d)) (b1 : ¬ (Vc.checkS B E = 0 ∧ Vc.dotErr d = 0) → B1 = B ∧ E1 = E ∧ i = false)
    (g2 : Vc.checkS B E = 0 ∧ Vc.dotErr d = 0 → Vc.SetOk B2 E2 ∧ (∀ x, Vc.In B2 E2 x ↔ Vc.In B E x ∨ x = d) ∧ (j = true ↔ ¬ Vc.In B E d)) (b2 : ¬ (Vc.checkS B E = 0 ∧ Vc.dotErr d = 0) → B2 = B ∧ E2 = E ∧ j = false) : (B1 = B2 ∧ E1 = E2) ∧ i = j := by
  by_cases h : Vc.checkS B E = 0 ∧ Vc.dotErr d = 0
  · obtain ⟨s1, m1, e1⟩ := g1 h
    obtain ⟨s2, m2, e2⟩ := g2 h
    exact ⟨Vc.set_ext s1 s2 fun x => (m1 x).trans (m2 x).symm, by rw [Bool.eq_iff_iff, e1, e2]⟩
  · obtain ⟨rfl, rfl, rfl⟩ := b1 h
    obtain ⟨rfl, rfl, rfl⟩ := b2 h
    exact ⟨⟨rfl, rfl⟩, rfl⟩

set_option maxRecDepth 100000 in
set_option maxHeartbeats 2000000 in
theorem adds_walk (r1 r2 : Option Addr) (c1 c2 : Nat) (B E : List Vc.D) (hc1 : B.length ≤ c1) (hc2 : E.length ≤ c2) (p c : Int) (w : World) (s1 : Sl w r1 B) (s2 : Sl w r2 E) :
    Calls Try.prog 4 #[.agg #[.slice r1 B.length c1, .slice r2 E.length c2], .agg #[.int .i64 p, .int .i64 c]] w fun e w' => e = .returned (.bool true) ∧ Below w.heap.size w w' := by
  have HB0 := hide ((below_alloc' (w := w) (.cells #[.slice r1 B.length c1, .slice r2 E.length c2] 24)).alloc (by simp) (.cells #[.int .i64 p, .int .i64 c] 26))
  have RS := hide ((VRow.new w 24 [.slice r1 B.length c1, .slice r2 E.length c2]).alloc (.cells #[.int .i64 p, .int .i64 c] 26))
  have RD := hide (VRow.newAt (W := w.alloc (.cells #[.slice r1 B.length c1, .slice r2 E.length c2] 24)) (T := 26) (n := w.heap.size + 1) (vs := [.int .i64 p, .int .i64 c]) (by simp))
  have KM := hide (many1 ((w.alloc (.cells #[.slice r1 B.length c1, .slice r2 E.length c2] 24)).alloc (.cells #[.int .i64 p, .int .i64 c] 26)) r1 r2 B.length c1 E.length c2)
  rw [World.size_alloc, World.size_alloc] at KM
  have S1 := hide (s1.after (unhide HB0))
  have S2 := hide (s2.after (unhide HB0))
  have rs0 := (unhide RS).cell 0 _ rfl
  have rs1 := (unhide RS).cell 1 _ rfl
  clear s1 s2
  by_cases h8 : 80 < B.length ∨ 60 < E.length
  · rw [decide_eq_true h8] at KM
    clear h8
    go_enter Try.func4, Try.ntmps4
    go_wp2_with fail
    refine (unhide KM).mono ?_
    rintro e w1 ⟨rfl, hw⟩
    subst hw
    have HB1 := hide ((unhide HB0).alloc (unhide HB0).size (.cells #[.slice r1 B.length c1, .slice r2 E.length c2] 24))
    go_wp2_with fail
    refine (awake_any _).mono ?_
    rintro e w9 ⟨rfl, hb⟩
    replace HB1 := hide (below_grow (unhide HB1) (Nat.le_refl _) hb)
    clear hb
    go_wp2_with fail
    go_ret
    exact ⟨rfl, unhide HB1⟩
  · rw [decide_eq_false h8] at KM
    have K10 := hide fun W => own_any r1 r2 B.length E.length c1 c2 W
    have K20 := hide fun W h h' => add_any r1 r2 c1 c2 B E (by omega) (by omega) hc2 p c W h h'
    have K21 := hide fun W h h' => refAdd_any r1 r2 c1 c2 B E (by omega) (by omega) hc1 hc2 p c W h h'
    have hEl : E.length ≤ 60 := by omega
    have hBl8 : B.length ≤ 80 := by omega
    clear h8
    go_enter Try.func4, Try.ntmps4
    go_wp2_with fail
    refine (unhide KM).mono ?_
    rintro e w1 ⟨rfl, hw⟩
    have hb01 : Below ((w.alloc (.cells #[.slice r1 B.length c1, .slice r2 E.length c2] 24)).alloc (.cells #[.int .i64 p, .int .i64 c] 26)).heap.size ((w.alloc (.cells #[.slice r1 B.length c1, .slice r2 E.length c2] 24)).alloc (.cells #[.int .i64 p, .int .i64 c] 26)) w1 := by rw [hw]; exact below_alloc' _
    replace HB0 := hide (below_grow (unhide HB0) (Nat.le_refl _) hb01)
    replace RS := hide ((unhide RS).after hb01)
    replace RD := hide ((unhide RD).after hb01)
    replace S1 := hide ((unhide S1).after hb01)
    replace S2 := hide ((unhide S2).after hb01)
    clear hb01 hw rs0 rs1 KM
    have SB : Hid (∀ w', Below w1.heap.size w1 w' → w'.cell? ⟨w.heap.size, 0, none⟩ = some (.slice r1 B.length c1) ∧ w'.cell? ⟨w.heap.size, 1, none⟩ = some (.slice r2 E.length c2) ∧ w'.cell? ⟨w.heap.size + 1, 0, none⟩ = some (.int .i64 p) ∧ w'.cell? ⟨w.heap.size + 1, 1, none⟩ = some (.int .i64 c) ∧ Below w1.heap.size w1 w') :=
      hide (fun w' hb => ⟨((unhide RS).after hb).cell 0 _ rfl, ((unhide RS).after hb).cell 1 _ rfl, ((unhide RD).after hb).cell 0 _ rfl, ((unhide RD).after hb).cell 1 _ rfl, hb⟩)
    go_wp2_with fail
    go_region_held3 (fun w' => w'.cell? ⟨w.heap.size, 0, none⟩ = some (.slice r1 B.length c1) ∧ w'.cell? ⟨w.heap.size, 1, none⟩ = some (.slice r2 E.length c2) ∧ w'.cell? ⟨w.heap.size + 1, 0, none⟩ = some (.int .i64 p) ∧ w'.cell? ⟨w.heap.size + 1, 1, none⟩ = some (.int .i64 c) ∧ Below w1.heap.size w1 w')
      (first
        | exact unhide SB _ (below_drew (Below.refl _ _))
        | exact unhide SB _ (below_grow (And.right (And.right (And.right (And.right (by assumption))))) (Nat.le_refl _) (by assumption))
        | exact unhide SB _ (keep_alloc' (And.right (And.right (And.right (And.right (by assumption))))) _)
        | exact unhide SB _ (keep_alloc' (by assumption) _)
        | exact unhide SB _ (below_set (below_set (And.right (And.right (And.right (And.right (by assumption))))) (Nat.le_refl _) 0 _) (Nat.le_refl _) 1 _)
        | exact unhide SB _ (below_set (below_set (And.right (And.right (And.right (And.right (by assumption))))) (hb2.size) 0 _) (hb2.size) 1 _))
      (first
        | (go_at_call 10; refine (unhide K10 _).mono ?_; rintro e w2 ⟨rfl, hb2⟩)
        | (go_at_call 20; refine (unhide K20 _ ((unhide S1).after (And.right (And.right (And.right (And.right (by assumption)))))) ((unhide S2).after (And.right (And.right (And.right (And.right (by assumption))))))).mono ?_; rintro e w3 ⟨v, B1, E1, i1, rfl, ⟨q1, n1, q2, n2, rfl, hd1, hd2, t1, t2⟩, hb3, hE1, hg1, hbad1⟩; have HG1 := hide hg1; have HBD1 := hide hbad1; have HB3 : Below w1.heap.size w1 w3 := below_grow (And.right (And.right (And.right (And.right (by assumption))))) (Nat.le_refl _) hb3; clear hg1 hbad1; (first | (have hn2 : VRow w3 w2.heap.size 29 [.slice none 0 0, .slice none 0 0] := VRow.after (VRow.new w2 29 [.slice none 0 0, .slice none 0 0]) hb3; have jj0 := hn2.cell 0 _ rfl; have jj1 := hn2.cell 1 _ rfl; have jj2 := hn2.frozen 0; have jj3 := hn2.frozen 1) | (have hn1 : VRow w3 w1.heap.size 29 [.slice none 0 0, .slice none 0 0] := VRow.after (VRow.after (show VRow (w1.alloc (.cells #[.slice none 0 0, .slice none 0 0] 29)).drew w1.heap.size 29 [.slice none 0 0, .slice none 0 0] from VRow.new w1 29 [.slice none 0 0, .slice none 0 0]) hb2) hb3; have kk0 := hn1.cell 0 _ rfl; have kk1 := hn1.cell 1 _ rfl; have kk2 := hn1.frozen 0; have kk3 := hn1.frozen 1) | skip)))
    · have HBL : Hid (B1.length ≤ 100000) := hide (by
        by_cases h : Vc.checkS B E = 0 ∧ Vc.dotErr (p, c) = 0
        · have := Vc.vec_len (unhide HG1 h).1.base; omega
        · rw [(unhide HBD1 h).1]; omega)
      have RT := hide (VRow.new w3 29 [.slice q1 B1.length n1, .slice q2 E1.length n2])
      have T1 := hide (t1.after (below_alloc' (w := w3) (.cells #[.slice q1 B1.length n1, .slice q2 E1.length n2] 29)))
      have T2 := hide (t2.after (below_alloc' (w := w3) (.cells #[.slice q1 B1.length n1, .slice q2 E1.length n2] 29)))
      have HW := HB3.alloc HB3.size (.cells #[.slice q1 B1.length n1, .slice q2 E1.length n2] 29)
      replace HB0 := hide (below_grow (unhide HB0) (Nat.le_refl _) HW)
      replace RS := hide ((unhide RS).after HW)
      replace RD := hide ((unhide RD).after HW)
      replace S1 := hide ((unhide S1).after HW)
      replace S2 := hide ((unhide S2).after HW)
      have HE1 := hide hE1
      clear HW HB3 hb2 hb3 t1 t2 hd1 hd2 SB K10 K20 hE1
      generalize w3.heap.size = pt at RT ⊢
      generalize w3.alloc (.cells #[.slice q1 B1.length n1, .slice q2 E1.length n2] 29) = w4 at RT T1 T2 HB0 RS RD S1 S2 ⊢
      have rs0 := (unhide RS).cell 0 _ rfl
      have rs1 := (unhide RS).cell 1 _ rfl
      have rd0 := (unhide RD).cell 0 _ rfl
      have rd1 := (unhide RD).cell 1 _ rfl
      go_wp2_with fail
      refine (unhide K21 _ (unhide S1) (unhide S2)).mono ?_
      rintro e w5 ⟨v', B2, E2, i2, rfl, ⟨u1, m1, u2, m2, rfl, _, _, t3, t4⟩, hb5, _, hg2, hbad2⟩
      obtain ⟨⟨rfl, rfl⟩, rfl⟩ := adds_same (unhide HG1) (unhide HBD1) hg2 hbad2
      have U1 := hide t3
      have U2 := hide t4
      replace HB0 := hide (below_grow (unhide HB0) (Nat.le_refl _) hb5)
      replace RT := hide ((unhide RT).after hb5)
      replace T1 := hide ((unhide T1).after hb5)
      replace T2 := hide ((unhide T2).after hb5)
      clear hg2 hbad2 HG1 HBD1 hb5 t3 t4 rs0 rs1 rd0 rd1 K21
      go_wp2_with (refine store_row (by rfl) 24 _ _ (by rfl) w5.heap.size [.slice u1 B1.length m1, .slice u2 E1.length m2] (by rfl) (by rfl) 24 [.slice none 0 0, .slice none 0 0] (VRow.newAt rfl) 2 size24 rfl rfl (two_one _ _ _ _ _ _) ?_; intro w6 ho hr; have hb6 := (below_alloc' (w := w5) (.cells #[.slice none 0 0, .slice none 0 0] 24)).trans (ho.below (Nat.le_refl _)); replace HB0 := hide (below_grow (unhide HB0) (Nat.le_refl _) hb6); replace RT := hide ((unhide RT).after hb6); replace T1 := hide ((unhide T1).after hb6); replace T2 := hide ((unhide T2).after hb6); replace U1 := hide ((unhide U1).after hb6); replace U2 := hide ((unhide U2).after hb6); have RY := hide hr; clear ho hr hb6)
      have K22 := hide fun W => its_any q1 q2 B1.length E1.length n1 n2 W
      have K17 := hide fun W h1 h2 h3 h4 => refSameS_any q1 q2 u1 u2 n1 n2 m1 m2 B1 E1 B1 E1 (unhide HBL) (by have := unhide HE1; omega) W h1 h2 h3 h4 true (by simp)
      have x0 := cell_regrown ((unhide RT).cell 0 _ rfl)
      have x1 := cell_regrown ((unhide RT).cell 1 _ rfl)
      have x2 := cell_regrown ((unhide RY).cell 0 _ rfl)
      have x3 := cell_regrown ((unhide RY).cell 1 _ rfl)
      have hbb : (i1 == i1) = true := by simp
      refine wp_region_quiet_below (by kernel_rfl) (by kernel_rfl) ?_
      repeat (quiet_step (first
        | (go_at_call 22; exact Calls.regrown_of (unhide K22 _))
        | (go_at_call 17; exact Calls.regrown_of (unhide K17 _ ((unhide T1).after (below_regrown _ _ _)) ((unhide T2).after (below_regrown _ _ _)) ((unhide U1).after (below_regrown _ _ _)) ((unhide U2).after (below_regrown _ _ _))))
        | (go_at_call 9; exact Calls.regrown_of (awake_any _))))
      refine wpQuiet_nil ?_
      intro _ hw'
      obtain ⟨⟨dq, osq⟩, hw''⟩ := hw'
      subst hw''
      go_wp2_with fail
      go_ret
      exact ⟨by first | rfl | simp, (unhide HB0).trans ((below_regrown _ _ _).mono (unhide HB0).size)⟩
    · have HBL : Hid (B1.length ≤ 100000) := hide (by
        by_cases h : Vc.checkS B E = 0 ∧ Vc.dotErr (p, c) = 0
        · have := Vc.vec_len (unhide HG1 h).1.base; omega
        · rw [(unhide HBD1 h).1]; omega)
      have hO := (only_set w3 w2.heap.size 0 (.slice q1 B1.length n1)).trans (only_set _ w2.heap.size 1 (.slice q2 E1.length n2))
      have RT := hide ((hn2.set 0 (.slice q1 B1.length n1)).set 1 (.slice q2 E1.length n2))
      have T1 := hide (t1.only hn2 (two_slices _ _ _ _ _ _) hO)
      have T2 := hide (t2.only hn2 (two_slices _ _ _ _ _ _) hO)
      have HW := below_set (below_set HB3 hb2.size 0 (.slice q1 B1.length n1)) hb2.size 1 (.slice q2 E1.length n2)
      clear hO hn2 jj0 jj1 jj2 jj3
      replace HB0 := hide (below_grow (unhide HB0) (Nat.le_refl _) HW)
      replace RS := hide ((unhide RS).after HW)
      replace RD := hide ((unhide RD).after HW)
      replace S1 := hide ((unhide S1).after HW)
      replace S2 := hide ((unhide S2).after HW)
      have HE1 := hide hE1
      clear HW HB3 hb2 hb3 t1 t2 hd1 hd2 SB K10 K20 hE1
      generalize (w3.setCell ⟨w2.heap.size, 0, none⟩ (.slice q1 B1.length n1)).setCell ⟨w2.heap.size, 1, none⟩ (.slice q2 E1.length n2) = w4 at RT T1 T2 HB0 RS RD S1 S2 ⊢
      have rs0 := (unhide RS).cell 0 _ rfl
      have rs1 := (unhide RS).cell 1 _ rfl
      have rd0 := (unhide RD).cell 0 _ rfl
      have rd1 := (unhide RD).cell 1 _ rfl
      go_wp2_with fail
      refine (unhide K21 _ (unhide S1) (unhide S2)).mono ?_
      rintro e w5 ⟨v', B2, E2, i2, rfl, ⟨u1, m1, u2, m2, rfl, _, _, t3, t4⟩, hb5, _, hg2, hbad2⟩
      obtain ⟨⟨rfl, rfl⟩, rfl⟩ := adds_same (unhide HG1) (unhide HBD1) hg2 hbad2
      have U1 := hide t3
      have U2 := hide t4
      replace HB0 := hide (below_grow (unhide HB0) (Nat.le_refl _) hb5)
      replace RT := hide ((unhide RT).after hb5)
      replace T1 := hide ((unhide T1).after hb5)
      replace T2 := hide ((unhide T2).after hb5)
      clear hg2 hbad2 HG1 HBD1 hb5 t3 t4 rs0 rs1 rd0 rd1 K21
      go_wp2_with (refine store_row (by rfl) 24 _ _ (by rfl) w5.heap.size [.slice u1 B1.length m1, .slice u2 E1.length m2] (by rfl) (by rfl) 24 [.slice none 0 0, .slice none 0 0] (VRow.newAt rfl) 2 size24 rfl rfl (two_one _ _ _ _ _ _) ?_; intro w6 ho hr; have hb6 := (below_alloc' (w := w5) (.cells #[.slice none 0 0, .slice none 0 0] 24)).trans (ho.below (Nat.le_refl _)); replace HB0 := hide (below_grow (unhide HB0) (Nat.le_refl _) hb6); replace RT := hide ((unhide RT).after hb6); replace T1 := hide ((unhide T1).after hb6); replace T2 := hide ((unhide T2).after hb6); replace U1 := hide ((unhide U1).after hb6); replace U2 := hide ((unhide U2).after hb6); have RY := hide hr; clear ho hr hb6)
      have K22 := hide fun W => its_any q1 q2 B1.length E1.length n1 n2 W
      have K17 := hide fun W h1 h2 h3 h4 => refSameS_any q1 q2 u1 u2 n1 n2 m1 m2 B1 E1 B1 E1 (unhide HBL) (by have := unhide HE1; omega) W h1 h2 h3 h4 true (by simp)
      have x0 := cell_regrown ((unhide RT).cell 0 _ rfl)
      have x1 := cell_regrown ((unhide RT).cell 1 _ rfl)
      have x2 := cell_regrown ((unhide RY).cell 0 _ rfl)
      have x3 := cell_regrown ((unhide RY).cell 1 _ rfl)
      have hbb : (i1 == i1) = true := by simp
      refine wp_region_quiet_below (by kernel_rfl) (by kernel_rfl) ?_
      repeat (quiet_step (first
        | (go_at_call 22; exact Calls.regrown_of (unhide K22 _))
        | (go_at_call 17; exact Calls.regrown_of (unhide K17 _ ((unhide T1).after (below_regrown _ _ _)) ((unhide T2).after (below_regrown _ _ _)) ((unhide U1).after (below_regrown _ _ _)) ((unhide U2).after (below_regrown _ _ _))))
        | (go_at_call 9; exact Calls.regrown_of (awake_any _))))
      refine wpQuiet_nil ?_
      intro _ hw'
      obtain ⟨⟨dq, osq⟩, hw''⟩ := hw'
      subst hw''
      go_wp2_with fail
      go_ret
      exact ⟨by first | rfl | simp, (unhide HB0).trans ((below_regrown _ _ _).mono (unhide HB0).size)⟩
    · have HBL : Hid (B1.length ≤ 100000) := hide (by
        by_cases h : Vc.checkS B E = 0 ∧ Vc.dotErr (p, c) = 0
        · have := Vc.vec_len (unhide HG1 h).1.base; omega
        · rw [(unhide HBD1 h).1]; omega)
      have hO := (only_set w3 w1.heap.size 0 (.slice q1 B1.length n1)).trans (only_set _ w1.heap.size 1 (.slice q2 E1.length n2))
      have RT := hide ((hn1.set 0 (.slice q1 B1.length n1)).set 1 (.slice q2 E1.length n2))
      have T1 := hide (t1.only hn1 (two_slices _ _ _ _ _ _) hO)
      have T2 := hide (t2.only hn1 (two_slices _ _ _ _ _ _) hO)
      have HW := below_set (below_set HB3 (Nat.le_refl _) 0 (.slice q1 B1.length n1)) (Nat.le_refl _) 1 (.slice q2 E1.length n2)
      clear hO hn1 kk0 kk1 kk2 kk3
      replace HB0 := hide (below_grow (unhide HB0) (Nat.le_refl _) HW)
      replace RS := hide ((unhide RS).after HW)
      replace RD := hide ((unhide RD).after HW)
      replace S1 := hide ((unhide S1).after HW)
      replace S2 := hide ((unhide S2).after HW)
      have HE1 := hide hE1
      clear HW HB3 hb2 hb3 t1 t2 hd1 hd2 SB K10 K20 hE1
      generalize (w3.setCell ⟨w1.heap.size, 0, none⟩ (.slice q1 B1.length n1)).setCell ⟨w1.heap.size, 1, none⟩ (.slice q2 E1.length n2) = w4 at RT T1 T2 HB0 RS RD S1 S2 ⊢
      have rs0 := (unhide RS).cell 0 _ rfl
      have rs1 := (unhide RS).cell 1 _ rfl
      have rd0 := (unhide RD).cell 0 _ rfl
      have rd1 := (unhide RD).cell 1 _ rfl
      go_wp2_with fail
      refine (unhide K21 _ (unhide S1) (unhide S2)).mono ?_
      rintro e w5 ⟨v', B2, E2, i2, rfl, ⟨u1, m1, u2, m2, rfl, _, _, t3, t4⟩, hb5, _, hg2, hbad2⟩
      obtain ⟨⟨rfl, rfl⟩, rfl⟩ := adds_same (unhide HG1) (unhide HBD1) hg2 hbad2
      have U1 := hide t3
      have U2 := hide t4
      replace HB0 := hide (below_grow (unhide HB0) (Nat.le_refl _) hb5)
      replace RT := hide ((unhide RT).after hb5)
      replace T1 := hide ((unhide T1).after hb5)
      replace T2 := hide ((unhide T2).after hb5)
      clear hg2 hbad2 HG1 HBD1 hb5 t3 t4 rs0 rs1 rd0 rd1 K21
      go_wp2_with (refine store_row (by rfl) 24 _ _ (by rfl) w5.heap.size [.slice u1 B1.length m1, .slice u2 E1.length m2] (by rfl) (by rfl) 24 [.slice none 0 0, .slice none 0 0] (VRow.newAt rfl) 2 size24 rfl rfl (two_one _ _ _ _ _ _) ?_; intro w6 ho hr; have hb6 := (below_alloc' (w := w5) (.cells #[.slice none 0 0, .slice none 0 0] 24)).trans (ho.below (Nat.le_refl _)); replace HB0 := hide (below_grow (unhide HB0) (Nat.le_refl _) hb6); replace RT := hide ((unhide RT).after hb6); replace T1 := hide ((unhide T1).after hb6); replace T2 := hide ((unhide T2).after hb6); replace U1 := hide ((unhide U1).after hb6); replace U2 := hide ((unhide U2).after hb6); have RY := hide hr; clear ho hr hb6)
      have K22 := hide fun W => its_any q1 q2 B1.length E1.length n1 n2 W
      have K17 := hide fun W h1 h2 h3 h4 => refSameS_any q1 q2 u1 u2 n1 n2 m1 m2 B1 E1 B1 E1 (unhide HBL) (by have := unhide HE1; omega) W h1 h2 h3 h4 true (by simp)
      have x0 := cell_regrown ((unhide RT).cell 0 _ rfl)
      have x1 := cell_regrown ((unhide RT).cell 1 _ rfl)
      have x2 := cell_regrown ((unhide RY).cell 0 _ rfl)
      have x3 := cell_regrown ((unhide RY).cell 1 _ rfl)
      have hbb : (i1 == i1) = true := by simp
      refine wp_region_quiet_below (by kernel_rfl) (by kernel_rfl) ?_
      repeat (quiet_step (first
        | (go_at_call 22; exact Calls.regrown_of (unhide K22 _))
        | (go_at_call 17; exact Calls.regrown_of (unhide K17 _ ((unhide T1).after (below_regrown _ _ _)) ((unhide T2).after (below_regrown _ _ _)) ((unhide U1).after (below_regrown _ _ _)) ((unhide U2).after (below_regrown _ _ _))))
        | (go_at_call 9; exact Calls.regrown_of (awake_any _))))
      refine wpQuiet_nil ?_
      intro _ hw'
      obtain ⟨⟨dq, osq⟩, hw''⟩ := hw'
      subst hw''
      go_wp2_with fail
      go_ret
      exact ⟨by first | rfl | simp, (unhide HB0).trans ((below_regrown _ _ _).mono (unhide HB0).size)⟩
end Go.Proofs.Ytpcfblpenealbaa
