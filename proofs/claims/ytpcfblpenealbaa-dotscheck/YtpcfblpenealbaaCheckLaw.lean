/-
  The walk of the statement on whether a set may be, what it has, and which gaps.
-/
import Derived.Test.YtpcfblpenealbaaMany
import Derived.Test.YtpcfblpenealbaaRefGaps
import Derived.Test.YtpcfblpenealbaaAwake
namespace Go.Proofs.Ytpcfblpenealbaa
open Go.RowKit

theorem made_same {B E : List Vc.D} {m : Int} {P R : List Vc.D} (h1 : Vc.checkS B E = 0 → Vc.IsGaps B E m.toNat P) (h2 : ¬ Vc.checkS B E = 0 → P = []) (h3 : Vc.checkS B E = 0 → Vc.IsGaps B E m.toNat R) (h4 : ¬ Vc.checkS B E = 0 → R = []) : P = R := by
  by_cases h : Vc.checkS B E = 0
  · exact Vc.gaps_one (h1 h) (h3 h)
  · rw [h2 h, h4 h]

set_option maxRecDepth 100000 in
set_option maxHeartbeats 1500000 in
theorem check_walk (r1 r2 : Option Addr) (c1 c2 : Nat) (B E : List Vc.D) (p c most : Int) (w : World) (s1 : Sl w r1 B) (s2 : Sl w r2 E) :
    Calls Try.prog 3 #[.agg #[.slice r1 B.length c1, .slice r2 E.length c2], .agg #[.int .i64 p, .int .i64 c], .int .i64 most] w fun e w' => e = .returned (.bool true) ∧ Below w.heap.size w w' := by
  have HB0 := hide ((below_alloc' (w := w) (.cells #[.slice r1 B.length c1, .slice r2 E.length c2] 24)).alloc (by simp) (.cells #[.int .i64 p, .int .i64 c] 26))
  have RS := hide ((VRow.new w 24 [.slice r1 B.length c1, .slice r2 E.length c2]).alloc (.cells #[.int .i64 p, .int .i64 c] 26))
  have RD := hide (VRow.newAt (W := w.alloc (.cells #[.slice r1 B.length c1, .slice r2 E.length c2] 24)) (T := 26) (n := w.heap.size + 1) (vs := [.int .i64 p, .int .i64 c]) (by simp))
  have KM := hide (many1 ((w.alloc (.cells #[.slice r1 B.length c1, .slice r2 E.length c2] 24)).alloc (.cells #[.int .i64 p, .int .i64 c] 26)) r1 r2 B.length c1 E.length c2)
  rw [World.size_alloc, World.size_alloc] at KM
  have S1 := hide (s1.after (unhide HB0))
  have S2 := hide (s2.after (unhide HB0))
  have rs0 := (unhide RS).cell 0 _ rfl
  have rs1 := (unhide RS).cell 1 _ rfl
  clear s1 s2
  by_cases h8 : 80 < B.length ∨ 60 < E.length
  · rw [decide_eq_true h8] at KM
    clear h8
    go_enter Try.func3, Try.ntmps3
    go_wp2_with fail
    refine (unhide KM).mono ?_
    rintro e w1 ⟨rfl, hw⟩
    subst hw
    have HB1 := hide ((unhide HB0).alloc (unhide HB0).size (.cells #[.slice r1 B.length c1, .slice r2 E.length c2] 24))
    go_wp2_with fail
    refine (awake_any _).mono ?_
    rintro e w9 ⟨rfl, hb⟩
    replace HB1 := hide (below_grow (unhide HB1) (Nat.le_refl _) hb)
    clear hb
    go_wp2_with fail
    go_ret
    exact ⟨rfl, unhide HB1⟩
  · rw [decide_eq_false h8] at KM
    by_cases h2 : 200 < most
    · have hd : decide (200 < most) = true := decide_eq_true h2
      clear h8 h2
      go_enter Try.func3, Try.ntmps3
      go_wp2_with fail
      refine (unhide KM).mono ?_
      rintro e w1 ⟨rfl, hw⟩
      subst hw
      have HB1 := hide ((unhide HB0).alloc (unhide HB0).size (.cells #[.slice r1 B.length c1, .slice r2 E.length c2] 24))
      go_wp2_with fail
      refine (awake_any _).mono ?_
      rintro e w9 ⟨rfl, hb⟩
      replace HB1 := hide (below_grow (unhide HB1) (Nat.le_refl _) hb)
      clear hb
      go_wp2_with fail
      go_ret
      exact ⟨rfl, unhide HB1⟩
    · have hd : decide (200 < most) = false := decide_eq_false h2
      have hBl : B.length ≤ 100000 := by omega
      have hEl : E.length ≤ 100000 := by omega
      have hml : most ≤ 1000 := by omega
      have K11 := hide fun W h h' => setCheck_any r1 r2 c1 c2 B E hBl hEl W h h'
      have K12 := hide fun W h h' => refSetCheck_any r1 r2 c1 c2 B E hBl hEl W h h'
      have K13 := hide fun W h h' => setHas_any r1 r2 c1 c2 B E hBl hEl p c W h h'
      have K14 := hide fun W h h' => refSetHas_any r1 r2 c1 c2 B E hBl hEl p c W h h'
      have K15 := hide fun W h h' => setLen_any r1 r2 c1 c2 B E hBl hEl W h h'
      have K16 := hide fun W h h' => refSetLen_any r1 r2 c1 c2 B E hBl hEl W h h'
      have K18 := hide fun W h h' => gapsS_any r1 r2 c1 c2 B E hBl hEl most hml W h h'
      have K19 := hide fun W h h' => refGapsS_any r1 r2 c1 c2 B E hBl hEl most hml W h h'
      have K10 := hide fun W => own_any r1 r2 B.length E.length c1 c2 W
      generalize Vc.checkS B E = X at K11 K12
      generalize hasS B E (p, c) = H at K13 K14
      generalize Vc.lenS B E = L at K15 K16
      have hX : (X != X) = false := by simp
      have hH : (H != H) = false := by simp
      have hL : (L != L) = false := by simp
      clear h8 h2 hBl hEl hml
      go_enter Try.func3, Try.ntmps3
      go_wp2_with fail
      refine (unhide KM).mono ?_
      rintro e w1 ⟨rfl, hw⟩
      have hb01 : Below ((w.alloc (.cells #[.slice r1 B.length c1, .slice r2 E.length c2] 24)).alloc (.cells #[.int .i64 p, .int .i64 c] 26)).heap.size ((w.alloc (.cells #[.slice r1 B.length c1, .slice r2 E.length c2] 24)).alloc (.cells #[.int .i64 p, .int .i64 c] 26)) w1 := by rw [hw]; exact below_alloc' _
      replace HB0 := hide (below_grow (unhide HB0) (Nat.le_refl _) hb01)
      replace RS := hide ((unhide RS).after hb01)
      replace RD := hide ((unhide RD).after hb01)
      replace S1 := hide ((unhide S1).after hb01)
      replace S2 := hide ((unhide S2).after hb01)
      clear hb01 hw rs0 rs1 KM
      have rs0 := (unhide RS).cell 0 _ rfl
      have rs1 := (unhide RS).cell 1 _ rfl
      go_wp2_with fail
      refine (unhide K10 _).mono ?_
      rintro e w2 ⟨rfl, hb⟩
      replace HB0 := hide (below_grow (unhide HB0) (Nat.le_refl _) hb)
      replace RS := hide ((unhide RS).after hb)
      replace RD := hide ((unhide RD).after hb)
      replace S1 := hide ((unhide S1).after hb)
      replace S2 := hide ((unhide S2).after hb)
      clear hb rs0 rs1
      go_wp2_with (refine store_row (by rfl) 29 _ _ (by rfl) w2.heap.size [.slice r1 B.length c1, .slice r2 E.length c2] (by rfl) (by rfl) 29 [.slice none 0 0, .slice none 0 0] (VRow.newAt rfl) 2 size29 rfl rfl (two_one _ _ _ _ _ _) ?_; intro w3 ho hr; have hbw := (below_alloc' (w := w2) (.cells #[.slice none 0 0, .slice none 0 0] 29)).trans (ho.below (Nat.le_refl _)); replace HB0 := hide (below_grow (unhide HB0) (Nat.le_refl _) hbw); replace RS := hide ((unhide RS).after hbw); replace RD := hide ((unhide RD).after hbw); replace S1 := hide ((unhide S1).after hbw); replace S2 := hide ((unhide S2).after hbw); have RX := hide hr; clear ho hr hbw)
      have x0 := cell_regrown ((unhide RS).cell 0 _ rfl)
      have x1 := cell_regrown ((unhide RS).cell 1 _ rfl)
      have x2 := cell_regrown ((unhide RX).cell 0 _ rfl)
      have x3 := cell_regrown ((unhide RX).cell 1 _ rfl)
      have x4 := cell_regrown ((unhide RD).cell 0 _ rfl)
      have x5 := cell_regrown ((unhide RD).cell 1 _ rfl)
      refine wp_region_quiet_below (by kernel_rfl) (by kernel_rfl) ?_
      repeat (quiet_step (first
        | (go_at_call 11; exact Calls.regrown_of (unhide K11 _ ((unhide S1).after (below_regrown _ _ _)) ((unhide S2).after (below_regrown _ _ _))))
        | (go_at_call 12; exact Calls.regrown_of (unhide K12 _ ((unhide S1).after (below_regrown _ _ _)) ((unhide S2).after (below_regrown _ _ _))))
        | (go_at_call 13; exact Calls.regrown_of (unhide K13 _ ((unhide S1).after (below_regrown _ _ _)) ((unhide S2).after (below_regrown _ _ _))))
        | (go_at_call 14; exact Calls.regrown_of (unhide K14 _ ((unhide S1).after (below_regrown _ _ _)) ((unhide S2).after (below_regrown _ _ _))))
        | (go_at_call 15; exact Calls.regrown_of (unhide K15 _ ((unhide S1).after (below_regrown _ _ _)) ((unhide S2).after (below_regrown _ _ _))))
        | (go_at_call 16; exact Calls.regrown_of (unhide K16 _ ((unhide S1).after (below_regrown _ _ _)) ((unhide S2).after (below_regrown _ _ _))))))
      refine wpQuiet_nil ?_
      intro _ hw'
      obtain ⟨⟨dq, osq⟩, hw''⟩ := hw'
      subst hw''
      have hb34 := below_regrown w3 dq osq
      replace HB0 := hide (below_grow (unhide HB0) (Nat.le_refl _) hb34)
      replace RS := hide ((unhide RS).after hb34)
      replace RX := hide ((unhide RX).after hb34)
      replace S1 := hide ((unhide S1).after hb34)
      replace S2 := hide ((unhide S2).after hb34)
      clear hb34 x0 x1 x2 x3 x4 x5 K11 K12 K13 K14 K15 K16 RD
      generalize Go.Sort.grow (redrawn w3 dq) osq = w4 at HB0 RS RX S1 S2 ⊢
      go_wp2_with fail
      have SB : Hid (∀ w', Below w4.heap.size w4 w' → w'.cell? ⟨w.heap.size, 0, none⟩ = some (.slice r1 B.length c1) ∧ w'.cell? ⟨w.heap.size, 1, none⟩ = some (.slice r2 E.length c2) ∧ w'.cell? ⟨w2.heap.size, 0, none⟩ = some (.slice r1 B.length c1) ∧ w'.cell? ⟨w2.heap.size, 1, none⟩ = some (.slice r2 E.length c2) ∧ Below w4.heap.size w4 w') :=
        hide (fun w' hb => ⟨((unhide RS).after hb).cell 0 _ rfl, ((unhide RS).after hb).cell 1 _ rfl, ((unhide RX).after hb).cell 0 _ rfl, ((unhide RX).after hb).cell 1 _ rfl, hb⟩)
      go_region_held3 (fun w' => w'.cell? ⟨w.heap.size, 0, none⟩ = some (.slice r1 B.length c1) ∧ w'.cell? ⟨w.heap.size, 1, none⟩ = some (.slice r2 E.length c2) ∧ w'.cell? ⟨w2.heap.size, 0, none⟩ = some (.slice r1 B.length c1) ∧ w'.cell? ⟨w2.heap.size, 1, none⟩ = some (.slice r2 E.length c2) ∧ Below w4.heap.size w4 w')
        (first
          | exact unhide SB _ (below_drew (Below.refl _ _))
          | exact unhide SB _ (below_grow (And.right (And.right (And.right (And.right (by assumption))))) (Nat.le_refl _) (by assumption)))
        (first
          | (go_at_call 18; refine (unhide K18 _ ((unhide S1).after (And.right (And.right (And.right (And.right (by assumption)))))) ((unhide S2).after (And.right (And.right (And.right (And.right (by assumption))))))).mono ?_; rintro e w5 ⟨P, rg, cg, rfl, _, hsg, hb5, hPl, hP1, hP2⟩; have HP1 := hide hP1; have HP2 := hide hP2; have HPL : Hid (P.length ≤ 100000) := hide (by omega); clear hP1 hP2)
          | (go_at_call 19; refine (unhide K19 _ ((unhide S1).after (And.right (And.right (And.right (And.right (by assumption)))))) ((unhide S2).after (And.right (And.right (And.right (And.right (by assumption))))))).mono ?_; rintro e w6 ⟨R, rh, ch, rfl, _, hsh, hb6, hRl, hR1, hR2⟩; have HR1 := hide hR1; have HR2 := hide hR2; clear hR1 hR2)
          | (go_at_call 17; refine (refSameS_any rg none rh none cg 0 ch 0 P [] R [] (unhide HPL) (by simp) _ (hsg.after hb6) (Sl.none _ _) hsh (Sl.none _ _) true (by simp [made_same (unhide HP1) (unhide HP2) (unhide HR1) (unhide HR2)])).mono ?_; rintro e w7 ⟨rfl, hb7⟩)
          | (go_at_call 9; refine (awake_any _).mono ?_; rintro e w8 ⟨rfl, hb8⟩))
      go_wp2_with fail
      go_ret
      exact ⟨rfl, below_grow (unhide HB0) (Nat.le_refl _) (And.right (And.right (And.right (And.right (by assumption)))))⟩
end Go.Proofs.Ytpcfblpenealbaa
