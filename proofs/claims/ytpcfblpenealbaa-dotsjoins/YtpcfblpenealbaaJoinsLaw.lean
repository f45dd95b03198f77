/-
  The walk of the statement on what two sets are together.
-/
import Derived.Test.YtpcfblpenealbaaRefWithinS
import Derived.Test.YtpcfblpenealbaaMany
namespace Go.Proofs.Ytpcfblpenealbaa
open Go.RowKit

theorem joins_same {B E B2 E2 B1 E1 B3 E3 : List Vc.D}
    (g1 : Vc.checkS B E = 0 ∧ Vc.checkS B2 E2 = 0 → Vc.SetOk B1 E1 ∧ ∀ x, Vc.In B1 E1 x ↔ Vc.In B E x ∨ Vc.In B2 E2 x) (b1 : ¬ (Vc.checkS B E = 0 ∧ Vc.checkS B2 E2 = 0) → B1 = [] ∧ E1 = [])
    (g3 : Vc.checkS B E = 0 ∧ Vc.checkS B2 E2 = 0 → Vc.SetOk B3 E3 ∧ ∀ x, Vc.In B3 E3 x ↔ Vc.In B E x ∨ Vc.In B2 E2 x) (b3 : ¬ (Vc.checkS B E = 0 ∧ Vc.checkS B2 E2 = 0) → B3 = [] ∧ E3 = []) : B1 = B3 ∧ E1 = E3 := by
  by_cases h : Vc.checkS B E = 0 ∧ Vc.checkS B2 E2 = 0
  · exact Vc.set_ext (g1 h).1 (g3 h).1 fun x => ((g1 h).2 x).trans ((g3 h).2 x).symm
  · rw [(b1 h).1, (b1 h).2, (b3 h).1, (b3 h).2]
    exact ⟨rfl, rfl⟩

set_option maxRecDepth 100000 in
set_option maxHeartbeats 2000000 in
theorem joins_walk (r1 r2 : Option Addr) (c1 c2 : Nat) (B E : List Vc.D) (hc1 : B.length ≤ c1) (hc2 : E.length ≤ c2) (q1 q2 : Option Addr) (d1 d2 : Nat) (B2 E2 : List Vc.D) (hd1 : B2.length ≤ d1) (hd2 : E2.length ≤ d2) (w : World) (s1 : Sl w r1 B) (s2 : Sl w r2 E) (t1 : Sl w q1 B2) (t2 : Sl w q2 E2) :
    Calls Try.prog 5 #[.agg #[.slice r1 B.length c1, .slice r2 E.length c2], .agg #[.slice q1 B2.length d1, .slice q2 E2.length d2]] w fun e w' => e = .returned (.bool true) ∧ Below w.heap.size w w' := by
  have HB0 := hide ((below_alloc' (w := w) (.cells #[.slice r1 B.length c1, .slice r2 E.length c2] 24)).alloc (by simp) (.cells #[.slice q1 B2.length d1, .slice q2 E2.length d2] 24))
  have RS := hide ((VRow.new w 24 [.slice r1 B.length c1, .slice r2 E.length c2]).alloc (.cells #[.slice q1 B2.length d1, .slice q2 E2.length d2] 24))
  have RT := hide (VRow.newAt (W := w.alloc (.cells #[.slice r1 B.length c1, .slice r2 E.length c2] 24)) (T := 24) (n := w.heap.size + 1) (vs := [.slice q1 B2.length d1, .slice q2 E2.length d2]) (by simp))
  have KM := hide (many2 ((w.alloc (.cells #[.slice r1 B.length c1, .slice r2 E.length c2] 24)).alloc (.cells #[.slice q1 B2.length d1, .slice q2 E2.length d2] 24)) r1 r2 q1 q2 B.length c1 E.length c2 B2.length d1 E2.length d2)
  rw [World.size_alloc, World.size_alloc] at KM
  have S1 := hide (s1.after (unhide HB0))
  have S2 := hide (s2.after (unhide HB0))
  have T1 := hide (t1.after (unhide HB0))
  have T2 := hide (t2.after (unhide HB0))
  have rs0 := (unhide RS).cell 0 _ rfl
  have rs1 := (unhide RS).cell 1 _ rfl
  have rt0 := (unhide RT).cell 0 _ rfl
  have rt1 := (unhide RT).cell 1 _ rfl
  clear s1 s2 t1 t2
  by_cases h8 : (80 < B.length ∨ 60 < E.length) ∨ (80 < B2.length ∨ 60 < E2.length)
  · rw [decide_eq_true h8] at KM
    clear h8
    go_enter Try.func5, Try.ntmps5
    go_wp2_with fail
    refine (unhide KM).mono ?_
    rintro e w1 ⟨rfl, hw⟩
    subst hw
    have HB1 := hide ((unhide HB0).alloc (unhide HB0).size (.cells #[.slice r1 B.length c1, .slice r2 E.length c2, .slice q1 B2.length d1, .slice q2 E2.length d2] 24))
    go_wp2_with fail
    refine (awake_any _).mono ?_
    rintro e w9 ⟨rfl, hb⟩
    replace HB1 := hide (below_grow (unhide HB1) (Nat.le_refl _) hb)
    clear hb
    go_wp2_with fail
    go_ret
    exact ⟨rfl, unhide HB1⟩
  · rw [decide_eq_false h8] at KM
    obtain ⟨D, hD⟩ : ∃ D : Bool, D = true ↔ WithinP B E B2 E2 := ⟨@decide (WithinP B E B2 E2) (Classical.propDecidable _), @decide_eq_true_iff (WithinP B E B2 E2) (Classical.propDecidable _)⟩
    have hDD : (D == D) = true := by simp
    have K10 := hide fun W => own_any r1 r2 B.length E.length c1 c2 W
    have L10 := hide fun W => own_any q1 q2 B2.length E2.length d1 d2 W
    have K23 := hide fun W h1 h2 h3 h4 => joinS_any r1 r2 q1 q2 c1 c2 d1 d2 B E B2 E2 (by omega) (by omega) (by omega) (by omega) hc1 hc2 hd1 hd2 W h1 h2 h3 h4
    have K24 := hide fun W h1 h2 h3 h4 => refJoinS_any r1 r2 q1 q2 c1 c2 d1 d2 B E B2 E2 (by omega) (by omega) (by omega) (by omega) W h1 h2 h3 h4
    have K25 := hide fun W h1 h2 h3 h4 => withinS_any r1 r2 q1 q2 c1 c2 d1 d2 B E B2 E2 (by omega) (by omega) (by omega) (by omega) hc1 hc2 hd1 hd2 W h1 h2 h3 h4 D hD
    have K26 := hide fun W h1 h2 h3 h4 => refWithinS_any r1 r2 q1 q2 c1 c2 d1 d2 B E B2 E2 (by omega) (by omega) (by omega) (by omega) W h1 h2 h3 h4 D hD
    have hEl : E.length + E2.length ≤ 120 := by omega
    clear h8 hD
    go_enter Try.func5, Try.ntmps5
    go_wp2_with fail
    refine (unhide KM).mono ?_
    rintro e w1 ⟨rfl, hw⟩
    have hb01 : Below ((w.alloc (.cells #[.slice r1 B.length c1, .slice r2 E.length c2] 24)).alloc (.cells #[.slice q1 B2.length d1, .slice q2 E2.length d2] 24)).heap.size ((w.alloc (.cells #[.slice r1 B.length c1, .slice r2 E.length c2] 24)).alloc (.cells #[.slice q1 B2.length d1, .slice q2 E2.length d2] 24)) w1 := by rw [hw]; exact below_alloc' _
    replace HB0 := hide (below_grow (unhide HB0) (Nat.le_refl _) hb01)
    replace RS := hide ((unhide RS).after hb01)
    replace RT := hide ((unhide RT).after hb01)
    replace S1 := hide ((unhide S1).after hb01)
    replace S2 := hide ((unhide S2).after hb01)
    replace T1 := hide ((unhide T1).after hb01)
    replace T2 := hide ((unhide T2).after hb01)
    clear hb01 hw rs0 rs1 rt0 rt1 KM
    have SB : Hid (∀ w', Below w1.heap.size w1 w' → w'.cell? ⟨w.heap.size, 0, none⟩ = some (.slice r1 B.length c1) ∧ w'.cell? ⟨w.heap.size, 1, none⟩ = some (.slice r2 E.length c2) ∧ w'.cell? ⟨w.heap.size + 1, 0, none⟩ = some (.slice q1 B2.length d1) ∧ w'.cell? ⟨w.heap.size + 1, 1, none⟩ = some (.slice q2 E2.length d2) ∧ Below w1.heap.size w1 w') :=
      hide (fun w' hb => ⟨((unhide RS).after hb).cell 0 _ rfl, ((unhide RS).after hb).cell 1 _ rfl, ((unhide RT).after hb).cell 0 _ rfl, ((unhide RT).after hb).cell 1 _ rfl, hb⟩)
    go_wp2_with fail
    go_region_held3 (fun w' => w'.cell? ⟨w.heap.size, 0, none⟩ = some (.slice r1 B.length c1) ∧ w'.cell? ⟨w.heap.size, 1, none⟩ = some (.slice r2 E.length c2) ∧ w'.cell? ⟨w.heap.size + 1, 0, none⟩ = some (.slice q1 B2.length d1) ∧ w'.cell? ⟨w.heap.size + 1, 1, none⟩ = some (.slice q2 E2.length d2) ∧ Below w1.heap.size w1 w')
      (first
        | exact unhide SB _ (below_drew (Below.refl _ _))
        | exact unhide SB _ (below_grow (And.right (And.right (And.right (And.right (by assumption))))) (Nat.le_refl _) (by assumption)))
      (first
        | (go_at_call 10; (first | (refine (unhide K10 _).mono ?_; rintro e wa ⟨rfl, hba⟩) | (refine (unhide L10 _).mono ?_; rintro e wb ⟨rfl, hbb⟩)))
        | (go_at_call 23; refine (unhide K23 _ ((unhide S1).after (And.right (And.right (And.right (And.right (by assumption)))))) ((unhide S2).after (And.right (And.right (And.right (And.right (by assumption)))))) ((unhide T1).after (And.right (And.right (And.right (And.right (by assumption)))))) ((unhide T2).after (And.right (And.right (And.right (And.right (by assumption))))))).mono ?_; rintro e w3 ⟨v, B1, E1, rfl, ⟨rA, cA, rE, cE, rfl, _, _, hsA, hsE⟩, hb3, hEl1, hBl1, hgood, hbad⟩; have HG := hide hgood; have HBD := hide hbad; clear hgood hbad)
        | (go_at_call 22; refine (its_any rA rE B1.length E1.length cA cE _).mono ?_; rintro e w4 ⟨rfl, hb4⟩; have hsA4 := hsA.after hb4; have hsE4 := hsE.after hb4)
        | (go_at_call 24; refine (unhide K24 _ ((unhide S1).after (And.right (And.right (And.right (And.right (by assumption)))))) ((unhide S2).after (And.right (And.right (And.right (And.right (by assumption)))))) ((unhide T1).after (And.right (And.right (And.right (And.right (by assumption)))))) ((unhide T2).after (And.right (And.right (And.right (And.right (by assumption))))))).mono ?_; rintro e w5 ⟨v, B3, E3, rfl, ⟨rF, cF, rG, cG, rfl, _, _, hsF, hsG⟩, hb5, _, _, hgood, hbad⟩; obtain ⟨rfl, rfl⟩ := joins_same (unhide HG) (unhide HBD) hgood hbad; have hsA5 := hsA4.after hb5; have hsE5 := hsE4.after hb5; clear hgood hbad)
        | (go_at_call 17; refine (refSameS_any rA rE rF rG cA cE cF cG B1 E1 B1 E1 (by omega) (by omega) _ hsA5 hsE5 hsF hsG true (by simp)).mono ?_; rintro e w6 ⟨rfl, hb6⟩)
        | (go_at_call 25; refine (unhide K25 _ ((unhide S1).after (And.right (And.right (And.right (And.right (by assumption)))))) ((unhide S2).after (And.right (And.right (And.right (And.right (by assumption)))))) ((unhide T1).after (And.right (And.right (And.right (And.right (by assumption)))))) ((unhide T2).after (And.right (And.right (And.right (And.right (by assumption))))))).mono ?_; rintro e w7 ⟨rfl, hb7⟩)
        | (go_at_call 26; refine (unhide K26 _ ((unhide S1).after (And.right (And.right (And.right (And.right (by assumption)))))) ((unhide S2).after (And.right (And.right (And.right (And.right (by assumption)))))) ((unhide T1).after (And.right (And.right (And.right (And.right (by assumption)))))) ((unhide T2).after (And.right (And.right (And.right (And.right (by assumption))))))).mono ?_; rintro e w8 ⟨rfl, hb8⟩)
        | (go_at_call 9; refine (awake_any _).mono ?_; rintro e w9 ⟨rfl, hb9⟩))
    all_goals rename_i hHeld
    all_goals have hbz := hHeld.2.2.2.2
    all_goals clear hHeld
    all_goals go_wp2_with fail
    all_goals go_ret
    all_goals exact ⟨by first | rfl | simp, below_grow (unhide HB0) (Nat.le_refl _) hbz⟩
end Go.Proofs.Ytpcfblpenealbaa
