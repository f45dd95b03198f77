/-
  What Within of sets answers, the document's.
-/
import Derived.Test.YtpcfblpenealbaaRefJoinS
namespace Go.Proofs.Ytpcfblpenealbaa
open Go.RowKit

set_option maxRecDepth 100000 in
set_option maxHeartbeats 2000000 in
theorem refWithinS_any (r1 r2 q1 q2 : Option Addr) (c1 c2 d1 d2 : Nat) (B E B2 E2 : List Vc.D) (hB : B.length ≤ 40000) (hE : E.length ≤ 40000) (hB2 : B2.length ≤ 40000) (hE2 : E2.length ≤ 40000) (w : World) (s1 : Sl w r1 B) (s2 : Sl w r2 E) (t1 : Sl w q1 B2) (t2 : Sl w q2 E2) (D : Bool) (hD : D = true ↔ WithinP B E B2 E2) :
    Calls Try.prog 26 #[.agg #[.slice r1 B.length c1, .slice r2 E.length c2], .agg #[.slice q1 B2.length d1, .slice q2 E2.length d2]] w fun e w' => e = .returned (.bool D) ∧ Below w.heap.size w w' := by
  have HB0 := hide ((below_alloc' (w := w) (.cells #[.slice r1 B.length c1, .slice r2 E.length c2] 24)).alloc (by simp) (.cells #[.slice q1 B2.length d1, .slice q2 E2.length d2] 24))
  have RS := hide ((VRow.new w 24 [.slice r1 B.length c1, .slice r2 E.length c2]).alloc (.cells #[.slice q1 B2.length d1, .slice q2 E2.length d2] 24))
  have RT := hide (VRow.newAt (W := w.alloc (.cells #[.slice r1 B.length c1, .slice r2 E.length c2] 24)) (T := 24) (n := w.heap.size + 1) (vs := [.slice q1 B2.length d1, .slice q2 E2.length d2]) (by simp))
  have S1 := hide (s1.after (unhide HB0))
  have S2 := hide (s2.after (unhide HB0))
  have T1 := hide (t1.after (unhide HB0))
  have T2 := hide (t2.after (unhide HB0))
  have KC := hide fun W h h' => refSetCheck_any r1 r2 c1 c2 B E (by omega) (by omega) W h h'
  have KD := hide fun W h h' => refSetCheck_any q1 q2 d1 d2 B2 E2 (by omega) (by omega) W h h'
  have KJ := hide fun W h1 h2 h3 h4 => refJoinS_any r1 r2 q1 q2 c1 c2 d1 d2 B E B2 E2 hB hE hB2 hE2 W h1 h2 h3 h4
  have rs0 := (unhide RS).cell 0 _ rfl
  have rs1 := (unhide RS).cell 1 _ rfl
  have rt0 := (unhide RT).cell 0 _ rfl
  have rt1 := (unhide RT).cell 1 _ rfl
  clear s1 s2 t1 t2
  by_cases hz : Vc.checkS B E = 0
  · by_cases he : Vc.checkS B2 E2 = 0
    · rw [hz] at KC
      rw [he] at KD
      have HOK : Hid (Vc.checkS B E = 0 ∧ Vc.checkS B2 E2 = 0) := hide ⟨hz, he⟩
      have HD := hide hD
      clear hz he hD
      go_enter Try.func26, Try.ntmps26
      go_wp2_with fail
      generalize (w.alloc (.cells #[.slice r1 B.length c1, .slice r2 E.length c2] 24)).alloc (.cells #[.slice q1 B2.length d1, .slice q2 E2.length d2] 24) = w0 at HB0 RS RT S1 S2 T1 T2 rs0 rs1 rt0 rt1 ⊢
      refine (unhide KC _ (unhide S1) (unhide S2)).mono ?_
      rintro e w1 ⟨rfl, hb⟩
      replace HB0 := hide (below_grow (unhide HB0) (Nat.le_refl _) hb)
      replace RS := hide ((unhide RS).after hb)
      replace RT := hide ((unhide RT).after hb)
      replace S1 := hide ((unhide S1).after hb)
      replace S2 := hide ((unhide S2).after hb)
      replace T1 := hide ((unhide T1).after hb)
      replace T2 := hide ((unhide T2).after hb)
      clear hb
      clear rs0 rs1 rt0 rt1
      have rs0 := (unhide RS).cell 0 _ rfl
      have rs1 := (unhide RS).cell 1 _ rfl
      have rt0 := (unhide RT).cell 0 _ rfl
      have rt1 := (unhide RT).cell 1 _ rfl
      go_wp2_with fail
      refine (unhide KD _ (unhide T1) (unhide T2)).mono ?_
      rintro e w2 ⟨rfl, hb⟩
      replace HB0 := hide (below_grow (unhide HB0) (Nat.le_refl _) hb)
      replace RS := hide ((unhide RS).after hb)
      replace RT := hide ((unhide RT).after hb)
      replace S1 := hide ((unhide S1).after hb)
      replace S2 := hide ((unhide S2).after hb)
      replace T1 := hide ((unhide T1).after hb)
      replace T2 := hide ((unhide T2).after hb)
      clear hb
      clear rs0 rs1 rt0 rt1
      have SB : Hid (∀ w', Below w2.heap.size w2 w' → w'.cell? ⟨w.heap.size, 0, none⟩ = some (.slice r1 B.length c1) ∧ w'.cell? ⟨w.heap.size, 1, none⟩ = some (.slice r2 E.length c2) ∧ w'.cell? ⟨w.heap.size + 1, 0, none⟩ = some (.slice q1 B2.length d1) ∧ w'.cell? ⟨w.heap.size + 1, 1, none⟩ = some (.slice q2 E2.length d2) ∧ Below w2.heap.size w2 w') :=
        hide (fun w' hb => ⟨((unhide RS).after hb).cell 0 _ rfl, ((unhide RS).after hb).cell 1 _ rfl, ((unhide RT).after hb).cell 0 _ rfl, ((unhide RT).after hb).cell 1 _ rfl, hb⟩)
      go_wp2_with fail
      go_region_held3 (fun w' => w'.cell? ⟨w.heap.size, 0, none⟩ = some (.slice r1 B.length c1) ∧ w'.cell? ⟨w.heap.size, 1, none⟩ = some (.slice r2 E.length c2) ∧ w'.cell? ⟨w.heap.size + 1, 0, none⟩ = some (.slice q1 B2.length d1) ∧ w'.cell? ⟨w.heap.size + 1, 1, none⟩ = some (.slice q2 E2.length d2) ∧ Below w2.heap.size w2 w')
        (first
          | exact unhide SB _ (below_drew (Below.refl _ _))
          | exact unhide SB _ (below_grow (And.right (And.right (And.right (And.right (by assumption))))) (Nat.le_refl _) (by assumption)))
        (first
          | (go_at_call 24; refine (unhide KJ _ ((unhide S1).after (And.right (And.right (And.right (And.right (by assumption)))))) ((unhide S2).after (And.right (And.right (And.right (And.right (by assumption)))))) ((unhide T1).after (And.right (And.right (And.right (And.right (by assumption)))))) ((unhide T2).after (And.right (And.right (And.right (And.right (by assumption))))))).mono ?_; rintro e w3 ⟨v, B', E', rfl, ⟨rA, cA, rE, cE, rfl, _, _, hsA, hsE⟩, hb3, hEl, hBl, hgood, _⟩; have HS := hide (within_same ((Vc.checkS_zero B2 E2).1 (unhide HOK).2) (hgood (unhide HOK)).1 (hgood (unhide HOK)).2); clear hgood)
          | (go_at_call 17; refine (refSameS_any rA rE q1 q2 cA cE d1 d2 B' E' B2 E2 (by omega) (by omega) _ hsA hsE ((unhide T1).after (And.right (And.right (And.right (And.right (by assumption)))))) ((unhide T2).after (And.right (And.right (And.right (And.right (by assumption)))))) D ((unhide HD).trans ⟨fun h => (unhide HS).2 h.2.2, fun h => ⟨(unhide HOK).1, (unhide HOK).2, (unhide HS).1 h⟩⟩)).mono ?_; rintro e w4 ⟨rfl, hb4⟩))
      all_goals rename_i hHeld
      all_goals have hb9 := hHeld.2.2.2.2
      all_goals clear hHeld
      all_goals go_wp2_with fail
      all_goals go_ret
      all_goals exact ⟨rfl, below_grow (unhide HB0) (Nat.le_refl _) hb9⟩
    · rw [hz] at KC
      have hzb : (Vc.checkS B2 E2 != 0) = true := bne_iff_ne.2 he
      obtain rfl : D = false := by
        cases D with
        | false => rfl
        | true => exact absurd (hD.1 rfl).2.1 he
      have KD' : Hid (∀ W, Sl W q1 B2 → Sl W q2 E2 → Calls Try.prog 12 #[.agg #[.slice q1 B2.length d1, .slice q2 E2.length d2]] W fun e w' => e = .returned (.int .i64 (Vc.checkS B2 E2)) ∧ Below W.heap.size W w') := KD
      obtain ⟨X, hX⟩ : ∃ X, Vc.checkS B2 E2 = X := ⟨_, rfl⟩
      rw [hX] at KD' hzb
      clear KD hX he hD
      have KD := KD'
      clear KD'
      go_enter Try.func26, Try.ntmps26
      go_wp2_with fail
      generalize (w.alloc (.cells #[.slice r1 B.length c1, .slice r2 E.length c2] 24)).alloc (.cells #[.slice q1 B2.length d1, .slice q2 E2.length d2] 24) = w0 at HB0 RS RT S1 S2 T1 T2 rs0 rs1 rt0 rt1 ⊢
      refine (unhide KC _ (unhide S1) (unhide S2)).mono ?_
      rintro e w1 ⟨rfl, hb⟩
      replace HB0 := hide (below_grow (unhide HB0) (Nat.le_refl _) hb)
      replace RS := hide ((unhide RS).after hb)
      replace RT := hide ((unhide RT).after hb)
      replace S1 := hide ((unhide S1).after hb)
      replace S2 := hide ((unhide S2).after hb)
      replace T1 := hide ((unhide T1).after hb)
      replace T2 := hide ((unhide T2).after hb)
      clear hb
      clear rs0 rs1 rt0 rt1
      have rs0 := (unhide RS).cell 0 _ rfl
      have rs1 := (unhide RS).cell 1 _ rfl
      have rt0 := (unhide RT).cell 0 _ rfl
      have rt1 := (unhide RT).cell 1 _ rfl
      go_wp2_with fail
      refine (unhide KD _ (unhide T1) (unhide T2)).mono ?_
      rintro e w2 ⟨rfl, hb⟩
      replace HB0 := hide (below_grow (unhide HB0) (Nat.le_refl _) hb)
      replace RS := hide ((unhide RS).after hb)
      replace RT := hide ((unhide RT).after hb)
      replace S1 := hide ((unhide S1).after hb)
      replace S2 := hide ((unhide S2).after hb)
      replace T1 := hide ((unhide T1).after hb)
      replace T2 := hide ((unhide T2).after hb)
      clear hb
      clear rs0 rs1 rt0 rt1
      go_wp2_with fail
      go_ret
      exact ⟨rfl, unhide HB0⟩
  · have hzb : (Vc.checkS B E != 0) = true := bne_iff_ne.2 hz
    obtain rfl : D = false := by
      cases D with
      | false => rfl
      | true => exact absurd (hD.1 rfl).1 hz
    have KC' : Hid (∀ W, Sl W r1 B → Sl W r2 E → Calls Try.prog 12 #[.agg #[.slice r1 B.length c1, .slice r2 E.length c2]] W fun e w' => e = .returned (.int .i64 (Vc.checkS B E)) ∧ Below W.heap.size W w') := KC
    obtain ⟨X, hX⟩ : ∃ X, Vc.checkS B E = X := ⟨_, rfl⟩
    rw [hX] at KC' hzb
    clear KC hX hz hD
    have KC := KC'
    clear KC'
    go_enter Try.func26, Try.ntmps26
    go_wp2_with fail
    generalize (w.alloc (.cells #[.slice r1 B.length c1, .slice r2 E.length c2] 24)).alloc (.cells #[.slice q1 B2.length d1, .slice q2 E2.length d2] 24) = w0 at HB0 RS RT S1 S2 T1 T2 rs0 rs1 rt0 rt1 ⊢
    refine (unhide KC _ (unhide S1) (unhide S2)).mono ?_
    rintro e w1 ⟨rfl, hb⟩
    replace HB0 := hide (below_grow (unhide HB0) (Nat.le_refl _) hb)
    replace RS := hide ((unhide RS).after hb)
    replace RT := hide ((unhide RT).after hb)
    replace S1 := hide ((unhide S1).after hb)
    replace S2 := hide ((unhide S2).after hb)
    replace T1 := hide ((unhide T1).after hb)
    replace T2 := hide ((unhide T2).after hb)
    clear hb
    clear rs0 rs1 rt0 rt1
    have rs0 := (unhide RS).cell 0 _ rfl
    have rs1 := (unhide RS).cell 1 _ rfl
    have rt0 := (unhide RT).cell 0 _ rfl
    have rt1 := (unhide RT).cell 1 _ rfl
    go_wp2_with fail
    go_ret
    exact ⟨rfl, unhide HB0⟩
end Go.Proofs.Ytpcfblpenealbaa
