/-
  What Within of sets answers, the program's.
-/
import Derived.Test.YtpcfblpenealbaaJoinS
namespace Go.Proofs.Ytpcfblpenealbaa
open Go.RowKit

/-- Another set has all. -/
def WithinP (B E B2 E2 : List Vc.D) : Prop := Vc.checkS B E = 0 ∧ Vc.checkS B2 E2 = 0 ∧ ∀ x, Vc.In B E x → Vc.In B2 E2 x
theorem within_same {B E B2 E2 B' E' : List Vc.D} (h2 : Vc.SetOk B2 E2) (h : Vc.SetOk B' E') (hm : ∀ x, Vc.In B' E' x ↔ Vc.In B E x ∨ Vc.In B2 E2 x) : (B' = B2 ∧ E' = E2) ↔ ∀ x, Vc.In B E x → Vc.In B2 E2 x := by
  constructor
  · rintro ⟨rfl, rfl⟩ x hx
    exact (hm x).2 (.inl hx)
  · intro hx
    exact Vc.set_ext h h2 fun x => ⟨fun h => ((hm x).1 h).elim (hx x) id, fun h => (hm x).2 (.inr h)⟩

set_option maxRecDepth 100000 in
set_option maxHeartbeats 2000000 in
theorem withinS_any (r1 r2 q1 q2 : Option Addr) (c1 c2 d1 d2 : Nat) (B E B2 E2 : List Vc.D) (hB : B.length ≤ 40000) (hE : E.length ≤ 40000) (hB2 : B2.length ≤ 40000) (hE2 : E2.length ≤ 40000) (hc1 : B.length ≤ c1) (hc2 : E.length ≤ c2) (hd1 : B2.length ≤ d1) (hd2 : E2.length ≤ d2) (w : World) (s1 : Sl w r1 B) (s2 : Sl w r2 E) (t1 : Sl w q1 B2) (t2 : Sl w q2 E2) (D : Bool) (hD : D = true ↔ WithinP B E B2 E2) :
    Calls Try.prog 25 #[.agg #[.slice r1 B.length c1, .slice r2 E.length c2], .agg #[.slice q1 B2.length d1, .slice q2 E2.length d2]] w fun e w' => e = .returned (.bool D) ∧ Below w.heap.size w w' := by
  have HB0 := hide ((below_alloc' (w := w) (.cells #[.slice r1 B.length c1, .slice r2 E.length c2] 29)).alloc (by simp) (.cells #[.slice q1 B2.length d1, .slice q2 E2.length d2] 29))
  have RS := hide ((VRow.new w 29 [.slice r1 B.length c1, .slice r2 E.length c2]).alloc (.cells #[.slice q1 B2.length d1, .slice q2 E2.length d2] 29))
  have RT := hide (VRow.newAt (W := w.alloc (.cells #[.slice r1 B.length c1, .slice r2 E.length c2] 29)) (T := 29) (n := w.heap.size + 1) (vs := [.slice q1 B2.length d1, .slice q2 E2.length d2]) (by simp))
  have S1 := hide (s1.after (unhide HB0))
  have S2 := hide (s2.after (unhide HB0))
  have T1 := hide (t1.after (unhide HB0))
  have T2 := hide (t2.after (unhide HB0))
  have KC := hide fun W h h' => setCheck_any r1 r2 c1 c2 B E (by omega) (by omega) W h h'
  have KD := hide fun W h h' => setCheck_any q1 q2 d1 d2 B2 E2 (by omega) (by omega) W h h'
  have KJ := hide fun W h1 h2 h3 h4 => joinS_any r1 r2 q1 q2 c1 c2 d1 d2 B E B2 E2 hB hE hB2 hE2 hc1 hc2 hd1 hd2 W h1 h2 h3 h4
  have rs0 := (unhide RS).cell 0 _ rfl
  have rs1 := (unhide RS).cell 1 _ rfl
  have rt0 := (unhide RT).cell 0 _ rfl
  have rt1 := (unhide RT).cell 1 _ rfl
  clear s1 s2 t1 t2
  by_cases hz : Vc.checkS B E = 0
  · by_cases he : Vc.checkS B2 E2 = 0
    · rw [hz] at KC
      rw [he] at KD
      have HOK : Hid (Vc.checkS B E = 0 ∧ Vc.checkS B2 E2 = 0) := hide ⟨hz, he⟩
      have HD := hide hD
      clear hz he hD
      go_enter Try.func25, Try.ntmps25
      go_wp2_with fail
      generalize (w.alloc (.cells #[.slice r1 B.length c1, .slice r2 E.length c2] 29)).alloc (.cells #[.slice q1 B2.length d1, .slice q2 E2.length d2] 29) = w0 at HB0 RS RT S1 S2 T1 T2 rs0 rs1 rt0 rt1 ⊢
      refine (unhide KC _ (unhide S1) (unhide S2)).mono ?_
      rintro e w1 ⟨rfl, hb⟩
      replace HB0 := hide (below_grow (unhide HB0) (Nat.le_refl _) hb)
      replace RS := hide ((unhide RS).after hb)
      replace RT := hide ((unhide RT).after hb)
      replace S1 := hide ((unhide S1).after hb)
      replace S2 := hide ((unhide S2).after hb)
      replace T1 := hide ((unhide T1).after hb)
      replace T2 := hide ((unhide T2).after hb)
      clear hb
      clear rs0 rs1 rt0 rt1
      have rs0 := (unhide RS).cell 0 _ rfl
      have rs1 := (unhide RS).cell 1 _ rfl
      have rt0 := (unhide RT).cell 0 _ rfl
      have rt1 := (unhide RT).cell 1 _ rfl
      go_wp2_with fail
      refine (unhide KD _ (unhide T1) (unhide T2)).mono ?_
      rintro e w2 ⟨rfl, hb⟩
      replace HB0 := hide (below_grow (unhide HB0) (Nat.le_refl _) hb)
      replace RS := hide ((unhide RS).after hb)
      replace RT := hide ((unhide RT).after hb)
      replace S1 := hide ((unhide S1).after hb)
      replace S2 := hide ((unhide S2).after hb)
      replace T1 := hide ((unhide T1).after hb)
      replace T2 := hide ((unhide T2).after hb)
      clear hb
      clear rs0 rs1 rt0 rt1
      have rs0 := (unhide RS).cell 0 _ rfl
      have rs1 := (unhide RS).cell 1 _ rfl
      have rt0 := (unhide RT).cell 0 _ rfl
      have rt1 := (unhide RT).cell 1 _ rfl
      go_wp2_with fail
      refine (unhide KJ _ (unhide S1) (unhide S2) (unhide T1) (unhide T2)).mono ?_
      rintro e w3 ⟨v, B', E', rfl, ⟨rA, cA, rE, cE, rfl, hcA, hcE, hsA, hsE⟩, hb, hEl, hBl, hgood, _⟩
      obtain ⟨m1, m2⟩ := hgood (unhide HOK)
      have HS := hide (within_same ((Vc.checkS_zero B2 E2).1 (unhide HOK).2) m1 m2)
      have U1 := hide hsA
      have U2 := hide hsE
      replace HB0 := hide (below_grow (unhide HB0) (Nat.le_refl _) hb)
      replace RS := hide ((unhide RS).after hb)
      replace RT := hide ((unhide RT).after hb)
      replace S1 := hide ((unhide S1).after hb)
      replace S2 := hide ((unhide S2).after hb)
      replace T1 := hide ((unhide T1).after hb)
      replace T2 := hide ((unhide T2).after hb)
      clear hb
      clear hgood m1 m2 hsA hsE rs0 rs1 rt0 rt1
      go_wp2_with (refine store_row (by rfl) 29 _ _ (by rfl) w3.heap.size [.slice rA B'.length cA, .slice rE E'.length cE] (by rfl) (by rfl) 29 [.slice none 0 0, .slice none 0 0] (VRow.newAt rfl) 2 size29 rfl rfl (two_one _ _ _ _ _ _) ?_; intro w4 ho hr; have hb := (below_alloc' (w := w3) (.cells #[.slice none 0 0, .slice none 0 0] 29)).trans (ho.below (Nat.le_refl _)); replace HB0 := hide (below_grow (unhide HB0) (Nat.le_refl _) hb); replace RT := hide ((unhide RT).after hb); replace T1 := hide ((unhide T1).after hb); replace T2 := hide ((unhide T2).after hb); replace U1 := hide ((unhide U1).after hb); replace U2 := hide ((unhide U2).after hb); have RU := hide hr; have ru0 := hr.cell 0 _ rfl; have ru1 := hr.cell 1 _ rfl; have rt0 := (unhide RT).cell 0 _ rfl; have rt1 := (unhide RT).cell 1 _ rfl; clear ho hr hb)
      by_cases hBB : B' = B2
      · have K1 := hide fun W h h' => same_any rA q1 cA d1 B' B2 (by omega) W h h' true (by simp [hBB])
        have K2 := hide fun W h h' => same_any rE q2 cE d2 E' E2 (by omega) W h h' D (by
          rw [unhide HD]
          constructor
          · intro h
            exact ((unhide HS).2 h.2.2).2
          · intro h
            exact ⟨(unhide HOK).1, (unhide HOK).2, (unhide HS).1 ⟨hBB, h⟩⟩)
        clear hBB
        refine (unhide K1 _ (unhide U1) (unhide T1)).mono ?_
        rintro e w5 ⟨rfl, hb⟩
        replace HB0 := hide (below_grow (unhide HB0) (Nat.le_refl _) hb)
        replace RT := hide ((unhide RT).after hb)
        replace RU := hide ((unhide RU).after hb)
        replace T2 := hide ((unhide T2).after hb)
        replace U2 := hide ((unhide U2).after hb)
        clear hb ru0 ru1 rt0 rt1
        have ru1 := (unhide RU).cell 1 _ rfl
        have rt1 := (unhide RT).cell 1 _ rfl
        go_wp2_with fail
        refine (unhide K2 _ (unhide U2) (unhide T2)).mono ?_
        rintro e w6 ⟨rfl, hb⟩
        replace HB0 := hide (below_grow (unhide HB0) (Nat.le_refl _) hb)
        clear hb
        go_wp2_with fail
        go_ret
        exact ⟨rfl, unhide HB0⟩
      · have K1 := hide fun W h h' => same_any rA q1 cA d1 B' B2 (by omega) W h h' false (by simp [hBB])
        obtain rfl : D = false := by
          cases D with
          | false => rfl
          | true => exact absurd ((unhide HS).2 ((unhide HD).1 rfl).2.2).1 hBB
        clear hBB
        refine (unhide K1 _ (unhide U1) (unhide T1)).mono ?_
        rintro e w5 ⟨rfl, hb⟩
        replace HB0 := hide (below_grow (unhide HB0) (Nat.le_refl _) hb)
        clear hb
        go_wp2_with fail
        go_ret
        exact ⟨rfl, unhide HB0⟩
    · rw [hz] at KC
      clear hz
      have hzb : (Vc.checkS B2 E2 != 0) = true := bne_iff_ne.2 he
      obtain rfl : D = false := by
        cases D with
        | false => rfl
        | true => exact absurd (hD.1 rfl).2.1 he
      have KD' : Hid (∀ W, Sl W q1 B2 → Sl W q2 E2 → Calls Try.prog 11 #[.agg #[.slice q1 B2.length d1, .slice q2 E2.length d2]] W fun e w' => e = .returned (.int .i64 (Vc.checkS B2 E2)) ∧ Below W.heap.size W w') := KD
      obtain ⟨X, hX⟩ : ∃ X, Vc.checkS B2 E2 = X := ⟨_, rfl⟩
      rw [hX] at KD' hzb
      clear KD hX he hD
      have KD := KD'
      clear KD'
      go_enter Try.func25, Try.ntmps25
      go_wp2_with fail
      generalize (w.alloc (.cells #[.slice r1 B.length c1, .slice r2 E.length c2] 29)).alloc (.cells #[.slice q1 B2.length d1, .slice q2 E2.length d2] 29) = w0 at HB0 RS RT S1 S2 T1 T2 rs0 rs1 rt0 rt1 ⊢
      refine (unhide KC _ (unhide S1) (unhide S2)).mono ?_
      rintro e w1 ⟨rfl, hb⟩
      replace HB0 := hide (below_grow (unhide HB0) (Nat.le_refl _) hb)
      replace RS := hide ((unhide RS).after hb)
      replace RT := hide ((unhide RT).after hb)
      replace S1 := hide ((unhide S1).after hb)
      replace S2 := hide ((unhide S2).after hb)
      replace T1 := hide ((unhide T1).after hb)
      replace T2 := hide ((unhide T2).after hb)
      clear hb
      clear rs0 rs1 rt0 rt1
      have rs0 := (unhide RS).cell 0 _ rfl
      have rs1 := (unhide RS).cell 1 _ rfl
      have rt0 := (unhide RT).cell 0 _ rfl
      have rt1 := (unhide RT).cell 1 _ rfl
      go_wp2_with fail
      refine (unhide KD _ (unhide T1) (unhide T2)).mono ?_
      rintro e w2 ⟨rfl, hb⟩
      replace HB0 := hide (below_grow (unhide HB0) (Nat.le_refl _) hb)
      replace RS := hide ((unhide RS).after hb)
      replace RT := hide ((unhide RT).after hb)
      replace S1 := hide ((unhide S1).after hb)
      replace S2 := hide ((unhide S2).after hb)
      replace T1 := hide ((unhide T1).after hb)
      replace T2 := hide ((unhide T2).after hb)
      clear hb
      clear rs0 rs1 rt0 rt1
      have rs0 := (unhide RS).cell 0 _ rfl
      have rs1 := (unhide RS).cell 1 _ rfl
      have rt0 := (unhide RT).cell 0 _ rfl
      have rt1 := (unhide RT).cell 1 _ rfl
      go_wp2_with fail
      go_ret
      exact ⟨rfl, unhide HB0⟩
  · have hzb : (Vc.checkS B E != 0) = true := bne_iff_ne.2 hz
    obtain rfl : D = false := by
      cases D with
      | false => rfl
      | true => exact absurd (hD.1 rfl).1 hz
    have KC' : Hid (∀ W, Sl W r1 B → Sl W r2 E → Calls Try.prog 11 #[.agg #[.slice r1 B.length c1, .slice r2 E.length c2]] W fun e w' => e = .returned (.int .i64 (Vc.checkS B E)) ∧ Below W.heap.size W w') := KC
    obtain ⟨X, hX⟩ : ∃ X, Vc.checkS B E = X := ⟨_, rfl⟩
    rw [hX] at KC' hzb
    clear KC hX hz hD
    have KC := KC'
    clear KC'
    go_enter Try.func25, Try.ntmps25
    go_wp2_with fail
    generalize (w.alloc (.cells #[.slice r1 B.length c1, .slice r2 E.length c2] 29)).alloc (.cells #[.slice q1 B2.length d1, .slice q2 E2.length d2] 29) = w0 at HB0 RS RT S1 S2 T1 T2 rs0 rs1 rt0 rt1 ⊢
    refine (unhide KC _ (unhide S1) (unhide S2)).mono ?_
    rintro e w1 ⟨rfl, hb⟩
    replace HB0 := hide (below_grow (unhide HB0) (Nat.le_refl _) hb)
    replace RS := hide ((unhide RS).after hb)
    replace RT := hide ((unhide RT).after hb)
    replace S1 := hide ((unhide S1).after hb)
    replace S2 := hide ((unhide S2).after hb)
    replace T1 := hide ((unhide T1).after hb)
    replace T2 := hide ((unhide T2).after hb)
    clear hb
    clear rs0 rs1 rt0 rt1
    have rs0 := (unhide RS).cell 0 _ rfl
    have rs1 := (unhide RS).cell 1 _ rfl
    have rt0 := (unhide RT).cell 0 _ rfl
    have rt1 := (unhide RT).cell 1 _ rfl
    go_wp2_with fail
    go_ret
    exact ⟨rfl, unhide HB0⟩
end Go.Proofs.Ytpcfblpenealbaa
