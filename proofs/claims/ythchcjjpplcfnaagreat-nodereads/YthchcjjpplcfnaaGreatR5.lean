/-
  A vector and a leaf that the document takes; what a text is by its words. Conditions: those that each theorem names.
-/
import Derived.Test.YthchcjjpplcfnaaGreatR4
namespace Go.Proofs.YthchcjjpplcfnaaGreat
open Go.RowKit

set_option maxRecDepth 100000 in
set_option maxHeartbeats 2000000 in
theorem refTakeVec_any {w : World} {q : Nat} {st : St} (h : Doc w q 44 st) (hs : st.1.length ≤ 50000000) :
    Calls Tryz.prog 42 #[.pointer (some ⟨q, 0, none⟩)] w (VecMade q 44 w (rVec st)) := by
  have hq := h.lt
  have HW := hide (DS.start h)
  have K1 := hide ((unhide HW).call3 fun hx => refNumberR_any q st 64 (by omega) _ hx)
  have HLEN := hide (rNumber_len st 64)
  have HL0 := hide hs
  have HN64 := hide (rCount st)
  have HV : Hid (rVec st = endD (itD (rNumber st 64).1.toNat (rNumber st 64).2)) := hide rfl
  have HEARLY := hide fun k hk hb => rVec_early (st := st) (k := k) hk hb
  obtain ⟨R, hR⟩ : ∃ R, rVec st = R := ⟨_, rfl⟩
  obtain ⟨N, e1, e2⟩ := count_nat st 64
  rw [e1] at K1
  rw [hR, e2] at HV
  rw [e2] at HN64
  rw [hR, e2] at HEARLY
  generalize (rNumber st 64).2 = S0 at K1 HLEN HV HEARLY
  have HLS : Hid (∀ k, (itD k S0).2.1.length ≤ 50000000) := hide fun k => by
    have h1 := itD_less k S0
    have := unhide HLEN
    have := unhide HL0
    omega
  rw [hR]
  have hN := unhide HN64
  clear h hs e1 e2 HLEN HL0 hR
  go_enter Tryz.func42, Tryz.ntmps42
  go_wp2_with fail
  refine (unhide K1).mono ?_
  rintro e w1 ⟨rfl, hd, _⟩
  have HD1 := hide hd
  clear hd
  go_wp2_with fail
  go_loopw [4, 5] (fun l i wr => ∃ k : Nat, k ≤ N ∧ i = .int .i64 k ∧ wr.ownsRow w.heap.size 67 2 l (itD k S0).1.length (flat (itD k S0).1) ∧ DS q 44 w (itD k S0).2 wr) (fun _ i _ => N - (intOf i).toNat)
  case atStart => exact ⟨0, Nat.zero_le _, rfl, World.ownsRow_nil _ _ _ _, unhide HD1⟩
  case round =>
    obtain ⟨k, hk, rfl, hown, hd⟩ := hrel
    have HOWN := hide hown
    have HD := hide hd
    have HSZ := hide hd.2.size
    have HLK := hide (unhide HLS k)
    have HKL := hide (itD_len k S0)
    have HX : Hid (itD (k + 1) S0 = ((itD k S0).1 ++ [(rDot (itD k S0).2).1], (rDot (itD k S0).2).2)) := hide rfl
    have HEA := hide (unhide HEARLY k hk)
    have HVK : Hid (k = N → R = endD (itD k S0)) := hide fun e => by rw [e]; exact unhide HV
    clear hown hd
    generalize itD k S0 = X at HOWN HD HLK HKL HX HEA HVK
    obtain ⟨L, SB, SE⟩ := X
    dsimp only at HOWN HD HLK HKL HX
    have c1 := (unhide HD).1.c1
    dsimp only at c1
    by_cases he : SE = 0
    · subst he
      by_cases hlt : k < N
      · have K1 := hide ((DS.start (unhide HD).1).call3 fun hx => refNumberR_any q (SB, 0) 63 (by have := unhide HLK; show SB.length ≤ 100000000; omega) _ hx)
        have HL1 := hide (rNumber_len (SB, 0) 63)
        have HX2 : Hid (itD (k + 1) S0 = (L ++ [((rNumber (SB, 0) 63).1, (rNumber (rNumber (SB, 0) 63).2 1048576).1)], (rNumber (rNumber (SB, 0) 63).2 1048576).2)) := hide (unhide HX)
        generalize rNumber (SB, 0) 63 = Y at K1 HL1 HX2
        obtain ⟨n1, S1⟩ := Y
        dsimp only at K1 HL1 HX2
        obtain ⟨Z, hZ⟩ : ∃ Z, rNumber S1 1048576 = Z := ⟨_, rfl⟩
        rw [hZ] at HX2
        have HZ := hide hZ
        obtain ⟨n2, S2⟩ := Z
        dsimp only at HX2
        clear hZ
        go_wp2_with fail
        refine (unhide K1).mono ?_
        rintro e w2 ⟨rfl, hd, _⟩
        have HI2 := hide hd
        have HSZ2 := hide hd.2.size
        clear hd c1
        go_wp2_with (refine store_row (by rfl) 67 _ _ (by rfl) w2.heap.size [.int .i64 n1, .int .i64 0] (by rfl) (by rfl) 67 zero67 (VRow.newAt rfl) 2 size67 rfl rfl (by simp [Value.oneCell']) ?_; intro w3 ho hr; have HI3 := hide (((unhide HI2).after (below_alloc' (.cells zero67.toArray 67))).only ho (unhide HSZ2) (by have := (unhide HI2).lt; omega)); have HR3 := hide hr; clear ho hr)
        have K2 := (unhide HI3).call3 fun hx => refNumberR_any q S1 1048576 (by have := unhide HLK; have := unhide HL1; omega) _ hx
        rw [unhide HZ] at K2
        refine K2.mono ?_
        rintro e w4 ⟨rfl, hd, hb⟩
        have hqD : w2.heap.size ≠ q := by have := (unhide HI2).lt; omega
        have HI4 := hide hd
        have hr4 := (unhide HR3).beside hb hqD
        have HR4 := hide hr4
        have f1 := hr4.frozen 1
        have z0 := hr4.cell 0 _ rfl
        have z1 := hr4.cell 1 _ rfl
        have HI5 := hide (DS.only hd (only_set w4 w2.heap.size 1 (.int .i64 n2)) (unhide HSZ2) (by omega))
        have HLT4 := hide hr4.lt
        clear hd hb K2 hr4
        go_wp2_with (at_builtin; refine append_dots rfl _ _ rfl w.heap.size _ L rfl (own_after (row_beside (unhide HOWN) (unhide HI5).2 hq) (below_alloc' _)) w4.heap.size 1 [(n1, n2)] (by first | rfl | simp) (sl_row (VRow.newAt (by simp))) (by simp) (by simp; have := unhide HKL; omega) (by simp; have := unhide HSZ; have := unhide HSZ2; have := unhide HLT4; omega) ?_; intro v3 w6 hown hb; have HOWN3 := hide hown; have HD3 := hide (((unhide HD).trans ((unhide HI5).after (below_alloc' _))).under (Nat.le_refl _) hq hb); clear hown hb)
        go_roundw
        case rel => exact ⟨k + 1, by omega, by go_num, by rw [unhide HX2]; exact unhide HOWN3, by rw [unhide HX2]; exact unhide HD3⟩
        case measure => simp [intOf]; omega
      · obtain rfl : k = N := by omega
        obtain ⟨a, cap, e, hcap, hsl, hfr⟩ := own_slF rfl (unhide HOWN)
        have HCAP := hide hcap
        have HSL := hide hsl
        have HFR := hide hfr
        have hll : L.length ≤ 64 := by have := unhide HKL; omega
        subst e
        have KC := hide fun W h => refCheck_any a cap L (by omega) W h
        obtain ⟨C, hC⟩ : ∃ C, Vc.check L = C := ⟨_, rfl⟩
        have HE : Hid (R = (if (fail (SB, 0) C).2 ≠ 0 then [] else L, fail (SB, 0) C)) := hide (by rw [unhide HVK rfl]; unfold endD; rw [← hC])
        rw [hC] at KC
        clear hcap hsl hfr hC HOWN hll
        obtain ⟨F, hF⟩ : ∃ F, fail (SB, 0) C = F := ⟨_, rfl⟩
        rw [hF] at HE
        go_wp2_with fail
        refine (unhide KC _ (unhide HSL)).mono ?_
        rintro e w2 ⟨rfl, hb⟩
        have HD2 := hide ((unhide HD).after hb)
        have HSL2 := hide ((unhide HSL).after hb)
        clear hb c1
        go_wp2_with fail
        refine ((unhide HD2).call3 fun hx => refFailR_any q (SB, 0) C _ hx).mono ?_
        rw [hF]
        rintro e w3 ⟨rfl, hd, hb⟩
        have HD3 := hide hd
        have HSL3 := hide ((unhide HSL2).besideF hb (unhide HFR) hq)
        have c1 := hd.1.c1
        clear hd hb hF
        obtain ⟨FB, FE⟩ := F
        dsimp only at c1
        by_cases he : FE = 0
        · subst he
          have HE2 : Hid (R = (L, (FB, 0))) := hide (by rw [unhide HE]; rfl)
          go_wp2_with fail
          go_ret
          rw [unhide HE2]
          exact ⟨a, cap, rfl, unhide HCAP, unhide HSL3, unhide HFR, unhide HD3⟩
        · have HE2 : Hid (R = ([], (FB, FE))) := hide (by rw [unhide HE]; rw [if_pos he])
          have hne : (FE != 0) = true := bne_iff_ne.2 he
          go_wp2_with fail
          go_ret
          rw [unhide HE2]
          exact ⟨none, 0, rfl, Nat.le_refl _, Sl.none _ _, Fresh.nil _ _, unhide HD3⟩
    · have HE2 : Hid (R = ([], (SB, SE))) := hide (by rw [← unhide HEA he, endD_bad he])
      have hne : (SE != 0) = true := bne_iff_ne.2 he
      have hne2 : (SE == 0) = false := by simp [he]
      by_cases hlt : k < N
      · go_wp2_with fail
        go_ret
        rw [unhide HE2]
        exact ⟨none, 0, rfl, Nat.le_refl _, Sl.none _ _, Fresh.nil _ _, unhide HD⟩
      · go_wp2_with fail
        go_ret
        rw [unhide HE2]
        exact ⟨none, 0, rfl, Nat.le_refl _, Sl.none _ _, Fresh.nil _ _, unhide HD⟩
end Go.Proofs.YthchcjjpplcfnaaGreat
