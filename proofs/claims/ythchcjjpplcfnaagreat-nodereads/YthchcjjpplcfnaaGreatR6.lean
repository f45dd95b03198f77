/-
  A leaf that the document takes; what a text is by its words. Conditions: those that each theorem names.
-/
import Derived.Test.YthchcjjpplcfnaaGreatR5
namespace Go.Proofs.YthchcjjpplcfnaaGreat
open Go.RowKit

set_option maxRecDepth 100000 in
set_option maxHeartbeats 4000000 in
theorem refTakeLeaf_any {w : World} {q : Nat} {st : St} (h : Doc w q 44 st) (hs : st.1.length ≤ 50000000) :
    Calls Tryz.prog 17 #[.pointer (some ⟨q, 0, none⟩)] w (VersMade q 44 w (rLeaf st)) := by
  have hq := h.lt
  have HW := hide (DS.start h)
  have K1 := hide ((unhide HW).call3 fun hx => refNumberR_any q st 64 (by omega) _ hx)
  have HLEN := hide (rNumber_len st 64)
  have HL0 := hide hs
  have HN64 := hide (rCount st)
  have HV : Hid (rLeaf st = endV (itV (rNumber st 64).1.toNat (rNumber st 64).2)) := hide rfl
  have HEARLY := hide fun k hk hb => rLeaf_early (st := st) (k := k) hk hb
  obtain ⟨R, hR⟩ : ∃ R, rLeaf st = R := ⟨_, rfl⟩
  obtain ⟨N, e1, e2⟩ := count_nat st 64
  rw [e1] at K1
  rw [hR, e2] at HV
  rw [e2] at HN64
  rw [hR, e2] at HEARLY
  generalize (rNumber st 64).2 = S0 at K1 HLEN HV HEARLY
  have HLS : Hid (∀ k, (itV k S0).2.1.length ≤ 50000000) := hide fun k => by
    have h1 := itV_less k S0
    have := unhide HLEN
    have := unhide HL0
    omega
  rw [hR]
  have hN := unhide HN64
  clear h hs e1 e2 HLEN HL0 hR
  go_enter Tryz.func17, Tryz.ntmps17
  go_wp2_with fail
  refine (unhide K1).mono ?_
  rintro e w1 ⟨rfl, hd, _⟩
  have HD1 := hide hd
  clear hd
  go_wp2_with fail
  go_loopw [4, 5] (fun l i wr => ∃ k : Nat, k ≤ N ∧ i = .int .i64 k ∧ OV (fun g => w.heap.size ≤ g) wr w.heap.size l (itV k S0).1 ∧ DS q 44 w (itV k S0).2 wr) (fun _ i _ => N - (intOf i).toNat)
  case atStart => exact ⟨0, Nat.zero_le _, rfl, OV.nil _ _ _, unhide HD1⟩
  case round =>
    obtain ⟨k, hk, rfl, hown, hd⟩ := hrel
    have HOWN := hide hown
    have HD := hide hd
    have HSZ := hide hd.2.size
    have HLK := hide (unhide HLS k)
    have HKL := hide (itV_len k S0)
    have HKP := hide (itV_past k S0)
    have HX : Hid (itV (k + 1) S0 = ((itV k S0).1 ++ [(rVer (itV k S0).2).1], (rVer (itV k S0).2).2)) := hide rfl
    have HEA := hide (unhide HEARLY k hk)
    have HVK : Hid (k = N → R = endV (itV k S0)) := hide fun e => by rw [e]; exact unhide HV
    clear hown hd
    generalize itV k S0 = X at HOWN HD HLK HKL HKP HX HEA HVK
    obtain ⟨L, SB, SE⟩ := X
    dsimp only at HOWN HD HLK HKL HKP HX
    have c1 := (unhide HD).1.c1
    dsimp only at c1
    by_cases he : SE = 0
    · subst he
      by_cases hlt : k < N
      · have L0 : Hid (SB.length ≤ 50000000) := HLK
        have HX2 : Hid (itV (k + 1) S0 = (L ++ [⟨((rNumber (SB, 0) 63).1, (rNumber (rNumber (SB, 0) 63).2 1048576).1), (rVec (rNumber (rNumber (SB, 0) 63).2 1048576).2).1, (rFlag (rVec (rNumber (rNumber (SB, 0) 63).2 1048576).2).2).1, str (rText (rFlag (rVec (rNumber (rNumber (SB, 0) 63).2 1048576).2).2).2 48).1⟩], (rText (rFlag (rVec (rNumber (rNumber (SB, 0) 63).2 1048576).2).2).2 48).2)) := hide (unhide HX)
        have L1 := hide (rNumber_len (SB, 0) 63)
        obtain ⟨X1, hX1⟩ : ∃ X1, rNumber (SB, 0) 63 = X1 := ⟨_, rfl⟩
        rw [hX1] at HX2 L1
        have H1 := hide hX1
        obtain ⟨n1, S1⟩ := X1
        dsimp only at HX2 L1
        have L2 := hide (rNumber_len S1 1048576)
        obtain ⟨X2, hX2⟩ : ∃ X2, rNumber S1 1048576 = X2 := ⟨_, rfl⟩
        rw [hX2] at HX2 L2
        have H2 := hide hX2
        obtain ⟨n2, S2⟩ := X2
        dsimp only at HX2 L2
        have L3 := hide (rVec_less S2)
        obtain ⟨X3, hX3⟩ : ∃ X3, rVec S2 = X3 := ⟨_, rfl⟩
        rw [hX3] at HX2 L3
        have H3 := hide hX3
        obtain ⟨P, S3⟩ := X3
        dsimp only at HX2 L3
        have L4 := hide (rFlag_len S3)
        obtain ⟨X4, hX4⟩ : ∃ X4, rFlag S3 = X4 := ⟨_, rfl⟩
        rw [hX4] at HX2 L4
        have H4 := hide hX4
        obtain ⟨B, S4⟩ := X4
        dsimp only at HX2 L4
        obtain ⟨X5, hX5⟩ : ∃ X5, rText S4 48 = X5 := ⟨_, rfl⟩
        rw [hX5] at HX2
        have H5 := hide hX5
        obtain ⟨t5, S5⟩ := X5
        dsimp only at HX2
        obtain ⟨U, hU⟩ : ∃ U, str t5 = U := ⟨_, rfl⟩
        rw [hU] at HX2
        have HU := hide hU
        have hqr := (unhide HD).lt
        have LL1 : Hid (S1.1.length ≤ 50000000) := hide (by have := unhide L0; have := unhide L1; omega)
        have LL2 : Hid (S2.1.length ≤ 50000000) := hide (by have := unhide LL1; have := unhide L2; omega)
        have LL3 : Hid (S3.1.length ≤ 50000000) := hide (by have := unhide LL2; have := unhide L3; omega)
        have LL4 : Hid (S4.1.length ≤ 50000000) := hide (by have := unhide LL3; have := unhide L4; omega)
        clear hX1 hX2 hX3 hX4 hX5 hU L1 L2 L3 L4
        go_wp2_with (refine store_row (by rfl) 70 _ _ (by rfl) wr.heap.size zero70 (by rfl) (by rfl) 70 zero70 (VRow.newAt rfl) 5 size70 rfl rfl (by simp [zero70, Value.oneCell']) ?_; intro w2 ho hr; have HI2 := hide (((DS.start (unhide HD).1).after (below_alloc' (.cells zero70.toArray 70))).only ho (Nat.le_refl _) (by omega)); have HR2 := hide hr; clear ho hr c1)
        have K := (unhide HI2).call3 fun hx => refNumberR_any q (SB, 0) 63 (by have := unhide L0; show SB.length ≤ 100000000; omega) _ hx
        rw [unhide H1] at K
        refine K.mono ?_
        rintro e w3 ⟨rfl, hd, hb⟩
        have hr := (unhide HR2).beside hb (by omega)
        have f0 := hr.frozen 0
        have z0 := hr.cell 0 _ rfl
        have HI3 := hide (DS.only hd (only_set w3 wr.heap.size 0 (.int .i64 n1)) (Nat.le_refl _) (by omega))
        have HR3 := hide (show VRow (w3.setCell ⟨wr.heap.size, 0, none⟩ (.int .i64 n1)) wr.heap.size 70 [.int .i64 n1, .int .i64 0, .slice none 0 0, .bool false, .string ⟨#[]⟩] from hr.set 0 _)
        clear hd hb hr K
        go_wp2_with fail
        have K := (unhide HI3).call3 fun hx => refNumberR_any q S1 1048576 (by have := unhide LL1; omega) _ hx
        rw [unhide H2] at K
        refine K.mono ?_
        rintro e w4 ⟨rfl, hd, hb⟩
        have hr := (unhide HR3).beside hb (by omega)
        have f1 := hr.frozen 1
        have z1 := hr.cell 1 _ rfl
        have HI4 := hide (DS.only hd (only_set w4 wr.heap.size 1 (.int .i64 n2)) (Nat.le_refl _) (by omega))
        have HR4 := hide (show VRow (w4.setCell ⟨wr.heap.size, 1, none⟩ (.int .i64 n2)) wr.heap.size 70 [.int .i64 n1, .int .i64 n2, .slice none 0 0, .bool false, .string ⟨#[]⟩] from hr.set 1 _)
        clear hd hb hr K f0 z0
        go_wp2_with fail
        have K := refTakeVec_any (unhide HI4).1 (unhide LL2)
        rw [unhide H3] at K
        refine K.mono ?_
        rintro e w5 ⟨a, cap, rfl, hcap, hsl, hfr, hd⟩
        have hr := (unhide HR4).beside hd.2 (by omega)
        have f2 := hr.frozen 2
        have z2 := hr.cell 2 _ rfl
        have hD4 := (unhide HR4).lt
        have HCAP := hide hcap
        have HFR := hide hfr
        have HNE := hide (hfr.ne hD4)
        have HNQ : Hid (∀ ad, a = some ad → 0 < P.length → ad.block ≠ q) := hide (hfr.ne (unhide HI4).lt)
        have HPR : Hid (∀ ad, a = some ad → 0 < P.length → wr.heap.size ≤ ad.block) := hide fun ad e h0 => by have := hfr ad e h0; omega
        have HI5 := hide (DS.only ((unhide HI4).trans hd) (only_set w5 wr.heap.size 2 (.slice a P.length cap)) (Nat.le_refl _) (by omega))
        have HSL5 := hide (hsl.onlyNe (only_set w5 wr.heap.size 2 (.slice a P.length cap)) (unhide HNE))
        have HR5 := hide (show VRow (w5.setCell ⟨wr.heap.size, 2, none⟩ (.slice a P.length cap)) wr.heap.size 70 [.int .i64 n1, .int .i64 n2, .slice a P.length cap, .bool false, .string ⟨#[]⟩] from hr.set 2 _)
        clear hd hr K hcap hsl hfr f1 z1 hD4
        dsimp only
        go_wp2_with fail
        have K := (unhide HI5).call3 fun hx => refFlagR_any q S3 (by have := unhide LL3; omega) _ hx
        rw [unhide H4] at K
        refine K.mono ?_
        rintro e w6 ⟨rfl, hd, hb⟩
        have hr := (unhide HR5).beside hb (by omega)
        have f3 := hr.frozen 3
        have z3 := hr.cell 3 _ rfl
        have HI6 := hide (DS.only hd (only_set w6 wr.heap.size 3 (.bool B)) (Nat.le_refl _) (by omega))
        have HSL6 := hide (((unhide HSL5).beside hb (unhide HNQ)).onlyNe (only_set w6 wr.heap.size 3 (.bool B)) (unhide HNE))
        have HR6 := hide (show VRow (w6.setCell ⟨wr.heap.size, 3, none⟩ (.bool B)) wr.heap.size 70 [.int .i64 n1, .int .i64 n2, .slice a P.length cap, .bool B, .string ⟨#[]⟩] from hr.set 3 _)
        clear hd hb hr K f2 z2
        go_wp2_with fail
        have K := (unhide HI6).call3 fun hx => refTextR_any q S4 48 (by have := unhide LL4; omega) _ hx
        rw [unhide H5] at K
        dsimp only at K
        rw [unhide HU] at K
        refine K.mono ?_
        rintro e w7 ⟨rfl, hd, hb⟩
        have hr := (unhide HR6).beside hb (by omega)
        have f4 := hr.frozen 4
        have y0 := hr.cell 0 _ rfl
        have y1 := hr.cell 1 _ rfl
        have y2 := hr.cell 2 _ rfl
        have y3 := hr.cell 3 _ rfl
        have y4 := hr.cell 4 _ rfl
        have HI7 := hide (DS.only hd (only_set w7 wr.heap.size 4 (.string U)) (Nat.le_refl _) (by omega))
        have HSL7 := hide (((unhide HSL6).beside hb (unhide HNQ)).onlyNe (only_set w7 wr.heap.size 4 (.string U)) (unhide HNE))
        have HLT7 := hide hr.lt
        have HOWN7 := hide ((unhide HOWN).beside (unhide HI7).2 hq (by omega))
        have HAP : Hid (∀ l, OV (fun g => w.heap.size ≤ g) wr w.heap.size l L → Apart (fun g => w.heap.size ≤ g) l.ownBlock a P) := hide fun l hl ad e h0 => by
          have h1 := unhide HPR ad e h0
          have h2 := unhide HSZ
          refine ⟨fun e2 => ?_, by omega⟩
          have := (hl.lt _ e2.symm).2
          omega
        have HAP2 := hide (unhide HAP _ (unhide HOWN))
        clear hd hb hr K f3 z3
        go_wp2_with (at_builtin; refine append_sv rfl _ _ rfl w.heap.size _ L rfl ((unhide HOWN7).after (below_alloc' _)) (some ⟨w7.heap.size, 0, none⟩) 1 [⟨(n1, n2), P, B, U⟩] (by first | rfl | simp) (one_svn (VRow.newAt (T := 70) (vs := verL ⟨(n1, n2), P, B, U⟩ a cap) (by simp)) (unhide HCAP) ((unhide HSL7).after (below_alloc' _)) (unhide HAP2)) (by simp; have := unhide HKL; omega) (by simp; have := unhide HSZ; have := unhide HLT7; omega) ?_; intro v3 w8 hown hb _ _; have HOWN3 := hide hown; have HD3 := hide (((unhide HD).trans ((unhide HI7).after (below_alloc' _))).under (Nat.le_refl _) hq hb); clear hown hb)
        go_roundw
        case rel => exact ⟨k + 1, by omega, by go_num, by rw [unhide HX2]; exact unhide HOWN3, by rw [unhide HX2]; exact unhide HD3⟩
        case measure => simp [intOf]; omega
      · obtain rfl : k = N := by omega
        obtain ⟨a, cap, e, hcap, hsl, hpr⟩ := (unhide HOWN).sv
        have HCAP := hide hcap
        have HSL := hide hsl
        have HPR := hide (hpr fun _ h => h)
        have hll : L.length ≤ 64 := by have := unhide HKL; omega
        subst e
        have KC := hide fun W h => refCheckLeaf_any a cap L ⟨by omega, fun v hv => by have := unhide HKP v hv; omega⟩ W h
        obtain ⟨C, hC⟩ : ∃ C, Vc.checkLeaf L = C := ⟨_, rfl⟩
        have HE : Hid (R = (if (fail (SB, 0) C).2 ≠ 0 then [] else L, fail (SB, 0) C)) := hide (by rw [unhide HVK rfl]; unfold endV; rw [← hC])
        rw [hC] at KC
        clear hcap hsl hpr hC HOWN hll
        obtain ⟨F, hF⟩ : ∃ F, fail (SB, 0) C = F := ⟨_, rfl⟩
        rw [hF] at HE
        go_wp2_with fail
        refine (unhide KC _ (unhide HSL)).mono ?_
        rintro e w2 ⟨rfl, hb⟩
        have HD2 := hide ((unhide HD).after hb)
        have HSL2 := hide ((unhide HSL).after hb)
        have HPR2 := hide ((unhide HPR).after (unhide HSL) hb)
        clear hb c1
        go_wp2_with fail
        refine ((unhide HD2).call3 fun hx => refFailR_any q (SB, 0) C _ hx).mono ?_
        rw [hF]
        rintro e w3 ⟨rfl, hd, hb⟩
        have HD3 := hide hd
        have HSL3 := hide ((unhide HSL2).beside (unhide HPR2) hb (by omega))
        have HPR3 := hide ((unhide HPR2).beside (unhide HSL2) hb (by omega))
        have c1 := hd.1.c1
        clear hd hb hF
        obtain ⟨FB, FE⟩ := F
        dsimp only at c1
        by_cases he : FE = 0
        · subst he
          have HE2 : Hid (R = (L, (FB, 0))) := hide (by rw [unhide HE]; rfl)
          go_wp2_with fail
          go_ret
          rw [unhide HE2]
          exact ⟨a, cap, rfl, unhide HCAP, unhide HSL3, unhide HPR3, unhide HD3⟩
        · have HE2 : Hid (R = ([], (FB, FE))) := hide (by rw [unhide HE]; rw [if_pos he])
          have hne : (FE != 0) = true := bne_iff_ne.2 he
          go_wp2_with fail
          go_ret
          rw [unhide HE2]
          exact ⟨none, 0, rfl, Nat.le_refl _, SV.none _ _, Prov.none _ _ _, unhide HD3⟩
    · have HE2 : Hid (R = ([], (SB, SE))) := hide (by rw [← unhide HEA he, endV_bad he])
      have hne : (SE != 0) = true := bne_iff_ne.2 he
      have hne2 : (SE == 0) = false := by simp [he]
      by_cases hlt : k < N
      · go_wp2_with fail
        go_ret
        rw [unhide HE2]
        exact ⟨none, 0, rfl, Nat.le_refl _, SV.none _ _, Prov.none _ _ _, unhide HD⟩
      · go_wp2_with fail
        go_ret
        rw [unhide HE2]
        exact ⟨none, 0, rfl, Nat.le_refl _, SV.none _ _, Prov.none _ _ _, unhide HD⟩

theorem doc_text (w : World) (s : ByteArray) : Doc (w.alloc (.cells #[.string s, .int .i64 0] 44)) w.heap.size 44 (s.data.toList, 0) := by
  show VRow _ _ _ [.string (str s.data.toList), .int .i64 0]
  rw [str_of]
  exact VRow.new w 44 [.string s, .int .i64 0]
end Go.Proofs.YthchcjjpplcfnaaGreat
