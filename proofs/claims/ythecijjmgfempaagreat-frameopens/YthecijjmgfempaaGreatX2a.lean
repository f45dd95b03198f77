/-
  The message that bytes are: the document's Read: kind 2.
-/
import Derived.Test.YthecijjmgfempaaGreatX2
namespace Go.Proofs.YthecijjmgfempaaGreat
open Go.RowKit

set_option maxRecDepth 100000 in
set_option maxHeartbeats 4000000 in
theorem refRead_2 (s : ByteArray) (hs : s.size ≤ 40000000) (w : World) (S : St) (hx : rNumber (s.data.toList, 0) 1073741824 = (2, S)) (he : S.2 = 0) (hfs : fail S (kindErr 2) = S) : Calls Tryz.prog 22 #[.string s] w (ReadMade w (readM (s.data.toList, 0))) := by
  have HZ0 : Hid (VRow ((w.alloc (.cells #[.int .i64 0, .int .i64 0, .int .i64 0, .int .i64 0, .bool false, .string ⟨#[]⟩, .int .u8 0, .int .u8 0, .int .u8 0, .int .u8 0, .int .u8 0, .int .u8 0, .int .u8 0, .int .u8 0, .int .u8 0, .int .u8 0, .int .u8 0, .int .u8 0, .int .u8 0, .int .u8 0, .int .u8 0, .int .u8 0, .int .u8 0, .int .u8 0, .int .u8 0, .int .u8 0, .int .u8 0, .int .u8 0, .int .u8 0, .int .u8 0, .int .u8 0, .int .u8 0, .int .u8 0, .int .u8 0, .int .u8 0, .int .u8 0, .int .u8 0, .int .u8 0, .slice none 0 0, .slice none 0 0, .string ⟨#[]⟩] 28)).alloc (.cells #[.string s, .int .i64 0] 51)) w.heap.size 28 mZ) := hide (by rw [mZ_lit]; exact (VRow.new w 28 [.int .i64 0, .int .i64 0, .int .i64 0, .int .i64 0, .bool false, .string ⟨#[]⟩, .int .u8 0, .int .u8 0, .int .u8 0, .int .u8 0, .int .u8 0, .int .u8 0, .int .u8 0, .int .u8 0, .int .u8 0, .int .u8 0, .int .u8 0, .int .u8 0, .int .u8 0, .int .u8 0, .int .u8 0, .int .u8 0, .int .u8 0, .int .u8 0, .int .u8 0, .int .u8 0, .int .u8 0, .int .u8 0, .int .u8 0, .int .u8 0, .int .u8 0, .int .u8 0, .int .u8 0, .int .u8 0, .int .u8 0, .int .u8 0, .int .u8 0, .int .u8 0, .slice none 0 0, .slice none 0 0, .string ⟨#[]⟩]).alloc _)
  have hd0 : Doc ((w.alloc (.cells #[.int .i64 0, .int .i64 0, .int .i64 0, .int .i64 0, .bool false, .string ⟨#[]⟩, .int .u8 0, .int .u8 0, .int .u8 0, .int .u8 0, .int .u8 0, .int .u8 0, .int .u8 0, .int .u8 0, .int .u8 0, .int .u8 0, .int .u8 0, .int .u8 0, .int .u8 0, .int .u8 0, .int .u8 0, .int .u8 0, .int .u8 0, .int .u8 0, .int .u8 0, .int .u8 0, .int .u8 0, .int .u8 0, .int .u8 0, .int .u8 0, .int .u8 0, .int .u8 0, .int .u8 0, .int .u8 0, .int .u8 0, .int .u8 0, .int .u8 0, .int .u8 0, .slice none 0 0, .slice none 0 0, .string ⟨#[]⟩] 28)).alloc (.cells #[.string s, .int .i64 0] 51)) (w.heap.size + 1) 51 (s.data.toList, 0) := by
    have h := VRow.newAt (W := w.alloc (.cells #[.int .i64 0, .int .i64 0, .int .i64 0, .int .i64 0, .bool false, .string ⟨#[]⟩, .int .u8 0, .int .u8 0, .int .u8 0, .int .u8 0, .int .u8 0, .int .u8 0, .int .u8 0, .int .u8 0, .int .u8 0, .int .u8 0, .int .u8 0, .int .u8 0, .int .u8 0, .int .u8 0, .int .u8 0, .int .u8 0, .int .u8 0, .int .u8 0, .int .u8 0, .int .u8 0, .int .u8 0, .int .u8 0, .int .u8 0, .int .u8 0, .int .u8 0, .int .u8 0, .int .u8 0, .int .u8 0, .int .u8 0, .int .u8 0, .int .u8 0, .int .u8 0, .slice none 0 0, .slice none 0 0, .string ⟨#[]⟩] 28)) (T := 51) (n := w.heap.size + 1) (vs := [.string s, .int .i64 0]) (by simp)
    have e : s = str s.data.toList := rfl
    rw [e] at h
    exact h
  have HB := hide ((below_alloc' (w := w) (.cells #[.int .i64 0, .int .i64 0, .int .i64 0, .int .i64 0, .bool false, .string ⟨#[]⟩, .int .u8 0, .int .u8 0, .int .u8 0, .int .u8 0, .int .u8 0, .int .u8 0, .int .u8 0, .int .u8 0, .int .u8 0, .int .u8 0, .int .u8 0, .int .u8 0, .int .u8 0, .int .u8 0, .int .u8 0, .int .u8 0, .int .u8 0, .int .u8 0, .int .u8 0, .int .u8 0, .int .u8 0, .int .u8 0, .int .u8 0, .int .u8 0, .int .u8 0, .int .u8 0, .int .u8 0, .int .u8 0, .int .u8 0, .int .u8 0, .int .u8 0, .int .u8 0, .slice none 0 0, .slice none 0 0, .string ⟨#[]⟩] 28)).alloc (by simp) (.cells #[.string s, .int .i64 0] 51))
  have HSZ : Hid ((((w.alloc (.cells #[.int .i64 0, .int .i64 0, .int .i64 0, .int .i64 0, .bool false, .string ⟨#[]⟩, .int .u8 0, .int .u8 0, .int .u8 0, .int .u8 0, .int .u8 0, .int .u8 0, .int .u8 0, .int .u8 0, .int .u8 0, .int .u8 0, .int .u8 0, .int .u8 0, .int .u8 0, .int .u8 0, .int .u8 0, .int .u8 0, .int .u8 0, .int .u8 0, .int .u8 0, .int .u8 0, .int .u8 0, .int .u8 0, .int .u8 0, .int .u8 0, .int .u8 0, .int .u8 0, .int .u8 0, .int .u8 0, .int .u8 0, .int .u8 0, .int .u8 0, .int .u8 0, .slice none 0 0, .slice none 0 0, .string ⟨#[]⟩] 28)).alloc (.cells #[.string s, .int .i64 0] 51))).heap.size = w.heap.size + 2) := hide (by simp)
  have hlen : s.data.toList.length ≤ 50000000 := by rw [size_data]; omega
  obtain ⟨st, hst⟩ : ∃ st, ((s.data.toList, 0) : St) = st := ⟨_, rfl⟩
  rw [hst] at hd0 hx ⊢
  have hl0 : st.1.length ≤ 50000000 := by rw [← hst]; exact hlen
  have hl1 := rNumber_len st 1073741824
  rw [hx] at hl1
  have HL0 : Hid (S.1.length ≤ 50000000) := hide (Nat.le_trans hl1 hl0)
  have K0 := hide (refNumberR_any _ _ 1073741824 (by omega) _ hd0)
  rw [hx] at K0
  have hM : rMsg st = (({ rH 2 S with root := (rDigest (rHS 2 S)).1, ctx := (rVec (rDigest (rHS 2 S)).2).1, rows := (rRows (rVec (rDigest (rHS 2 S)).2).2).1 } : Msg), (rRows (rVec (rDigest (rHS 2 S)).2).2).2) := by
    unfold rMsg
    rw [hx]
    unfold rBody
    rw [if_pos rfl]
  have HFW : Hid (FewM (({ rH 2 S with root := (rDigest (rHS 2 S)).1, ctx := (rVec (rDigest (rHS 2 S)).2).1, rows := (rRows (rVec (rDigest (rHS 2 S)).2).2).1 } : Msg))) := hide (by have h := rMsg_few st; rw [hM] at h; exact h)
  obtain ⟨E1, hE1⟩ : ∃ E, rDone ((rRows (rVec (rDigest (rHS 2 S)).2).2).2) = E := ⟨_, rfl⟩
  obtain ⟨E2, hE2⟩ : ∃ E, checkM (({ rH 2 S with root := (rDigest (rHS 2 S)).1, ctx := (rVec (rDigest (rHS 2 S)).2).1, rows := (rRows (rVec (rDigest (rHS 2 S)).2).2).1 } : Msg)) = E := ⟨_, rfl⟩
  have hR : readM st = if (if E1 ≠ 0 then E1 else E2) ≠ 0 then (zeroM, if E1 ≠ 0 then E1 else E2) else (({ rH 2 S with root := (rDigest (rHS 2 S)).1, ctx := (rVec (rDigest (rHS 2 S)).2).1, rows := (rRows (rVec (rDigest (rHS 2 S)).2).2).1 } : Msg), 0) := by unfold readM readErr; rw [hM]; dsimp only; rw [hE1, hE2]
  have HE1 := hide hE1
  have HE2 := hide hE2
  rw [hR]
  clear hlen hst hE1 hE2 hs hR hM hl0 hl1 hx hd0
  have HFS : Hid (fail S (kindErr 2) = S) := hide hfs
  clear hfs
  by_cases h1 : E1 = 0
  · subst h1
    rw [if_neg (by simp : ¬ ((0 : Int) ≠ 0))]
    by_cases h2 : E2 = 0
    · subst h2
      rw [if_neg (by simp)]
      go_enter Tryz.func22, Tryz.ntmps22
      go_wp2_with fail
      refine (unhide K0).mono ?_
      rintro e w1 ⟨rfl, hd, hb⟩
      have HY := hide ((unhide HZ0).beside hb (by intro e; have e2 : w.heap.size = w.heap.size + 1 := e; omega))
      have HB1 := hide ((unhide HB).trans (hb.below (unhide HB).size (by intro g e; have e2 : g = w.heap.size + 1 := e; omega)))
      have HD := hide hd
      have HS1 : Hid (w.heap.size + 2 ≤ w1.heap.size) := hide (by have := hb.size; have := unhide HSZ; omega)
      have HZ1 : Hid (VRow (w1.alloc (.cells #[.int .i64 0, .int .i64 0, .int .i64 0, .int .i64 0, .bool false, .string ⟨#[]⟩, .int .u8 0, .int .u8 0, .int .u8 0, .int .u8 0, .int .u8 0, .int .u8 0, .int .u8 0, .int .u8 0, .int .u8 0, .int .u8 0, .int .u8 0, .int .u8 0, .int .u8 0, .int .u8 0, .int .u8 0, .int .u8 0, .int .u8 0, .int .u8 0, .int .u8 0, .int .u8 0, .int .u8 0, .int .u8 0, .int .u8 0, .int .u8 0, .int .u8 0, .int .u8 0, .int .u8 0, .int .u8 0, .int .u8 0, .int .u8 0, .int .u8 0, .int .u8 0, .slice none 0 0, .slice none 0 0, .string ⟨#[]⟩] 28)) w1.heap.size 28 mZ) := hide (by rw [mZ_lit]; exact VRow.new w1 28 [.int .i64 0, .int .i64 0, .int .i64 0, .int .i64 0, .bool false, .string ⟨#[]⟩, .int .u8 0, .int .u8 0, .int .u8 0, .int .u8 0, .int .u8 0, .int .u8 0, .int .u8 0, .int .u8 0, .int .u8 0, .int .u8 0, .int .u8 0, .int .u8 0, .int .u8 0, .int .u8 0, .int .u8 0, .int .u8 0, .int .u8 0, .int .u8 0, .int .u8 0, .int .u8 0, .int .u8 0, .int .u8 0, .int .u8 0, .int .u8 0, .int .u8 0, .int .u8 0, .int .u8 0, .int .u8 0, .int .u8 0, .int .u8 0, .int .u8 0, .int .u8 0, .slice none 0 0, .slice none 0 0, .string ⟨#[]⟩])
      clear hd hb
      go_wp2_with ((with_reducible refine atS27 ?_); (refine store_row (by rfl) 28 (.tmp 5) (.tmp 14) (by rfl) w1.heap.size (mL { zeroM with kind := 2 } none 0 none 0) (by rfl) (by rw [mK_lit]; rfl) 28 mZ (unhide HZ1) 41 sizeM rfl mZ_len (mL_one _ _ _ _ _) ?_); intro w2 ho2 hr2; have x0 := m0 hr2; dsimp only at x0; have x1 : w2.cell? ⟨w.heap.size + 1, 1, none⟩ = some (.int .i64 S.2) := VRow.cell (VRow.only ((unhide HD).alloc _) ho2 (by have := unhide HS1; omega)) 1 _ rfl; have HO2 := hide ho2; have HR2 := hide hr2; clear ho2 hr2)
      have H0 : Hid (US w.heap.size w1.heap.size w S { zeroM with kind := 2 } none 0 none 0 w2) := hide ⟨VRow.only ((unhide HY).alloc _) (unhide HO2) (by have := unhide HS1; omega), unhide HR2, VRow.only ((unhide HD).alloc _) (unhide HO2) (by have := unhide HS1; omega), ((unhide HB1).trans ((below_alloc' _).mono (unhide HB1).size)).trans ((unhide HO2).below (by have := unhide HS1; omega)), unhide HS1⟩
      clear HZ1 HO2 HR2 HY HD HB1
      have H1 : Hid (US w.heap.size w1.heap.size w (fail S (kindErr 2)) { zeroM with kind := 2 } none 0 none 0 w2) := hide (by rw [unhide HFS]; exact unhide H0)
      clear x0 x1
      have HLX : Hid ((fail S (kindErr 2)).1.length ≤ 50000000) := hide (by rw [fail_len]; exact unhide HL0)
      refine ((unhide H1).call fun hd => refNumberR_any _ _ 63 (by have := unhide HLX; omega) _ hd).mono ?_
      rintro e w11 ⟨rfl, h1⟩
      have G1 := hide h1
      clear h1
      have x0 := (unhide G1).row.cell 1 _ rfl
      have f0 := (unhide G1).row.frozen 1
      have H2 := hide ((unhide G1).set (set1 (unhide G1).row (rNumber (fail S (kindErr 2)) 63).1))
      have HL2 : Hid ((rNumber (fail S (kindErr 2)) 63).2.1.length ≤ 50000000) := hide (Nat.le_trans (rNumber_len _ _) (unhide HLX))
      go_wp2_with fail
      clear x0 f0
      refine ((unhide H2).call fun hd => refNumberR_any _ _ 63 (by have := unhide HL2; omega) _ hd).mono ?_
      rintro e w12 ⟨rfl, h2⟩
      have G2 := hide h2
      clear h2
      have x0 := (unhide G2).row.cell 2 _ rfl
      have f0 := (unhide G2).row.frozen 2
      have H3 := hide ((unhide G2).set (set2 (unhide G2).row (rNumber (rNumber (fail S (kindErr 2)) 63).2 63).1))
      have HL3 : Hid ((rNumber (rNumber (fail S (kindErr 2)) 63).2 63).2.1.length ≤ 50000000) := hide (Nat.le_trans (rNumber_len _ _) (unhide HL2))
      go_wp2_with fail
      clear x0 f0
      refine ((unhide H3).call fun hd => refNumberR_any _ _ 1048576 (by have := unhide HL3; omega) _ hd).mono ?_
      rintro e w13 ⟨rfl, h3⟩
      have G3 := hide h3
      clear h3
      have x0 := (unhide G3).row.cell 3 _ rfl
      have f0 := (unhide G3).row.frozen 3
      have H4 := hide ((unhide G3).set (set3 (unhide G3).row (rNumber (rNumber (rNumber (fail S (kindErr 2)) 63).2 63).2 1048576).1))
      have HL4 : Hid ((rNumber (rNumber (rNumber (fail S (kindErr 2)) 63).2 63).2 1048576).2.1.length ≤ 50000000) := hide (Nat.le_trans (rNumber_len _ _) (unhide HL3))
      have y0 := m0 (unhide H4).row
      dsimp only at y0
      go_wp2_with fail
      clear x0 f0
      refine ((unhide H4).call fun hd => refDigestR_any _ _ (by have := unhide HL4; omega) _ hd).mono ?_
      rintro e w14 ⟨rfl, h4⟩
      have G4 := hide h4
      clear h4
      go_wp2_with ((with_reducible refine atS23 ?_); (refine store_root (by rfl) (.tmp 47) (.tmp 46) (by rfl) _ (by rfl) (rDigest (rNumber (rNumber (rNumber (fail S (kindErr 2)) 63).2 63).2 1048576).2).1 (by rfl) (rDigest_32 _) (unhide G4).row rfl ?_); intro w30 hv30 hb30; have HV30 := hide hv30; have HB30 := hide hb30; clear hv30 hb30)
      have H5 := hide ((unhide G4).turn (unhide HV30) (unhide HB30))
      have HL5 : Hid ((rDigest (rNumber (rNumber (rNumber (fail S (kindErr 2)) 63).2 63).2 1048576).2).2.1.length ≤ 50000000) := hide (Nat.le_trans (rDigest_len _) (unhide HL4))
      have KV := hide (refTakeVec_any (unhide H5).doc (unhide HL5))
      refine (unhide KV).mono ?_
      rintro e w31 ⟨av, cv, rfl, hcv, hsv, hfv, hdv⟩
      have G5 := hide ((unhide H5).made (hdv.made (.bool true))).2
      have x0 := (unhide G5).row.cell 38 _ (mL_back (by rw [List.length_map]; exact rDigest_32 _) _ _ _).1
      have f0 := (unhide G5).row.frozen 38
      have H6 := hide ((unhide G5).set (set38 (unhide G5).row (rDigest_32 _) (rVec (rDigest (rHS 2 S)).2).1 av cv))
      have HWB : Hid (w1.heap.size < w30.heap.size) := hide (unhide H5).row.lt
      have HCV := hide hcv
      have HFV := hide hfv
      have HSV := hide (hsv.beside (beside_set w1.heap.size 38 w31 (.slice av (rVec (rDigest (rHS 2 S)).2).1.length cv)) fun ad e h0 => by have h1 := hfv ad e h0; have h2 := unhide HWB; omega)
      have HL6 : Hid ((rVec (rDigest (rHS 2 S)).2).2.1.length ≤ 50000000) := hide (Nat.le_trans (rVec_less _) (unhide HL5))
      clear hcv hsv hfv hdv
      go_wp2_with fail
      clear x0 f0
      have H6' : Hid (US w.heap.size w1.heap.size w (rVec (rDigest (rHS 2 S)).2).2 { rH 2 S with root := (rDigest (rHS 2 S)).1, ctx := (rVec (rDigest (rHS 2 S)).2).1 } av cv none 0 (w31.setCell ⟨w1.heap.size, 38, none⟩ (.slice av (rVec (rDigest (rHS 2 S)).2).1.length cv))) := H6
      obtain ⟨NN, hN, hN2⟩ := count_nat (rVec (rDigest (rHS 2 S)).2).2 64
      have HN64 : Hid (NN ≤ 64) := hide (by have := rCount (rVec (rDigest (rHS 2 S)).2).2; omega)
      have KN := hide (refNumberR_any _ _ 64 (by have := unhide HL6; omega) _ (unhide H6').doc)
      rw [hN] at KN
      refine (unhide KN).mono ?_
      rintro e w32 hm
      obtain ⟨rfl, h7⟩ := (unhide H6').made hm
      have HSV2 := hide ((unhide HSV).beside hm.2.2 fun ad e h0 => by have h1 := unhide HFV ad e h0; have h2 := unhide HWB; have h3 := (unhide H5).hB; omega)
      have HE : Hid (itR NN (rNumber (rVec (rDigest (rHS 2 S)).2).2 64).2 = rRows (rVec (rDigest (rHS 2 S)).2).2) := hide (by unfold rRows; rw [hN2])
      have HLS : Hid ((rNumber (rVec (rDigest (rHS 2 S)).2).2 64).2.1.length ≤ 50000000) := hide (Nat.le_trans (rNumber_len _ _) (unhide HL6))
      generalize (rNumber (rVec (rDigest (rHS 2 S)).2).2 64).2 = S1 at h7 HE HLS
      have H7 := hide h7
      have HBN : Hid (w1.heap.size < w32.heap.size) := hide h7.row.lt
      have HBB := hide h7.hB
      have HCB : Hid (∀ ad, av = some ad → 0 < (rVec (rDigest (rHS 2 S)).2).1.length → ad.block < w32.heap.size) := hide fun ad e h0 => by obtain ⟨g, o, e2, hg, _⟩ := unhide HSV2 h0; rw [e] at e2; injection e2 with e2; subst e2; exact hg
      clear hm h7 hN hN2
      go_wp2_with fail
      go_loopw [7] (fun i wr => ∃ (j : Nat) (b' : Option Addr) (d' : Nat), j ≤ NN ∧ i = .int .i64 j ∧ Hid (US w.heap.size w1.heap.size w (itR j S1).2 { rH 2 S with root := (rDigest (rHS 2 S)).1, ctx := (rVec (rDigest (rHS 2 S)).2).1, rows := (itR j S1).1 } av cv b' d' wr) ∧ Hid (OwQ wr w32.heap.size (.slice b' (itR j S1).1.length d') (itR j S1).1) ∧ Hid (Sl wr av (rVec (rDigest (rHS 2 S)).2).1) ∧ Hid (w32.heap.size ≤ wr.heap.size)) (fun i _ => NN - (intOf i).toNat)
      case atStart => exact ⟨0, none, 0, Nat.zero_le _, rfl, H7, hide (OwQ.nil _ _), HSV2, hide (Nat.le_refl _)⟩
      case round =>
        obtain ⟨j, b', d', hj, rfl, HU0, HO, HSLr, HWR⟩ := hrel
        have hn64 := unhide HN64
        have z1 := m39 (unhide HU0).row (rDigest_32 _)
        dsimp only at z1
        have z2 : wr.cell? ⟨w.heap.size + 1, 1, none⟩ = some (.int .i64 (itR j S1).2.2) := VRow.cell (unhide HU0).doc 1 _ rfl
        by_cases hlt : j < NN
        · by_cases herr : (itR j S1).2.2 = 0
          · rw [herr] at z2
            have HLJ := hide (itR_less j S1)
            have HLN := hide (itR_len j S1)
            have HST : Hid (itR (j + 1) S1 = ((itR j S1).1 ++ [(rVec (itR j S1).2).1], (rVec (itR j S1).2).2)) := hide rfl
            clear herr
            generalize itR j S1 = X at HU0 HO z1 HLJ HLN HST
            obtain ⟨xs, xe⟩ := X
            dsimp only at HU0 HO z1 HLJ HLN HST
            have HUD := hide ((unhide HU0).after (below_drew (Below.refl _ _)))
            have HOD := hide ((unhide HO).after (below_drew (Below.refl _ _)))
            have KV2 := hide (refTakeVec_any (unhide HUD).doc (by have := unhide HLJ; have := unhide HLS; omega))
            generalize rVec xe = Y at KV2 HST
            obtain ⟨ys, ye⟩ := Y
            dsimp only at HST
            have HAP : Hid (∀ {r : Option Addr}, Fresh wr.heap.size r ys → ApartR (Value.slice b' xs.length d').ownBlock r ys) := hide fun h => (unhide HO).owr.apart h
            have HN2 : Hid (xs.length ≤ 200000) := hide (by have := unhide HLN; omega)
            have HQ1 : Hid (w.heap.size + 1 < w32.heap.size) := hide (by have := unhide HBN; have := unhide HBB; omega)
            have HCN : Hid (∀ ad, av = some ad → 0 < (rVec (rDigest (rHS 2 S)).2).1.length → ad.block ≠ w.heap.size + 1 ∧ ad.block ≠ w1.heap.size) := hide fun ad e h0 => by have h1 := unhide HFV ad e h0; have h2 := unhide HWB; have h3 := unhide HBB; omega
            go_wp2_with fail
            go_region_law (first
              | (refine step_appendQ rfl _ _ (by rfl) w32.heap.size _ xs (by rfl) ((unhide HO2).after (below_alloc' _)) _ 1 (by rfl) a2 c2 ys (new_one w52 _ 25) (unhide HC2) ((unhide HSL2).after (below_alloc' _)) (unhide HAP (unhide HFR2)) ((unhide HFR2).weak (unhide HWR)) (unhide HN2) (Nat.le_trans (unhide HW2) (below_alloc' _).size) ?_; intro b3 d3 w53 hown3 hb3; have HU3 := hide (((unhide HU2).after (below_alloc' (.cells #[.slice a2 ys.length c2] 25))).under (unhide HBN) hb3); have z3 := m39 (unhide HU3).row (rDigest_32 _); dsimp only at z3; have f3 := (unhide HU3).row.frozen 39; have HO3 := hide hown3; have HB3 := hide hb3; clear hown3 hb3)
              | (go_wp2_with ((go_at_call 38; refine (unhide KV2).mono ?_; rintro e w52 ⟨a2, c2, rfl, hc2, hsl2, hfr2, hd2⟩; dsimp only at hc2 hsl2 hfr2 hd2; have HC2 := hide hc2; have HSL2 := hide hsl2; have HFR2 := hide hfr2; have HU2 := hide ((unhide HUD).made (hd2.made (.bool true))).2; have z2b := m39 (unhide HU2).row (rDigest_32 _); dsimp only at z2b; have z2a := m39 ((unhide HU2).row.alloc (.cells #[.slice a2 ys.length c2] 25)) (rDigest_32 _); dsimp only at z2a; have HO2 := hide ((unhide HOD).beside hd2.2 (unhide HQ1)); have HW2 : Hid (w32.heap.size ≤ w52.heap.size) := hide (Nat.le_trans (unhide HWR) hd2.2.size); have HSLx := hide (((unhide HSLr).after (below_drew (Below.refl _ _))).beside hd2.2 fun ad e h0 => (unhide HCN ad e h0).1); clear hc2 hsl2 hfr2 hd2))))
            all_goals
              have hv3 := set39 (unhide HU3).row (rDigest_32 _) (xs ++ [ys]) b3 d3
              rw [show (xs ++ [ys]).length = xs.length + 1 from by simp] at hv3
              have HU4 := hide ((unhide HU3).set hv3)
              have HSLy := hide ((((unhide HSLx).after (below_alloc' (.cells #[.slice a2 ys.length c2] 25))).besideO (own := fun g => w32.heap.size ≤ g) ⟨(unhide HB3).os, (unhide HB3).tape, (unhide HB3).output, (unhide HB3).size, fun k _ hn => (unhide HB3).block k (by omega)⟩ fun ad e h0 h1 => by have h2 := unhide HCB ad e h0; omega).beside (beside_set w1.heap.size 39 w53 (.slice b3 (xs.length + 1) d3)) fun ad e h0 => (unhide HCN ad e h0).2)
              have HWY : Hid (w32.heap.size ≤ w53.heap.size) := hide (Nat.le_trans (Nat.le_trans (unhide HW2) (below_alloc' (.cells #[.slice a2 ys.length c2] 25)).size) (unhide HB3).size)
              clear hv3 z1 z2 z2a z2b
              go_wp2_with fail
              go_roundw
              case rel =>
                refine ⟨j + 1, b3, d3, by omega, by go_num, hide ?_, hide ?_, HSLy, hide ?_⟩
                · rw [unhide HST]
                  exact unhide HU4
                · rw [unhide HST]
                  exact (unhide HO3).beside (beside_set w1.heap.size 39 w53 _) (unhide HBN)
                · have := unhide HWY
                  simpa using this
              case measure => simp [intOf]; omega
          · have e9 : (itR j S1).2 = (rRows (rVec (rDigest (rHS 2 S)).2).2).2 := by rw [← unhide HE]; exact (itR_stays S1 j herr NN (by omega)).symm
            exact absurd (unhide HE1) (rDone_bad (by rw [← e9]; exact herr))
        · obtain rfl : j = NN := by omega
          have HFR : Hid (Fresh (w.heap.size + 2) av (rVec (rDigest (rHS 2 S)).2).1) := hide ((unhide HFV).weak (by have := unhide HWB; have := unhide HBB; omega))
          have hu := unhide HU0
          rw [unhide HE] at hu
          have HU := hide hu
          have ho := unhide HO
          rw [unhide HE] at ho
          obtain ⟨a9, c9, e9, _, hrl, hpv⟩ := ho.rl
          injection e9 with e10 e11 e12
          subst e10
          have HSL := HSLr
          have HRL := hide hrl
          have HPV : Hid (RProv (fun g => w.heap.size + 2 ≤ g) wr b' (rRows (rVec (rDigest (rHS 2 S)).2).2).1) := hide (hpv.weak fun g hg => by have := unhide HBN; have := unhide HBB; omega)
          clear hu ho hrl hpv e11 e12 z1 z2
          go_wp2_with fail
          have KD := hide (refDoneR_any _ ((rRows (rVec (rDigest (rHS 2 S)).2).2).2) _ (unhide HU).doc)
          rw [unhide HE1] at KD
          refine (unhide KD).mono ?_
          rintro e w40 ⟨rfl, rfl⟩
          have HL2 := hide (mL_len (unhide HFW).root av cv b' d')
          have HO2 := hide (mL_one (({ rH 2 S with root := (rDigest (rHS 2 S)).1, ctx := (rVec (rDigest (rHS 2 S)).2).1, rows := (rRows (rVec (rDigest (rHS 2 S)).2).2).1 } : Msg)) av cv b' d')
          have KC := hide fun (W : World) h1 h2 => refCheckM_any (({ rH 2 S with root := (rDigest (rHS 2 S)).1, ctx := (rVec (rDigest (rHS 2 S)).2).1, rows := (rRows (rVec (rDigest (rHS 2 S)).2).2).1 } : Msg)) av b' cv d' W (unhide HFW) h1 h2
          rw [unhide HE2] at KC
          go_wp2_with ((with_reducible refine at27 ?_); (refine load_msg (by rfl) (.tmp 5) (by rfl) _ (by rfl) _ (unhide HU).row (unhide HL2) ?_))
          refine (unhide KC _ (unhide HSL) (unhide HRL)).mono ?_
          rintro e w41 ⟨rfl, hb⟩
          have HU2 := hide ((unhide HU).after hb)
          have HSL2 := hide ((unhide HSL).after hb)
          have HRL2 := hide ((unhide HRL).after hb)
          have HPV2 := hide ((unhide HPV).after (unhide HRL) hb)
          clear hb
          go_wp2_with (first
            | ((with_reducible refine at27 ?_); (refine load_msg (by rfl) (.tmp 5) (by rfl) _ (by rfl) _ (unhide HU2).row (unhide HL2) ?_))
            | ((with_reducible refine atS27 ?_); (refine store_row (by rfl) 28 (.tmp 2) (.tmp 103) (by rfl) w.heap.size _ (by rfl) (by rfl) 28 mZ (unhide HU2).res 41 sizeM (unhide HL2) mZ_len (unhide HO2) ?_); intro w5 ho5 hr5; have HO5 := hide ho5; have HR5 := hide hr5; clear ho5 hr5))
          refine bodyPost_ret (v := .tuple #[.agg (mL (({ rH 2 S with root := (rDigest (rHS 2 S)).1, ctx := (rVec (rDigest (rHS 2 S)).2).1, rows := (rRows (rVec (rDigest (rHS 2 S)).2).2).1 } : Msg)) av cv b' d').toArray, .int .i64 0]) ?_ rfl ⟨av, cv, b', d', rfl, (unhide HFR).weak (by omega), ((unhide HPV2).beside (unhide HRL2) (unhide HO5).beside (by omega)).weak (fun g hg => by have h8 : w.heap.size + 2 ≤ g := hg; omega), ?_, ?_, ?_⟩
          · exact results_msg15 _ _ w.heap.size _ _ rfl rfl (unhide HR5) (unhide HL2)
          · exact (unhide HSL2).besideO (unhide HO5).beside fun ad e h0 h => by have h8 := unhide HFR ad e h0; have h : ad.block = w.heap.size := h; omega
          · exact (unhide HRL2).beside (unhide HPV2) (unhide HO5).beside (by omega)
          · exact (unhide HU2).below.trans ((unhide HO5).below (Nat.le_refl _))
    · rw [if_pos h2]
      have hne : (E2 != 0) = true := bne_iff_ne.2 h2
      have hne2 : (E2 == 0) = false := beq_eq_false_iff_ne.2 h2
      go_enter Tryz.func22, Tryz.ntmps22
      go_wp2_with fail
      refine (unhide K0).mono ?_
      rintro e w1 ⟨rfl, hd, hb⟩
      have HY := hide ((unhide HZ0).beside hb (by intro e; have e2 : w.heap.size = w.heap.size + 1 := e; omega))
      have HB1 := hide ((unhide HB).trans (hb.below (unhide HB).size (by intro g e; have e2 : g = w.heap.size + 1 := e; omega)))
      have HD := hide hd
      have HS1 : Hid (w.heap.size + 2 ≤ w1.heap.size) := hide (by have := hb.size; have := unhide HSZ; omega)
      have HZ1 : Hid (VRow (w1.alloc (.cells #[.int .i64 0, .int .i64 0, .int .i64 0, .int .i64 0, .bool false, .string ⟨#[]⟩, .int .u8 0, .int .u8 0, .int .u8 0, .int .u8 0, .int .u8 0, .int .u8 0, .int .u8 0, .int .u8 0, .int .u8 0, .int .u8 0, .int .u8 0, .int .u8 0, .int .u8 0, .int .u8 0, .int .u8 0, .int .u8 0, .int .u8 0, .int .u8 0, .int .u8 0, .int .u8 0, .int .u8 0, .int .u8 0, .int .u8 0, .int .u8 0, .int .u8 0, .int .u8 0, .int .u8 0, .int .u8 0, .int .u8 0, .int .u8 0, .int .u8 0, .int .u8 0, .slice none 0 0, .slice none 0 0, .string ⟨#[]⟩] 28)) w1.heap.size 28 mZ) := hide (by rw [mZ_lit]; exact VRow.new w1 28 [.int .i64 0, .int .i64 0, .int .i64 0, .int .i64 0, .bool false, .string ⟨#[]⟩, .int .u8 0, .int .u8 0, .int .u8 0, .int .u8 0, .int .u8 0, .int .u8 0, .int .u8 0, .int .u8 0, .int .u8 0, .int .u8 0, .int .u8 0, .int .u8 0, .int .u8 0, .int .u8 0, .int .u8 0, .int .u8 0, .int .u8 0, .int .u8 0, .int .u8 0, .int .u8 0, .int .u8 0, .int .u8 0, .int .u8 0, .int .u8 0, .int .u8 0, .int .u8 0, .int .u8 0, .int .u8 0, .int .u8 0, .int .u8 0, .int .u8 0, .int .u8 0, .slice none 0 0, .slice none 0 0, .string ⟨#[]⟩])
      clear hd hb
      go_wp2_with ((with_reducible refine atS27 ?_); (refine store_row (by rfl) 28 (.tmp 5) (.tmp 14) (by rfl) w1.heap.size (mL { zeroM with kind := 2 } none 0 none 0) (by rfl) (by rw [mK_lit]; rfl) 28 mZ (unhide HZ1) 41 sizeM rfl mZ_len (mL_one _ _ _ _ _) ?_); intro w2 ho2 hr2; have x0 := m0 hr2; dsimp only at x0; have x1 : w2.cell? ⟨w.heap.size + 1, 1, none⟩ = some (.int .i64 S.2) := VRow.cell (VRow.only ((unhide HD).alloc _) ho2 (by have := unhide HS1; omega)) 1 _ rfl; have HO2 := hide ho2; have HR2 := hide hr2; clear ho2 hr2)
      have H0 : Hid (US w.heap.size w1.heap.size w S { zeroM with kind := 2 } none 0 none 0 w2) := hide ⟨VRow.only ((unhide HY).alloc _) (unhide HO2) (by have := unhide HS1; omega), unhide HR2, VRow.only ((unhide HD).alloc _) (unhide HO2) (by have := unhide HS1; omega), ((unhide HB1).trans ((below_alloc' _).mono (unhide HB1).size)).trans ((unhide HO2).below (by have := unhide HS1; omega)), unhide HS1⟩
      clear HZ1 HO2 HR2 HY HD HB1
      have H1 : Hid (US w.heap.size w1.heap.size w (fail S (kindErr 2)) { zeroM with kind := 2 } none 0 none 0 w2) := hide (by rw [unhide HFS]; exact unhide H0)
      clear x0 x1
      have HLX : Hid ((fail S (kindErr 2)).1.length ≤ 50000000) := hide (by rw [fail_len]; exact unhide HL0)
      refine ((unhide H1).call fun hd => refNumberR_any _ _ 63 (by have := unhide HLX; omega) _ hd).mono ?_
      rintro e w11 ⟨rfl, h1⟩
      have G1 := hide h1
      clear h1
      have x0 := (unhide G1).row.cell 1 _ rfl
      have f0 := (unhide G1).row.frozen 1
      have H2 := hide ((unhide G1).set (set1 (unhide G1).row (rNumber (fail S (kindErr 2)) 63).1))
      have HL2 : Hid ((rNumber (fail S (kindErr 2)) 63).2.1.length ≤ 50000000) := hide (Nat.le_trans (rNumber_len _ _) (unhide HLX))
      go_wp2_with fail
      clear x0 f0
      refine ((unhide H2).call fun hd => refNumberR_any _ _ 63 (by have := unhide HL2; omega) _ hd).mono ?_
      rintro e w12 ⟨rfl, h2⟩
      have G2 := hide h2
      clear h2
      have x0 := (unhide G2).row.cell 2 _ rfl
      have f0 := (unhide G2).row.frozen 2
      have H3 := hide ((unhide G2).set (set2 (unhide G2).row (rNumber (rNumber (fail S (kindErr 2)) 63).2 63).1))
      have HL3 : Hid ((rNumber (rNumber (fail S (kindErr 2)) 63).2 63).2.1.length ≤ 50000000) := hide (Nat.le_trans (rNumber_len _ _) (unhide HL2))
      go_wp2_with fail
      clear x0 f0
      refine ((unhide H3).call fun hd => refNumberR_any _ _ 1048576 (by have := unhide HL3; omega) _ hd).mono ?_
      rintro e w13 ⟨rfl, h3⟩
      have G3 := hide h3
      clear h3
      have x0 := (unhide G3).row.cell 3 _ rfl
      have f0 := (unhide G3).row.frozen 3
      have H4 := hide ((unhide G3).set (set3 (unhide G3).row (rNumber (rNumber (rNumber (fail S (kindErr 2)) 63).2 63).2 1048576).1))
      have HL4 : Hid ((rNumber (rNumber (rNumber (fail S (kindErr 2)) 63).2 63).2 1048576).2.1.length ≤ 50000000) := hide (Nat.le_trans (rNumber_len _ _) (unhide HL3))
      have y0 := m0 (unhide H4).row
      dsimp only at y0
      go_wp2_with fail
      clear x0 f0
      refine ((unhide H4).call fun hd => refDigestR_any _ _ (by have := unhide HL4; omega) _ hd).mono ?_
      rintro e w14 ⟨rfl, h4⟩
      have G4 := hide h4
      clear h4
      go_wp2_with ((with_reducible refine atS23 ?_); (refine store_root (by rfl) (.tmp 47) (.tmp 46) (by rfl) _ (by rfl) (rDigest (rNumber (rNumber (rNumber (fail S (kindErr 2)) 63).2 63).2 1048576).2).1 (by rfl) (rDigest_32 _) (unhide G4).row rfl ?_); intro w30 hv30 hb30; have HV30 := hide hv30; have HB30 := hide hb30; clear hv30 hb30)
      have H5 := hide ((unhide G4).turn (unhide HV30) (unhide HB30))
      have HL5 : Hid ((rDigest (rNumber (rNumber (rNumber (fail S (kindErr 2)) 63).2 63).2 1048576).2).2.1.length ≤ 50000000) := hide (Nat.le_trans (rDigest_len _) (unhide HL4))
      have KV := hide (refTakeVec_any (unhide H5).doc (unhide HL5))
      refine (unhide KV).mono ?_
      rintro e w31 ⟨av, cv, rfl, hcv, hsv, hfv, hdv⟩
      have G5 := hide ((unhide H5).made (hdv.made (.bool true))).2
      have x0 := (unhide G5).row.cell 38 _ (mL_back (by rw [List.length_map]; exact rDigest_32 _) _ _ _).1
      have f0 := (unhide G5).row.frozen 38
      have H6 := hide ((unhide G5).set (set38 (unhide G5).row (rDigest_32 _) (rVec (rDigest (rHS 2 S)).2).1 av cv))
      have HWB : Hid (w1.heap.size < w30.heap.size) := hide (unhide H5).row.lt
      have HCV := hide hcv
      have HFV := hide hfv
      have HSV := hide (hsv.beside (beside_set w1.heap.size 38 w31 (.slice av (rVec (rDigest (rHS 2 S)).2).1.length cv)) fun ad e h0 => by have h1 := hfv ad e h0; have h2 := unhide HWB; omega)
      have HL6 : Hid ((rVec (rDigest (rHS 2 S)).2).2.1.length ≤ 50000000) := hide (Nat.le_trans (rVec_less _) (unhide HL5))
      clear hcv hsv hfv hdv
      go_wp2_with fail
      clear x0 f0
      have H6' : Hid (US w.heap.size w1.heap.size w (rVec (rDigest (rHS 2 S)).2).2 { rH 2 S with root := (rDigest (rHS 2 S)).1, ctx := (rVec (rDigest (rHS 2 S)).2).1 } av cv none 0 (w31.setCell ⟨w1.heap.size, 38, none⟩ (.slice av (rVec (rDigest (rHS 2 S)).2).1.length cv))) := H6
      obtain ⟨NN, hN, hN2⟩ := count_nat (rVec (rDigest (rHS 2 S)).2).2 64
      have HN64 : Hid (NN ≤ 64) := hide (by have := rCount (rVec (rDigest (rHS 2 S)).2).2; omega)
      have KN := hide (refNumberR_any _ _ 64 (by have := unhide HL6; omega) _ (unhide H6').doc)
      rw [hN] at KN
      refine (unhide KN).mono ?_
      rintro e w32 hm
      obtain ⟨rfl, h7⟩ := (unhide H6').made hm
      have HSV2 := hide ((unhide HSV).beside hm.2.2 fun ad e h0 => by have h1 := unhide HFV ad e h0; have h2 := unhide HWB; have h3 := (unhide H5).hB; omega)
      have HE : Hid (itR NN (rNumber (rVec (rDigest (rHS 2 S)).2).2 64).2 = rRows (rVec (rDigest (rHS 2 S)).2).2) := hide (by unfold rRows; rw [hN2])
      have HLS : Hid ((rNumber (rVec (rDigest (rHS 2 S)).2).2 64).2.1.length ≤ 50000000) := hide (Nat.le_trans (rNumber_len _ _) (unhide HL6))
      generalize (rNumber (rVec (rDigest (rHS 2 S)).2).2 64).2 = S1 at h7 HE HLS
      have H7 := hide h7
      have HBN : Hid (w1.heap.size < w32.heap.size) := hide h7.row.lt
      have HBB := hide h7.hB
      have HCB : Hid (∀ ad, av = some ad → 0 < (rVec (rDigest (rHS 2 S)).2).1.length → ad.block < w32.heap.size) := hide fun ad e h0 => by obtain ⟨g, o, e2, hg, _⟩ := unhide HSV2 h0; rw [e] at e2; injection e2 with e2; subst e2; exact hg
      clear hm h7 hN hN2
      go_wp2_with fail
      go_loopw [7] (fun i wr => ∃ (j : Nat) (b' : Option Addr) (d' : Nat), j ≤ NN ∧ i = .int .i64 j ∧ Hid (US w.heap.size w1.heap.size w (itR j S1).2 { rH 2 S with root := (rDigest (rHS 2 S)).1, ctx := (rVec (rDigest (rHS 2 S)).2).1, rows := (itR j S1).1 } av cv b' d' wr) ∧ Hid (OwQ wr w32.heap.size (.slice b' (itR j S1).1.length d') (itR j S1).1) ∧ Hid (Sl wr av (rVec (rDigest (rHS 2 S)).2).1) ∧ Hid (w32.heap.size ≤ wr.heap.size)) (fun i _ => NN - (intOf i).toNat)
      case atStart => exact ⟨0, none, 0, Nat.zero_le _, rfl, H7, hide (OwQ.nil _ _), HSV2, hide (Nat.le_refl _)⟩
      case round =>
        obtain ⟨j, b', d', hj, rfl, HU0, HO, HSLr, HWR⟩ := hrel
        have hn64 := unhide HN64
        have z1 := m39 (unhide HU0).row (rDigest_32 _)
        dsimp only at z1
        have z2 : wr.cell? ⟨w.heap.size + 1, 1, none⟩ = some (.int .i64 (itR j S1).2.2) := VRow.cell (unhide HU0).doc 1 _ rfl
        by_cases hlt : j < NN
        · by_cases herr : (itR j S1).2.2 = 0
          · rw [herr] at z2
            have HLJ := hide (itR_less j S1)
            have HLN := hide (itR_len j S1)
            have HST : Hid (itR (j + 1) S1 = ((itR j S1).1 ++ [(rVec (itR j S1).2).1], (rVec (itR j S1).2).2)) := hide rfl
            clear herr
            generalize itR j S1 = X at HU0 HO z1 HLJ HLN HST
            obtain ⟨xs, xe⟩ := X
            dsimp only at HU0 HO z1 HLJ HLN HST
            have HUD := hide ((unhide HU0).after (below_drew (Below.refl _ _)))
            have HOD := hide ((unhide HO).after (below_drew (Below.refl _ _)))
            have KV2 := hide (refTakeVec_any (unhide HUD).doc (by have := unhide HLJ; have := unhide HLS; omega))
            generalize rVec xe = Y at KV2 HST
            obtain ⟨ys, ye⟩ := Y
            dsimp only at HST
            have HAP : Hid (∀ {r : Option Addr}, Fresh wr.heap.size r ys → ApartR (Value.slice b' xs.length d').ownBlock r ys) := hide fun h => (unhide HO).owr.apart h
            have HN2 : Hid (xs.length ≤ 200000) := hide (by have := unhide HLN; omega)
            have HQ1 : Hid (w.heap.size + 1 < w32.heap.size) := hide (by have := unhide HBN; have := unhide HBB; omega)
            have HCN : Hid (∀ ad, av = some ad → 0 < (rVec (rDigest (rHS 2 S)).2).1.length → ad.block ≠ w.heap.size + 1 ∧ ad.block ≠ w1.heap.size) := hide fun ad e h0 => by have h1 := unhide HFV ad e h0; have h2 := unhide HWB; have h3 := unhide HBB; omega
            go_wp2_with fail
            go_region_law (first
              | (refine step_appendQ rfl _ _ (by rfl) w32.heap.size _ xs (by rfl) ((unhide HO2).after (below_alloc' _)) _ 1 (by rfl) a2 c2 ys (new_one w52 _ 25) (unhide HC2) ((unhide HSL2).after (below_alloc' _)) (unhide HAP (unhide HFR2)) ((unhide HFR2).weak (unhide HWR)) (unhide HN2) (Nat.le_trans (unhide HW2) (below_alloc' _).size) ?_; intro b3 d3 w53 hown3 hb3; have HU3 := hide (((unhide HU2).after (below_alloc' (.cells #[.slice a2 ys.length c2] 25))).under (unhide HBN) hb3); have z3 := m39 (unhide HU3).row (rDigest_32 _); dsimp only at z3; have f3 := (unhide HU3).row.frozen 39; have HO3 := hide hown3; have HB3 := hide hb3; clear hown3 hb3)
              | (go_wp2_with ((go_at_call 38; refine (unhide KV2).mono ?_; rintro e w52 ⟨a2, c2, rfl, hc2, hsl2, hfr2, hd2⟩; dsimp only at hc2 hsl2 hfr2 hd2; have HC2 := hide hc2; have HSL2 := hide hsl2; have HFR2 := hide hfr2; have HU2 := hide ((unhide HUD).made (hd2.made (.bool true))).2; have z2b := m39 (unhide HU2).row (rDigest_32 _); dsimp only at z2b; have z2a := m39 ((unhide HU2).row.alloc (.cells #[.slice a2 ys.length c2] 25)) (rDigest_32 _); dsimp only at z2a; have HO2 := hide ((unhide HOD).beside hd2.2 (unhide HQ1)); have HW2 : Hid (w32.heap.size ≤ w52.heap.size) := hide (Nat.le_trans (unhide HWR) hd2.2.size); have HSLx := hide (((unhide HSLr).after (below_drew (Below.refl _ _))).beside hd2.2 fun ad e h0 => (unhide HCN ad e h0).1); clear hc2 hsl2 hfr2 hd2))))
            all_goals
              have hv3 := set39 (unhide HU3).row (rDigest_32 _) (xs ++ [ys]) b3 d3
              rw [show (xs ++ [ys]).length = xs.length + 1 from by simp] at hv3
              have HU4 := hide ((unhide HU3).set hv3)
              have HSLy := hide ((((unhide HSLx).after (below_alloc' (.cells #[.slice a2 ys.length c2] 25))).besideO (own := fun g => w32.heap.size ≤ g) ⟨(unhide HB3).os, (unhide HB3).tape, (unhide HB3).output, (unhide HB3).size, fun k _ hn => (unhide HB3).block k (by omega)⟩ fun ad e h0 h1 => by have h2 := unhide HCB ad e h0; omega).beside (beside_set w1.heap.size 39 w53 (.slice b3 (xs.length + 1) d3)) fun ad e h0 => (unhide HCN ad e h0).2)
              have HWY : Hid (w32.heap.size ≤ w53.heap.size) := hide (Nat.le_trans (Nat.le_trans (unhide HW2) (below_alloc' (.cells #[.slice a2 ys.length c2] 25)).size) (unhide HB3).size)
              clear hv3 z1 z2 z2a z2b
              go_wp2_with fail
              go_roundw
              case rel =>
                refine ⟨j + 1, b3, d3, by omega, by go_num, hide ?_, hide ?_, HSLy, hide ?_⟩
                · rw [unhide HST]
                  exact unhide HU4
                · rw [unhide HST]
                  exact (unhide HO3).beside (beside_set w1.heap.size 39 w53 _) (unhide HBN)
                · have := unhide HWY
                  simpa using this
              case measure => simp [intOf]; omega
          · have e9 : (itR j S1).2 = (rRows (rVec (rDigest (rHS 2 S)).2).2).2 := by rw [← unhide HE]; exact (itR_stays S1 j herr NN (by omega)).symm
            exact absurd (unhide HE1) (rDone_bad (by rw [← e9]; exact herr))
        · obtain rfl : j = NN := by omega
          have HFR : Hid (Fresh (w.heap.size + 2) av (rVec (rDigest (rHS 2 S)).2).1) := hide ((unhide HFV).weak (by have := unhide HWB; have := unhide HBB; omega))
          have hu := unhide HU0
          rw [unhide HE] at hu
          have HU := hide hu
          have ho := unhide HO
          rw [unhide HE] at ho
          obtain ⟨a9, c9, e9, _, hrl, hpv⟩ := ho.rl
          injection e9 with e10 e11 e12
          subst e10
          have HSL := HSLr
          have HRL := hide hrl
          have HPV : Hid (RProv (fun g => w.heap.size + 2 ≤ g) wr b' (rRows (rVec (rDigest (rHS 2 S)).2).2).1) := hide (hpv.weak fun g hg => by have := unhide HBN; have := unhide HBB; omega)
          clear hu ho hrl hpv e11 e12 z1 z2
          go_wp2_with fail
          have KD := hide (refDoneR_any _ ((rRows (rVec (rDigest (rHS 2 S)).2).2).2) _ (unhide HU).doc)
          rw [unhide HE1] at KD
          refine (unhide KD).mono ?_
          rintro e w40 ⟨rfl, rfl⟩
          have HL2 := hide (mL_len (unhide HFW).root av cv b' d')
          have HO2 := hide (mL_one (({ rH 2 S with root := (rDigest (rHS 2 S)).1, ctx := (rVec (rDigest (rHS 2 S)).2).1, rows := (rRows (rVec (rDigest (rHS 2 S)).2).2).1 } : Msg)) av cv b' d')
          have KC := hide fun (W : World) h1 h2 => refCheckM_any (({ rH 2 S with root := (rDigest (rHS 2 S)).1, ctx := (rVec (rDigest (rHS 2 S)).2).1, rows := (rRows (rVec (rDigest (rHS 2 S)).2).2).1 } : Msg)) av b' cv d' W (unhide HFW) h1 h2
          rw [unhide HE2] at KC
          go_wp2_with ((with_reducible refine at27 ?_); (refine load_msg (by rfl) (.tmp 5) (by rfl) _ (by rfl) _ (unhide HU).row (unhide HL2) ?_))
          refine (unhide KC _ (unhide HSL) (unhide HRL)).mono ?_
          rintro e w41 ⟨rfl, hb⟩
          have HU2 := hide ((unhide HU).after hb)
          have HSL2 := hide ((unhide HSL).after hb)
          have HRL2 := hide ((unhide HRL).after hb)
          have HPV2 := hide ((unhide HPV).after (unhide HRL) hb)
          clear hb
          go_wp2_with ((with_reducible refine atS27 ?_); (refine store_row (by rfl) 28 (.tmp 2) (.tmp 101) (by rfl) w.heap.size [.int .i64 0, .int .i64 0, .int .i64 0, .int .i64 0, .bool false, .string ⟨#[]⟩, .int .u8 0, .int .u8 0, .int .u8 0, .int .u8 0, .int .u8 0, .int .u8 0, .int .u8 0, .int .u8 0, .int .u8 0, .int .u8 0, .int .u8 0, .int .u8 0, .int .u8 0, .int .u8 0, .int .u8 0, .int .u8 0, .int .u8 0, .int .u8 0, .int .u8 0, .int .u8 0, .int .u8 0, .int .u8 0, .int .u8 0, .int .u8 0, .int .u8 0, .int .u8 0, .int .u8 0, .int .u8 0, .int .u8 0, .int .u8 0, .int .u8 0, .int .u8 0, .slice none 0 0, .slice none 0 0, .string ⟨#[]⟩] (by rfl) (by rfl) 28 mZ (unhide HU2).res 41 sizeM rfl mZ_len (by rw [← mZ_lit]; exact mZ_one) ?_); intro w5 ho5 hr5; have HO5 := hide ho5; have HR5 := hide hr5; clear ho5 hr5)
          refine bodyPost_ret (v := .tuple #[.agg (mL zeroM none 0 none 0).toArray, .int .i64 E2]) ?_ rfl ⟨none, 0, none, 0, rfl, Fresh.nil _ _, RProv.none _ _ _, Sl.none _ _, RL.none _ _, ?_⟩
          · have h9 := unhide HR5
            rw [← mZ_lit] at h9
            exact results_msg15 _ _ w.heap.size _ _ rfl rfl h9 mZ_len
          · exact (unhide HU2).below.trans ((unhide HO5).below (Nat.le_refl _))
  · rw [if_pos h1, if_pos h1]
    have hne : (E1 != 0) = true := bne_iff_ne.2 h1
    have hne2 : (E1 == 0) = false := beq_eq_false_iff_ne.2 h1
    go_enter Tryz.func22, Tryz.ntmps22
    go_wp2_with fail
    refine (unhide K0).mono ?_
    rintro e w1 ⟨rfl, hd, hb⟩
    have HY := hide ((unhide HZ0).beside hb (by intro e; have e2 : w.heap.size = w.heap.size + 1 := e; omega))
    have HB1 := hide ((unhide HB).trans (hb.below (unhide HB).size (by intro g e; have e2 : g = w.heap.size + 1 := e; omega)))
    have HD := hide hd
    have HS1 : Hid (w.heap.size + 2 ≤ w1.heap.size) := hide (by have := hb.size; have := unhide HSZ; omega)
    have HZ1 : Hid (VRow (w1.alloc (.cells #[.int .i64 0, .int .i64 0, .int .i64 0, .int .i64 0, .bool false, .string ⟨#[]⟩, .int .u8 0, .int .u8 0, .int .u8 0, .int .u8 0, .int .u8 0, .int .u8 0, .int .u8 0, .int .u8 0, .int .u8 0, .int .u8 0, .int .u8 0, .int .u8 0, .int .u8 0, .int .u8 0, .int .u8 0, .int .u8 0, .int .u8 0, .int .u8 0, .int .u8 0, .int .u8 0, .int .u8 0, .int .u8 0, .int .u8 0, .int .u8 0, .int .u8 0, .int .u8 0, .int .u8 0, .int .u8 0, .int .u8 0, .int .u8 0, .int .u8 0, .int .u8 0, .slice none 0 0, .slice none 0 0, .string ⟨#[]⟩] 28)) w1.heap.size 28 mZ) := hide (by rw [mZ_lit]; exact VRow.new w1 28 [.int .i64 0, .int .i64 0, .int .i64 0, .int .i64 0, .bool false, .string ⟨#[]⟩, .int .u8 0, .int .u8 0, .int .u8 0, .int .u8 0, .int .u8 0, .int .u8 0, .int .u8 0, .int .u8 0, .int .u8 0, .int .u8 0, .int .u8 0, .int .u8 0, .int .u8 0, .int .u8 0, .int .u8 0, .int .u8 0, .int .u8 0, .int .u8 0, .int .u8 0, .int .u8 0, .int .u8 0, .int .u8 0, .int .u8 0, .int .u8 0, .int .u8 0, .int .u8 0, .int .u8 0, .int .u8 0, .int .u8 0, .int .u8 0, .int .u8 0, .int .u8 0, .slice none 0 0, .slice none 0 0, .string ⟨#[]⟩])
    clear hd hb
    go_wp2_with ((with_reducible refine atS27 ?_); (refine store_row (by rfl) 28 (.tmp 5) (.tmp 14) (by rfl) w1.heap.size (mL { zeroM with kind := 2 } none 0 none 0) (by rfl) (by rw [mK_lit]; rfl) 28 mZ (unhide HZ1) 41 sizeM rfl mZ_len (mL_one _ _ _ _ _) ?_); intro w2 ho2 hr2; have x0 := m0 hr2; dsimp only at x0; have x1 : w2.cell? ⟨w.heap.size + 1, 1, none⟩ = some (.int .i64 S.2) := VRow.cell (VRow.only ((unhide HD).alloc _) ho2 (by have := unhide HS1; omega)) 1 _ rfl; have HO2 := hide ho2; have HR2 := hide hr2; clear ho2 hr2)
    have H0 : Hid (US w.heap.size w1.heap.size w S { zeroM with kind := 2 } none 0 none 0 w2) := hide ⟨VRow.only ((unhide HY).alloc _) (unhide HO2) (by have := unhide HS1; omega), unhide HR2, VRow.only ((unhide HD).alloc _) (unhide HO2) (by have := unhide HS1; omega), ((unhide HB1).trans ((below_alloc' _).mono (unhide HB1).size)).trans ((unhide HO2).below (by have := unhide HS1; omega)), unhide HS1⟩
    clear HZ1 HO2 HR2 HY HD HB1
    have H1 : Hid (US w.heap.size w1.heap.size w (fail S (kindErr 2)) { zeroM with kind := 2 } none 0 none 0 w2) := hide (by rw [unhide HFS]; exact unhide H0)
    clear x0 x1
    have HLX : Hid ((fail S (kindErr 2)).1.length ≤ 50000000) := hide (by rw [fail_len]; exact unhide HL0)
    refine ((unhide H1).call fun hd => refNumberR_any _ _ 63 (by have := unhide HLX; omega) _ hd).mono ?_
    rintro e w11 ⟨rfl, h1⟩
    have G1 := hide h1
    clear h1
    have x0 := (unhide G1).row.cell 1 _ rfl
    have f0 := (unhide G1).row.frozen 1
    have H2 := hide ((unhide G1).set (set1 (unhide G1).row (rNumber (fail S (kindErr 2)) 63).1))
    have HL2 : Hid ((rNumber (fail S (kindErr 2)) 63).2.1.length ≤ 50000000) := hide (Nat.le_trans (rNumber_len _ _) (unhide HLX))
    go_wp2_with fail
    clear x0 f0
    refine ((unhide H2).call fun hd => refNumberR_any _ _ 63 (by have := unhide HL2; omega) _ hd).mono ?_
    rintro e w12 ⟨rfl, h2⟩
    have G2 := hide h2
    clear h2
    have x0 := (unhide G2).row.cell 2 _ rfl
    have f0 := (unhide G2).row.frozen 2
    have H3 := hide ((unhide G2).set (set2 (unhide G2).row (rNumber (rNumber (fail S (kindErr 2)) 63).2 63).1))
    have HL3 : Hid ((rNumber (rNumber (fail S (kindErr 2)) 63).2 63).2.1.length ≤ 50000000) := hide (Nat.le_trans (rNumber_len _ _) (unhide HL2))
    go_wp2_with fail
    clear x0 f0
    refine ((unhide H3).call fun hd => refNumberR_any _ _ 1048576 (by have := unhide HL3; omega) _ hd).mono ?_
    rintro e w13 ⟨rfl, h3⟩
    have G3 := hide h3
    clear h3
    have x0 := (unhide G3).row.cell 3 _ rfl
    have f0 := (unhide G3).row.frozen 3
    have H4 := hide ((unhide G3).set (set3 (unhide G3).row (rNumber (rNumber (rNumber (fail S (kindErr 2)) 63).2 63).2 1048576).1))
    have HL4 : Hid ((rNumber (rNumber (rNumber (fail S (kindErr 2)) 63).2 63).2 1048576).2.1.length ≤ 50000000) := hide (Nat.le_trans (rNumber_len _ _) (unhide HL3))
    have y0 := m0 (unhide H4).row
    dsimp only at y0
    go_wp2_with fail
    clear x0 f0
    refine ((unhide H4).call fun hd => refDigestR_any _ _ (by have := unhide HL4; omega) _ hd).mono ?_
    rintro e w14 ⟨rfl, h4⟩
    have G4 := hide h4
    clear h4
    go_wp2_with ((with_reducible refine atS23 ?_); (refine store_root (by rfl) (.tmp 47) (.tmp 46) (by rfl) _ (by rfl) (rDigest (rNumber (rNumber (rNumber (fail S (kindErr 2)) 63).2 63).2 1048576).2).1 (by rfl) (rDigest_32 _) (unhide G4).row rfl ?_); intro w30 hv30 hb30; have HV30 := hide hv30; have HB30 := hide hb30; clear hv30 hb30)
    have H5 := hide ((unhide G4).turn (unhide HV30) (unhide HB30))
    have HL5 : Hid ((rDigest (rNumber (rNumber (rNumber (fail S (kindErr 2)) 63).2 63).2 1048576).2).2.1.length ≤ 50000000) := hide (Nat.le_trans (rDigest_len _) (unhide HL4))
    have KV := hide (refTakeVec_any (unhide H5).doc (unhide HL5))
    refine (unhide KV).mono ?_
    rintro e w31 ⟨av, cv, rfl, hcv, hsv, hfv, hdv⟩
    have G5 := hide ((unhide H5).made (hdv.made (.bool true))).2
    have x0 := (unhide G5).row.cell 38 _ (mL_back (by rw [List.length_map]; exact rDigest_32 _) _ _ _).1
    have f0 := (unhide G5).row.frozen 38
    have H6 := hide ((unhide G5).set (set38 (unhide G5).row (rDigest_32 _) (rVec (rDigest (rHS 2 S)).2).1 av cv))
    have HWB : Hid (w1.heap.size < w30.heap.size) := hide (unhide H5).row.lt
    have HCV := hide hcv
    have HFV := hide hfv
    have HSV := hide (hsv.beside (beside_set w1.heap.size 38 w31 (.slice av (rVec (rDigest (rHS 2 S)).2).1.length cv)) fun ad e h0 => by have h1 := hfv ad e h0; have h2 := unhide HWB; omega)
    have HL6 : Hid ((rVec (rDigest (rHS 2 S)).2).2.1.length ≤ 50000000) := hide (Nat.le_trans (rVec_less _) (unhide HL5))
    clear hcv hsv hfv hdv
    go_wp2_with fail
    clear x0 f0
    have H6' : Hid (US w.heap.size w1.heap.size w (rVec (rDigest (rHS 2 S)).2).2 { rH 2 S with root := (rDigest (rHS 2 S)).1, ctx := (rVec (rDigest (rHS 2 S)).2).1 } av cv none 0 (w31.setCell ⟨w1.heap.size, 38, none⟩ (.slice av (rVec (rDigest (rHS 2 S)).2).1.length cv))) := H6
    obtain ⟨NN, hN, hN2⟩ := count_nat (rVec (rDigest (rHS 2 S)).2).2 64
    have HN64 : Hid (NN ≤ 64) := hide (by have := rCount (rVec (rDigest (rHS 2 S)).2).2; omega)
    have KN := hide (refNumberR_any _ _ 64 (by have := unhide HL6; omega) _ (unhide H6').doc)
    rw [hN] at KN
    refine (unhide KN).mono ?_
    rintro e w32 hm
    obtain ⟨rfl, h7⟩ := (unhide H6').made hm
    have HSV2 := hide ((unhide HSV).beside hm.2.2 fun ad e h0 => by have h1 := unhide HFV ad e h0; have h2 := unhide HWB; have h3 := (unhide H5).hB; omega)
    have HE : Hid (itR NN (rNumber (rVec (rDigest (rHS 2 S)).2).2 64).2 = rRows (rVec (rDigest (rHS 2 S)).2).2) := hide (by unfold rRows; rw [hN2])
    have HLS : Hid ((rNumber (rVec (rDigest (rHS 2 S)).2).2 64).2.1.length ≤ 50000000) := hide (Nat.le_trans (rNumber_len _ _) (unhide HL6))
    generalize (rNumber (rVec (rDigest (rHS 2 S)).2).2 64).2 = S1 at h7 HE HLS
    have H7 := hide h7
    have HBN : Hid (w1.heap.size < w32.heap.size) := hide h7.row.lt
    have HBB := hide h7.hB
    have HCB : Hid (∀ ad, av = some ad → 0 < (rVec (rDigest (rHS 2 S)).2).1.length → ad.block < w32.heap.size) := hide fun ad e h0 => by obtain ⟨g, o, e2, hg, _⟩ := unhide HSV2 h0; rw [e] at e2; injection e2 with e2; subst e2; exact hg
    clear hm h7 hN hN2
    go_wp2_with fail
    go_loopw [7] (fun i wr => ∃ (j : Nat) (b' : Option Addr) (d' : Nat), j ≤ NN ∧ i = .int .i64 j ∧ Hid (US w.heap.size w1.heap.size w (itR j S1).2 { rH 2 S with root := (rDigest (rHS 2 S)).1, ctx := (rVec (rDigest (rHS 2 S)).2).1, rows := (itR j S1).1 } av cv b' d' wr) ∧ Hid (OwQ wr w32.heap.size (.slice b' (itR j S1).1.length d') (itR j S1).1) ∧ Hid (Sl wr av (rVec (rDigest (rHS 2 S)).2).1) ∧ Hid (w32.heap.size ≤ wr.heap.size)) (fun i _ => NN - (intOf i).toNat)
    case atStart => exact ⟨0, none, 0, Nat.zero_le _, rfl, H7, hide (OwQ.nil _ _), HSV2, hide (Nat.le_refl _)⟩
    case round =>
      obtain ⟨j, b', d', hj, rfl, HU0, HO, HSLr, HWR⟩ := hrel
      have hn64 := unhide HN64
      have z1 := m39 (unhide HU0).row (rDigest_32 _)
      dsimp only at z1
      have z2 : wr.cell? ⟨w.heap.size + 1, 1, none⟩ = some (.int .i64 (itR j S1).2.2) := VRow.cell (unhide HU0).doc 1 _ rfl
      by_cases hlt : j < NN
      · by_cases herr : (itR j S1).2.2 = 0
        · rw [herr] at z2
          have HLJ := hide (itR_less j S1)
          have HLN := hide (itR_len j S1)
          have HST : Hid (itR (j + 1) S1 = ((itR j S1).1 ++ [(rVec (itR j S1).2).1], (rVec (itR j S1).2).2)) := hide rfl
          clear herr
          generalize itR j S1 = X at HU0 HO z1 HLJ HLN HST
          obtain ⟨xs, xe⟩ := X
          dsimp only at HU0 HO z1 HLJ HLN HST
          have HUD := hide ((unhide HU0).after (below_drew (Below.refl _ _)))
          have HOD := hide ((unhide HO).after (below_drew (Below.refl _ _)))
          have KV2 := hide (refTakeVec_any (unhide HUD).doc (by have := unhide HLJ; have := unhide HLS; omega))
          generalize rVec xe = Y at KV2 HST
          obtain ⟨ys, ye⟩ := Y
          dsimp only at HST
          have HAP : Hid (∀ {r : Option Addr}, Fresh wr.heap.size r ys → ApartR (Value.slice b' xs.length d').ownBlock r ys) := hide fun h => (unhide HO).owr.apart h
          have HN2 : Hid (xs.length ≤ 200000) := hide (by have := unhide HLN; omega)
          have HQ1 : Hid (w.heap.size + 1 < w32.heap.size) := hide (by have := unhide HBN; have := unhide HBB; omega)
          have HCN : Hid (∀ ad, av = some ad → 0 < (rVec (rDigest (rHS 2 S)).2).1.length → ad.block ≠ w.heap.size + 1 ∧ ad.block ≠ w1.heap.size) := hide fun ad e h0 => by have h1 := unhide HFV ad e h0; have h2 := unhide HWB; have h3 := unhide HBB; omega
          go_wp2_with fail
          go_region_law (first
            | (refine step_appendQ rfl _ _ (by rfl) w32.heap.size _ xs (by rfl) ((unhide HO2).after (below_alloc' _)) _ 1 (by rfl) a2 c2 ys (new_one w52 _ 25) (unhide HC2) ((unhide HSL2).after (below_alloc' _)) (unhide HAP (unhide HFR2)) ((unhide HFR2).weak (unhide HWR)) (unhide HN2) (Nat.le_trans (unhide HW2) (below_alloc' _).size) ?_; intro b3 d3 w53 hown3 hb3; have HU3 := hide (((unhide HU2).after (below_alloc' (.cells #[.slice a2 ys.length c2] 25))).under (unhide HBN) hb3); have z3 := m39 (unhide HU3).row (rDigest_32 _); dsimp only at z3; have f3 := (unhide HU3).row.frozen 39; have HO3 := hide hown3; have HB3 := hide hb3; clear hown3 hb3)
            | (go_wp2_with ((go_at_call 38; refine (unhide KV2).mono ?_; rintro e w52 ⟨a2, c2, rfl, hc2, hsl2, hfr2, hd2⟩; dsimp only at hc2 hsl2 hfr2 hd2; have HC2 := hide hc2; have HSL2 := hide hsl2; have HFR2 := hide hfr2; have HU2 := hide ((unhide HUD).made (hd2.made (.bool true))).2; have z2b := m39 (unhide HU2).row (rDigest_32 _); dsimp only at z2b; have z2a := m39 ((unhide HU2).row.alloc (.cells #[.slice a2 ys.length c2] 25)) (rDigest_32 _); dsimp only at z2a; have HO2 := hide ((unhide HOD).beside hd2.2 (unhide HQ1)); have HW2 : Hid (w32.heap.size ≤ w52.heap.size) := hide (Nat.le_trans (unhide HWR) hd2.2.size); have HSLx := hide (((unhide HSLr).after (below_drew (Below.refl _ _))).beside hd2.2 fun ad e h0 => (unhide HCN ad e h0).1); clear hc2 hsl2 hfr2 hd2))))
          all_goals
            have hv3 := set39 (unhide HU3).row (rDigest_32 _) (xs ++ [ys]) b3 d3
            rw [show (xs ++ [ys]).length = xs.length + 1 from by simp] at hv3
            have HU4 := hide ((unhide HU3).set hv3)
            have HSLy := hide ((((unhide HSLx).after (below_alloc' (.cells #[.slice a2 ys.length c2] 25))).besideO (own := fun g => w32.heap.size ≤ g) ⟨(unhide HB3).os, (unhide HB3).tape, (unhide HB3).output, (unhide HB3).size, fun k _ hn => (unhide HB3).block k (by omega)⟩ fun ad e h0 h1 => by have h2 := unhide HCB ad e h0; omega).beside (beside_set w1.heap.size 39 w53 (.slice b3 (xs.length + 1) d3)) fun ad e h0 => (unhide HCN ad e h0).2)
            have HWY : Hid (w32.heap.size ≤ w53.heap.size) := hide (Nat.le_trans (Nat.le_trans (unhide HW2) (below_alloc' (.cells #[.slice a2 ys.length c2] 25)).size) (unhide HB3).size)
            clear hv3 z1 z2 z2a z2b
            go_wp2_with fail
            go_roundw
            case rel =>
              refine ⟨j + 1, b3, d3, by omega, by go_num, hide ?_, hide ?_, HSLy, hide ?_⟩
              · rw [unhide HST]
                exact unhide HU4
              · rw [unhide HST]
                exact (unhide HO3).beside (beside_set w1.heap.size 39 w53 _) (unhide HBN)
              · have := unhide HWY
                simpa using this
            case measure => simp [intOf]; omega
        · have hee : ((itR j S1).2.2 == 0) = false := beq_eq_false_iff_ne.2 herr
          have e9 : (itR j S1).2 = (rRows (rVec (rDigest (rHS 2 S)).2).2).2 := by rw [← unhide HE]; exact (itR_stays S1 j herr NN (by omega)).symm
          have hu := unhide HU0
          rw [e9] at hu
          have HU := hide hu
          rw [e9] at z2 hee
          clear hu e9 herr
          go_wp2_with fail
          have KD := hide (refDoneR_any _ ((rRows (rVec (rDigest (rHS 2 S)).2).2).2) _ (unhide HU).doc)
          rw [unhide HE1] at KD
          refine (unhide KD).mono ?_
          rintro e w40 ⟨rfl, rfl⟩
          go_wp2_with ((with_reducible refine atS27 ?_); (refine store_row (by rfl) 28 (.tmp 2) (.tmp 101) (by rfl) w.heap.size [.int .i64 0, .int .i64 0, .int .i64 0, .int .i64 0, .bool false, .string ⟨#[]⟩, .int .u8 0, .int .u8 0, .int .u8 0, .int .u8 0, .int .u8 0, .int .u8 0, .int .u8 0, .int .u8 0, .int .u8 0, .int .u8 0, .int .u8 0, .int .u8 0, .int .u8 0, .int .u8 0, .int .u8 0, .int .u8 0, .int .u8 0, .int .u8 0, .int .u8 0, .int .u8 0, .int .u8 0, .int .u8 0, .int .u8 0, .int .u8 0, .int .u8 0, .int .u8 0, .int .u8 0, .int .u8 0, .int .u8 0, .int .u8 0, .int .u8 0, .int .u8 0, .slice none 0 0, .slice none 0 0, .string ⟨#[]⟩] (by rfl) (by rfl) 28 mZ (unhide HU).res 41 sizeM rfl mZ_len (by rw [← mZ_lit]; exact mZ_one) ?_); intro w5 ho5 hr5; have HO5 := hide ho5; have HR5 := hide hr5; clear ho5 hr5)
          refine bodyPost_ret (v := .tuple #[.agg (mL zeroM none 0 none 0).toArray, .int .i64 E1]) ?_ rfl ⟨none, 0, none, 0, rfl, Fresh.nil _ _, RProv.none _ _ _, Sl.none _ _, RL.none _ _, ?_⟩
          · have h9 := unhide HR5
            rw [← mZ_lit] at h9
            exact results_msg15 _ _ w.heap.size _ _ rfl rfl h9 mZ_len
          · exact (unhide HU).below.trans ((unhide HO5).below (Nat.le_refl _))
      · obtain rfl : j = NN := by omega
        have HFR : Hid (Fresh (w.heap.size + 2) av (rVec (rDigest (rHS 2 S)).2).1) := hide ((unhide HFV).weak (by have := unhide HWB; have := unhide HBB; omega))
        have hu := unhide HU0
        rw [unhide HE] at hu
        have HU := hide hu
        have ho := unhide HO
        rw [unhide HE] at ho
        obtain ⟨a9, c9, e9, _, hrl, hpv⟩ := ho.rl
        injection e9 with e10 e11 e12
        subst e10
        have HSL := HSLr
        have HRL := hide hrl
        have HPV : Hid (RProv (fun g => w.heap.size + 2 ≤ g) wr b' (rRows (rVec (rDigest (rHS 2 S)).2).2).1) := hide (hpv.weak fun g hg => by have := unhide HBN; have := unhide HBB; omega)
        clear hu ho hrl hpv e11 e12 z1 z2
        go_wp2_with fail
        have KD := hide (refDoneR_any _ ((rRows (rVec (rDigest (rHS 2 S)).2).2).2) _ (unhide HU).doc)
        rw [unhide HE1] at KD
        refine (unhide KD).mono ?_
        rintro e w40 ⟨rfl, rfl⟩
        go_wp2_with ((with_reducible refine atS27 ?_); (refine store_row (by rfl) 28 (.tmp 2) (.tmp 101) (by rfl) w.heap.size [.int .i64 0, .int .i64 0, .int .i64 0, .int .i64 0, .bool false, .string ⟨#[]⟩, .int .u8 0, .int .u8 0, .int .u8 0, .int .u8 0, .int .u8 0, .int .u8 0, .int .u8 0, .int .u8 0, .int .u8 0, .int .u8 0, .int .u8 0, .int .u8 0, .int .u8 0, .int .u8 0, .int .u8 0, .int .u8 0, .int .u8 0, .int .u8 0, .int .u8 0, .int .u8 0, .int .u8 0, .int .u8 0, .int .u8 0, .int .u8 0, .int .u8 0, .int .u8 0, .int .u8 0, .int .u8 0, .int .u8 0, .int .u8 0, .int .u8 0, .int .u8 0, .slice none 0 0, .slice none 0 0, .string ⟨#[]⟩] (by rfl) (by rfl) 28 mZ (unhide HU).res 41 sizeM rfl mZ_len (by rw [← mZ_lit]; exact mZ_one) ?_); intro w5 ho5 hr5; have HO5 := hide ho5; have HR5 := hide hr5; clear ho5 hr5)
        refine bodyPost_ret (v := .tuple #[.agg (mL zeroM none 0 none 0).toArray, .int .i64 E1]) ?_ rfl ⟨none, 0, none, 0, rfl, Fresh.nil _ _, RProv.none _ _ _, Sl.none _ _, RL.none _ _, ?_⟩
        · have h9 := unhide HR5
          rw [← mZ_lit] at h9
          exact results_msg15 _ _ w.heap.size _ _ rfl rfl h9 mZ_len
        · exact (unhide HU).below.trans ((unhide HO5).below (Nat.le_refl _))
end Go.Proofs.YthecijjmgfempaaGreat
