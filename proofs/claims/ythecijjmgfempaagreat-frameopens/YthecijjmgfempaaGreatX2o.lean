/-
  The message that bytes are: the document's Read: kinds without fields of their own.
-/
import Derived.Test.YthecijjmgfempaaGreatX2
namespace Go.Proofs.YthecijjmgfempaaGreat
open Go.RowKit

set_option maxRecDepth 100000 in
set_option maxHeartbeats 4000000 in
theorem refRead_A (s : ByteArray) (hs : s.size ≤ 40000000) (w : World) (S : St) (k : Int) (hx : rNumber (s.data.toList, 0) 1073741824 = (k, S)) (n2 : (k == 2) = false) (n3 : (k == 3) = false) (n4 : (k == 4) = false) (n6 : (k == 6) = false) (he : (S.2 == 0) = false) (hfs : fail S (kindErr k) = S) : Calls Tryz.prog 22 #[.string s] w (ReadMade w (readM (s.data.toList, 0))) := by
  have HZ0 : Hid (VRow ((w.alloc (.cells #[.int .i64 0, .int .i64 0, .int .i64 0, .int .i64 0, .bool false, .string ⟨#[]⟩, .int .u8 0, .int .u8 0, .int .u8 0, .int .u8 0, .int .u8 0, .int .u8 0, .int .u8 0, .int .u8 0, .int .u8 0, .int .u8 0, .int .u8 0, .int .u8 0, .int .u8 0, .int .u8 0, .int .u8 0, .int .u8 0, .int .u8 0, .int .u8 0, .int .u8 0, .int .u8 0, .int .u8 0, .int .u8 0, .int .u8 0, .int .u8 0, .int .u8 0, .int .u8 0, .int .u8 0, .int .u8 0, .int .u8 0, .int .u8 0, .int .u8 0, .int .u8 0, .slice none 0 0, .slice none 0 0, .string ⟨#[]⟩] 28)).alloc (.cells #[.string s, .int .i64 0] 51)) w.heap.size 28 mZ) := hide (by rw [mZ_lit]; exact (VRow.new w 28 [.int .i64 0, .int .i64 0, .int .i64 0, .int .i64 0, .bool false, .string ⟨#[]⟩, .int .u8 0, .int .u8 0, .int .u8 0, .int .u8 0, .int .u8 0, .int .u8 0, .int .u8 0, .int .u8 0, .int .u8 0, .int .u8 0, .int .u8 0, .int .u8 0, .int .u8 0, .int .u8 0, .int .u8 0, .int .u8 0, .int .u8 0, .int .u8 0, .int .u8 0, .int .u8 0, .int .u8 0, .int .u8 0, .int .u8 0, .int .u8 0, .int .u8 0, .int .u8 0, .int .u8 0, .int .u8 0, .int .u8 0, .int .u8 0, .int .u8 0, .int .u8 0, .slice none 0 0, .slice none 0 0, .string ⟨#[]⟩]).alloc _)
  have hd0 : Doc ((w.alloc (.cells #[.int .i64 0, .int .i64 0, .int .i64 0, .int .i64 0, .bool false, .string ⟨#[]⟩, .int .u8 0, .int .u8 0, .int .u8 0, .int .u8 0, .int .u8 0, .int .u8 0, .int .u8 0, .int .u8 0, .int .u8 0, .int .u8 0, .int .u8 0, .int .u8 0, .int .u8 0, .int .u8 0, .int .u8 0, .int .u8 0, .int .u8 0, .int .u8 0, .int .u8 0, .int .u8 0, .int .u8 0, .int .u8 0, .int .u8 0, .int .u8 0, .int .u8 0, .int .u8 0, .int .u8 0, .int .u8 0, .int .u8 0, .int .u8 0, .int .u8 0, .int .u8 0, .slice none 0 0, .slice none 0 0, .string ⟨#[]⟩] 28)).alloc (.cells #[.string s, .int .i64 0] 51)) (w.heap.size + 1) 51 (s.data.toList, 0) := by
    have h := VRow.newAt (W := w.alloc (.cells #[.int .i64 0, .int .i64 0, .int .i64 0, .int .i64 0, .bool false, .string ⟨#[]⟩, .int .u8 0, .int .u8 0, .int .u8 0, .int .u8 0, .int .u8 0, .int .u8 0, .int .u8 0, .int .u8 0, .int .u8 0, .int .u8 0, .int .u8 0, .int .u8 0, .int .u8 0, .int .u8 0, .int .u8 0, .int .u8 0, .int .u8 0, .int .u8 0, .int .u8 0, .int .u8 0, .int .u8 0, .int .u8 0, .int .u8 0, .int .u8 0, .int .u8 0, .int .u8 0, .int .u8 0, .int .u8 0, .int .u8 0, .int .u8 0, .int .u8 0, .int .u8 0, .slice none 0 0, .slice none 0 0, .string ⟨#[]⟩] 28)) (T := 51) (n := w.heap.size + 1) (vs := [.string s, .int .i64 0]) (by simp)
    have e : s = str s.data.toList := rfl
    rw [e] at h
    exact h
  have HB := hide ((below_alloc' (w := w) (.cells #[.int .i64 0, .int .i64 0, .int .i64 0, .int .i64 0, .bool false, .string ⟨#[]⟩, .int .u8 0, .int .u8 0, .int .u8 0, .int .u8 0, .int .u8 0, .int .u8 0, .int .u8 0, .int .u8 0, .int .u8 0, .int .u8 0, .int .u8 0, .int .u8 0, .int .u8 0, .int .u8 0, .int .u8 0, .int .u8 0, .int .u8 0, .int .u8 0, .int .u8 0, .int .u8 0, .int .u8 0, .int .u8 0, .int .u8 0, .int .u8 0, .int .u8 0, .int .u8 0, .int .u8 0, .int .u8 0, .int .u8 0, .int .u8 0, .int .u8 0, .int .u8 0, .slice none 0 0, .slice none 0 0, .string ⟨#[]⟩] 28)).alloc (by simp) (.cells #[.string s, .int .i64 0] 51))
  have HSZ : Hid ((((w.alloc (.cells #[.int .i64 0, .int .i64 0, .int .i64 0, .int .i64 0, .bool false, .string ⟨#[]⟩, .int .u8 0, .int .u8 0, .int .u8 0, .int .u8 0, .int .u8 0, .int .u8 0, .int .u8 0, .int .u8 0, .int .u8 0, .int .u8 0, .int .u8 0, .int .u8 0, .int .u8 0, .int .u8 0, .int .u8 0, .int .u8 0, .int .u8 0, .int .u8 0, .int .u8 0, .int .u8 0, .int .u8 0, .int .u8 0, .int .u8 0, .int .u8 0, .int .u8 0, .int .u8 0, .int .u8 0, .int .u8 0, .int .u8 0, .int .u8 0, .int .u8 0, .int .u8 0, .slice none 0 0, .slice none 0 0, .string ⟨#[]⟩] 28)).alloc (.cells #[.string s, .int .i64 0] 51))).heap.size = w.heap.size + 2) := hide (by simp)
  have hlen : s.data.toList.length ≤ 50000000 := by rw [size_data]; omega
  obtain ⟨st, hst⟩ : ∃ st, ((s.data.toList, 0) : St) = st := ⟨_, rfl⟩
  rw [hst] at hd0 hx ⊢
  have hl0 : st.1.length ≤ 50000000 := by rw [← hst]; exact hlen
  have hl1 := rNumber_len st 1073741824
  rw [hx] at hl1
  have HL0 : Hid (S.1.length ≤ 50000000) := hide (Nat.le_trans hl1 hl0)
  have K0 := hide (refNumberR_any _ _ 1073741824 (by omega) _ hd0)
  rw [hx] at K0
  have hM : rMsg st = (rH k S, (rHS k S)) := by
    unfold rMsg
    rw [hx]
    unfold rBody
    rw [if_neg (by simpa using n2), if_neg (by simpa using n3), if_neg (by simpa using n4), if_neg (by simpa using n6)]
  have HFW : Hid (FewM (rH k S)) := hide (by have h := rMsg_few st; rw [hM] at h; exact h)
  obtain ⟨E1, hE1⟩ : ∃ E, rDone ((rHS k S)) = E := ⟨_, rfl⟩
  obtain ⟨E2, hE2⟩ : ∃ E, checkM (rH k S) = E := ⟨_, rfl⟩
  have hR : readM st = if (if E1 ≠ 0 then E1 else E2) ≠ 0 then (zeroM, if E1 ≠ 0 then E1 else E2) else (rH k S, 0) := by unfold readM readErr; rw [hM]; dsimp only; rw [hE1, hE2]
  have HE1 := hide hE1
  have HE2 := hide hE2
  rw [hR]
  clear hlen hst hE1 hE2 hs hR hM hl0 hl1 hx hd0
  have HFS : Hid (fail S (kindErr k) = S) := hide hfs
  clear hfs
  by_cases h1 : E1 = 0
  · subst h1
    rw [if_neg (by simp : ¬ ((0 : Int) ≠ 0))]
    by_cases h2 : E2 = 0
    · subst h2
      rw [if_neg (by simp)]
      go_enter Tryz.func22, Tryz.ntmps22
      go_wp2_with fail
      refine (unhide K0).mono ?_
      rintro e w1 ⟨rfl, hd, hb⟩
      have HY := hide ((unhide HZ0).beside hb (by intro e; have e2 : w.heap.size = w.heap.size + 1 := e; omega))
      have HB1 := hide ((unhide HB).trans (hb.below (unhide HB).size (by intro g e; have e2 : g = w.heap.size + 1 := e; omega)))
      have HD := hide hd
      have HS1 : Hid (w.heap.size + 2 ≤ w1.heap.size) := hide (by have := hb.size; have := unhide HSZ; omega)
      have HZ1 : Hid (VRow (w1.alloc (.cells #[.int .i64 0, .int .i64 0, .int .i64 0, .int .i64 0, .bool false, .string ⟨#[]⟩, .int .u8 0, .int .u8 0, .int .u8 0, .int .u8 0, .int .u8 0, .int .u8 0, .int .u8 0, .int .u8 0, .int .u8 0, .int .u8 0, .int .u8 0, .int .u8 0, .int .u8 0, .int .u8 0, .int .u8 0, .int .u8 0, .int .u8 0, .int .u8 0, .int .u8 0, .int .u8 0, .int .u8 0, .int .u8 0, .int .u8 0, .int .u8 0, .int .u8 0, .int .u8 0, .int .u8 0, .int .u8 0, .int .u8 0, .int .u8 0, .int .u8 0, .int .u8 0, .slice none 0 0, .slice none 0 0, .string ⟨#[]⟩] 28)) w1.heap.size 28 mZ) := hide (by rw [mZ_lit]; exact VRow.new w1 28 [.int .i64 0, .int .i64 0, .int .i64 0, .int .i64 0, .bool false, .string ⟨#[]⟩, .int .u8 0, .int .u8 0, .int .u8 0, .int .u8 0, .int .u8 0, .int .u8 0, .int .u8 0, .int .u8 0, .int .u8 0, .int .u8 0, .int .u8 0, .int .u8 0, .int .u8 0, .int .u8 0, .int .u8 0, .int .u8 0, .int .u8 0, .int .u8 0, .int .u8 0, .int .u8 0, .int .u8 0, .int .u8 0, .int .u8 0, .int .u8 0, .int .u8 0, .int .u8 0, .int .u8 0, .int .u8 0, .int .u8 0, .int .u8 0, .int .u8 0, .int .u8 0, .slice none 0 0, .slice none 0 0, .string ⟨#[]⟩])
      clear hd hb
      go_wp2_with ((with_reducible refine atS27 ?_); (refine store_row (by rfl) 28 (.tmp 5) (.tmp 14) (by rfl) w1.heap.size (mL { zeroM with kind := k } none 0 none 0) (by rfl) (by rw [mK_lit]; rfl) 28 mZ (unhide HZ1) 41 sizeM rfl mZ_len (mL_one _ _ _ _ _) ?_); intro w2 ho2 hr2; have x0 := m0 hr2; dsimp only at x0; have x1 : w2.cell? ⟨w.heap.size + 1, 1, none⟩ = some (.int .i64 S.2) := VRow.cell (VRow.only ((unhide HD).alloc _) ho2 (by have := unhide HS1; omega)) 1 _ rfl; have HO2 := hide ho2; have HR2 := hide hr2; clear ho2 hr2)
      have H0 : Hid (US w.heap.size w1.heap.size w S { zeroM with kind := k } none 0 none 0 w2) := hide ⟨VRow.only ((unhide HY).alloc _) (unhide HO2) (by have := unhide HS1; omega), unhide HR2, VRow.only ((unhide HD).alloc _) (unhide HO2) (by have := unhide HS1; omega), ((unhide HB1).trans ((below_alloc' _).mono (unhide HB1).size)).trans ((unhide HO2).below (by have := unhide HS1; omega)), unhide HS1⟩
      clear HZ1 HO2 HR2 HY HD HB1
      have H1 : Hid (US w.heap.size w1.heap.size w (fail S (kindErr k)) { zeroM with kind := k } none 0 none 0 w2) := hide (by rw [unhide HFS]; exact unhide H0)
      clear x0 x1
      have HLX : Hid ((fail S (kindErr k)).1.length ≤ 50000000) := hide (by rw [fail_len]; exact unhide HL0)
      refine ((unhide H1).call fun hd => refNumberR_any _ _ 63 (by have := unhide HLX; omega) _ hd).mono ?_
      rintro e w11 ⟨rfl, h1⟩
      have G1 := hide h1
      clear h1
      have x0 := (unhide G1).row.cell 1 _ rfl
      have f0 := (unhide G1).row.frozen 1
      have H2 := hide ((unhide G1).set (set1 (unhide G1).row (rNumber (fail S (kindErr k)) 63).1))
      have HL2 : Hid ((rNumber (fail S (kindErr k)) 63).2.1.length ≤ 50000000) := hide (Nat.le_trans (rNumber_len _ _) (unhide HLX))
      go_wp2_with fail
      clear x0 f0
      refine ((unhide H2).call fun hd => refNumberR_any _ _ 63 (by have := unhide HL2; omega) _ hd).mono ?_
      rintro e w12 ⟨rfl, h2⟩
      have G2 := hide h2
      clear h2
      have x0 := (unhide G2).row.cell 2 _ rfl
      have f0 := (unhide G2).row.frozen 2
      have H3 := hide ((unhide G2).set (set2 (unhide G2).row (rNumber (rNumber (fail S (kindErr k)) 63).2 63).1))
      have HL3 : Hid ((rNumber (rNumber (fail S (kindErr k)) 63).2 63).2.1.length ≤ 50000000) := hide (Nat.le_trans (rNumber_len _ _) (unhide HL2))
      go_wp2_with fail
      clear x0 f0
      refine ((unhide H3).call fun hd => refNumberR_any _ _ 1048576 (by have := unhide HL3; omega) _ hd).mono ?_
      rintro e w13 ⟨rfl, h3⟩
      have G3 := hide h3
      clear h3
      have x0 := (unhide G3).row.cell 3 _ rfl
      have f0 := (unhide G3).row.frozen 3
      have H4 := hide ((unhide G3).set (set3 (unhide G3).row (rNumber (rNumber (rNumber (fail S (kindErr k)) 63).2 63).2 1048576).1))
      have HL4 : Hid ((rNumber (rNumber (rNumber (fail S (kindErr k)) 63).2 63).2 1048576).2.1.length ≤ 50000000) := hide (Nat.le_trans (rNumber_len _ _) (unhide HL3))
      have y0 := m0 (unhide H4).row
      dsimp only at y0
      go_wp2_with fail
      clear x0 f0
      have HU := H4
      have KD := hide (refDoneR_any _ ((rHS k S)) _ (unhide HU).doc)
      rw [unhide HE1] at KD
      go_wp2_with fail
      refine (unhide KD).mono ?_
      rintro e w40 ⟨rfl, rfl⟩
      have HL2 := hide (mL_len (unhide HFW).root none 0 none 0)
      have HO2 := hide (mL_one (rH k S) none 0 none 0)
      have KC := hide fun (W : World) h1 h2 => refCheckM_any (rH k S) none none 0 0 W (unhide HFW) h1 h2
      rw [unhide HE2] at KC
      go_wp2_with ((with_reducible refine at27 ?_); (refine load_msg (by rfl) (.tmp 5) (by rfl) _ (by rfl) _ (unhide HU).row (unhide HL2) ?_))
      refine (unhide KC _ (Sl.none _ _) (RL.none _ _)).mono ?_
      rintro e w41 ⟨rfl, hb⟩
      have HU2 := hide ((unhide HU).after hb)
      clear hb
      go_wp2_with (first
        | ((with_reducible refine at27 ?_); (refine load_msg (by rfl) (.tmp 5) (by rfl) _ (by rfl) _ (unhide HU2).row (unhide HL2) ?_))
        | ((with_reducible refine atS27 ?_); (refine store_row (by rfl) 28 (.tmp 2) (.tmp 103) (by rfl) w.heap.size _ (by rfl) (by rfl) 28 mZ (unhide HU2).res 41 sizeM (unhide HL2) mZ_len (unhide HO2) ?_); intro w5 ho5 hr5; have HO5 := hide ho5; have HR5 := hide hr5; clear ho5 hr5))
      refine bodyPost_ret (v := .tuple #[.agg (mL (rH k S) none 0 none 0).toArray, .int .i64 0]) ?_ rfl ⟨none, 0, none, 0, rfl, Fresh.nil _ _, RProv.none _ _ _, ?_, ?_, ?_⟩
      · exact results_msg15 _ _ w.heap.size _ _ rfl rfl (unhide HR5) (unhide HL2)
      · exact Sl.none _ _
      · exact RL.none _ _
      · exact (unhide HU2).below.trans ((unhide HO5).below (Nat.le_refl _))
    · rw [if_pos h2]
      have hne : (E2 != 0) = true := bne_iff_ne.2 h2
      have hne2 : (E2 == 0) = false := beq_eq_false_iff_ne.2 h2
      go_enter Tryz.func22, Tryz.ntmps22
      go_wp2_with fail
      refine (unhide K0).mono ?_
      rintro e w1 ⟨rfl, hd, hb⟩
      have HY := hide ((unhide HZ0).beside hb (by intro e; have e2 : w.heap.size = w.heap.size + 1 := e; omega))
      have HB1 := hide ((unhide HB).trans (hb.below (unhide HB).size (by intro g e; have e2 : g = w.heap.size + 1 := e; omega)))
      have HD := hide hd
      have HS1 : Hid (w.heap.size + 2 ≤ w1.heap.size) := hide (by have := hb.size; have := unhide HSZ; omega)
      have HZ1 : Hid (VRow (w1.alloc (.cells #[.int .i64 0, .int .i64 0, .int .i64 0, .int .i64 0, .bool false, .string ⟨#[]⟩, .int .u8 0, .int .u8 0, .int .u8 0, .int .u8 0, .int .u8 0, .int .u8 0, .int .u8 0, .int .u8 0, .int .u8 0, .int .u8 0, .int .u8 0, .int .u8 0, .int .u8 0, .int .u8 0, .int .u8 0, .int .u8 0, .int .u8 0, .int .u8 0, .int .u8 0, .int .u8 0, .int .u8 0, .int .u8 0, .int .u8 0, .int .u8 0, .int .u8 0, .int .u8 0, .int .u8 0, .int .u8 0, .int .u8 0, .int .u8 0, .int .u8 0, .int .u8 0, .slice none 0 0, .slice none 0 0, .string ⟨#[]⟩] 28)) w1.heap.size 28 mZ) := hide (by rw [mZ_lit]; exact VRow.new w1 28 [.int .i64 0, .int .i64 0, .int .i64 0, .int .i64 0, .bool false, .string ⟨#[]⟩, .int .u8 0, .int .u8 0, .int .u8 0, .int .u8 0, .int .u8 0, .int .u8 0, .int .u8 0, .int .u8 0, .int .u8 0, .int .u8 0, .int .u8 0, .int .u8 0, .int .u8 0, .int .u8 0, .int .u8 0, .int .u8 0, .int .u8 0, .int .u8 0, .int .u8 0, .int .u8 0, .int .u8 0, .int .u8 0, .int .u8 0, .int .u8 0, .int .u8 0, .int .u8 0, .int .u8 0, .int .u8 0, .int .u8 0, .int .u8 0, .int .u8 0, .int .u8 0, .slice none 0 0, .slice none 0 0, .string ⟨#[]⟩])
      clear hd hb
      go_wp2_with ((with_reducible refine atS27 ?_); (refine store_row (by rfl) 28 (.tmp 5) (.tmp 14) (by rfl) w1.heap.size (mL { zeroM with kind := k } none 0 none 0) (by rfl) (by rw [mK_lit]; rfl) 28 mZ (unhide HZ1) 41 sizeM rfl mZ_len (mL_one _ _ _ _ _) ?_); intro w2 ho2 hr2; have x0 := m0 hr2; dsimp only at x0; have x1 : w2.cell? ⟨w.heap.size + 1, 1, none⟩ = some (.int .i64 S.2) := VRow.cell (VRow.only ((unhide HD).alloc _) ho2 (by have := unhide HS1; omega)) 1 _ rfl; have HO2 := hide ho2; have HR2 := hide hr2; clear ho2 hr2)
      have H0 : Hid (US w.heap.size w1.heap.size w S { zeroM with kind := k } none 0 none 0 w2) := hide ⟨VRow.only ((unhide HY).alloc _) (unhide HO2) (by have := unhide HS1; omega), unhide HR2, VRow.only ((unhide HD).alloc _) (unhide HO2) (by have := unhide HS1; omega), ((unhide HB1).trans ((below_alloc' _).mono (unhide HB1).size)).trans ((unhide HO2).below (by have := unhide HS1; omega)), unhide HS1⟩
      clear HZ1 HO2 HR2 HY HD HB1
      have H1 : Hid (US w.heap.size w1.heap.size w (fail S (kindErr k)) { zeroM with kind := k } none 0 none 0 w2) := hide (by rw [unhide HFS]; exact unhide H0)
      clear x0 x1
      have HLX : Hid ((fail S (kindErr k)).1.length ≤ 50000000) := hide (by rw [fail_len]; exact unhide HL0)
      refine ((unhide H1).call fun hd => refNumberR_any _ _ 63 (by have := unhide HLX; omega) _ hd).mono ?_
      rintro e w11 ⟨rfl, h1⟩
      have G1 := hide h1
      clear h1
      have x0 := (unhide G1).row.cell 1 _ rfl
      have f0 := (unhide G1).row.frozen 1
      have H2 := hide ((unhide G1).set (set1 (unhide G1).row (rNumber (fail S (kindErr k)) 63).1))
      have HL2 : Hid ((rNumber (fail S (kindErr k)) 63).2.1.length ≤ 50000000) := hide (Nat.le_trans (rNumber_len _ _) (unhide HLX))
      go_wp2_with fail
      clear x0 f0
      refine ((unhide H2).call fun hd => refNumberR_any _ _ 63 (by have := unhide HL2; omega) _ hd).mono ?_
      rintro e w12 ⟨rfl, h2⟩
      have G2 := hide h2
      clear h2
      have x0 := (unhide G2).row.cell 2 _ rfl
      have f0 := (unhide G2).row.frozen 2
      have H3 := hide ((unhide G2).set (set2 (unhide G2).row (rNumber (rNumber (fail S (kindErr k)) 63).2 63).1))
      have HL3 : Hid ((rNumber (rNumber (fail S (kindErr k)) 63).2 63).2.1.length ≤ 50000000) := hide (Nat.le_trans (rNumber_len _ _) (unhide HL2))
      go_wp2_with fail
      clear x0 f0
      refine ((unhide H3).call fun hd => refNumberR_any _ _ 1048576 (by have := unhide HL3; omega) _ hd).mono ?_
      rintro e w13 ⟨rfl, h3⟩
      have G3 := hide h3
      clear h3
      have x0 := (unhide G3).row.cell 3 _ rfl
      have f0 := (unhide G3).row.frozen 3
      have H4 := hide ((unhide G3).set (set3 (unhide G3).row (rNumber (rNumber (rNumber (fail S (kindErr k)) 63).2 63).2 1048576).1))
      have HL4 : Hid ((rNumber (rNumber (rNumber (fail S (kindErr k)) 63).2 63).2 1048576).2.1.length ≤ 50000000) := hide (Nat.le_trans (rNumber_len _ _) (unhide HL3))
      have y0 := m0 (unhide H4).row
      dsimp only at y0
      go_wp2_with fail
      clear x0 f0
      have HU := H4
      have KD := hide (refDoneR_any _ ((rHS k S)) _ (unhide HU).doc)
      rw [unhide HE1] at KD
      go_wp2_with fail
      refine (unhide KD).mono ?_
      rintro e w40 ⟨rfl, rfl⟩
      have HL2 := hide (mL_len (unhide HFW).root none 0 none 0)
      have HO2 := hide (mL_one (rH k S) none 0 none 0)
      have KC := hide fun (W : World) h1 h2 => refCheckM_any (rH k S) none none 0 0 W (unhide HFW) h1 h2
      rw [unhide HE2] at KC
      go_wp2_with ((with_reducible refine at27 ?_); (refine load_msg (by rfl) (.tmp 5) (by rfl) _ (by rfl) _ (unhide HU).row (unhide HL2) ?_))
      refine (unhide KC _ (Sl.none _ _) (RL.none _ _)).mono ?_
      rintro e w41 ⟨rfl, hb⟩
      have HU2 := hide ((unhide HU).after hb)
      clear hb
      go_wp2_with ((with_reducible refine atS27 ?_); (refine store_row (by rfl) 28 (.tmp 2) (.tmp 101) (by rfl) w.heap.size [.int .i64 0, .int .i64 0, .int .i64 0, .int .i64 0, .bool false, .string ⟨#[]⟩, .int .u8 0, .int .u8 0, .int .u8 0, .int .u8 0, .int .u8 0, .int .u8 0, .int .u8 0, .int .u8 0, .int .u8 0, .int .u8 0, .int .u8 0, .int .u8 0, .int .u8 0, .int .u8 0, .int .u8 0, .int .u8 0, .int .u8 0, .int .u8 0, .int .u8 0, .int .u8 0, .int .u8 0, .int .u8 0, .int .u8 0, .int .u8 0, .int .u8 0, .int .u8 0, .int .u8 0, .int .u8 0, .int .u8 0, .int .u8 0, .int .u8 0, .int .u8 0, .slice none 0 0, .slice none 0 0, .string ⟨#[]⟩] (by rfl) (by rfl) 28 mZ (unhide HU2).res 41 sizeM rfl mZ_len (by rw [← mZ_lit]; exact mZ_one) ?_); intro w5 ho5 hr5; have HO5 := hide ho5; have HR5 := hide hr5; clear ho5 hr5)
      refine bodyPost_ret (v := .tuple #[.agg (mL zeroM none 0 none 0).toArray, .int .i64 E2]) ?_ rfl ⟨none, 0, none, 0, rfl, Fresh.nil _ _, RProv.none _ _ _, Sl.none _ _, RL.none _ _, ?_⟩
      · have h9 := unhide HR5
        rw [← mZ_lit] at h9
        exact results_msg15 _ _ w.heap.size _ _ rfl rfl h9 mZ_len
      · exact (unhide HU2).below.trans ((unhide HO5).below (Nat.le_refl _))
  · rw [if_pos h1, if_pos h1]
    have hne : (E1 != 0) = true := bne_iff_ne.2 h1
    have hne2 : (E1 == 0) = false := beq_eq_false_iff_ne.2 h1
    go_enter Tryz.func22, Tryz.ntmps22
    go_wp2_with fail
    refine (unhide K0).mono ?_
    rintro e w1 ⟨rfl, hd, hb⟩
    have HY := hide ((unhide HZ0).beside hb (by intro e; have e2 : w.heap.size = w.heap.size + 1 := e; omega))
    have HB1 := hide ((unhide HB).trans (hb.below (unhide HB).size (by intro g e; have e2 : g = w.heap.size + 1 := e; omega)))
    have HD := hide hd
    have HS1 : Hid (w.heap.size + 2 ≤ w1.heap.size) := hide (by have := hb.size; have := unhide HSZ; omega)
    have HZ1 : Hid (VRow (w1.alloc (.cells #[.int .i64 0, .int .i64 0, .int .i64 0, .int .i64 0, .bool false, .string ⟨#[]⟩, .int .u8 0, .int .u8 0, .int .u8 0, .int .u8 0, .int .u8 0, .int .u8 0, .int .u8 0, .int .u8 0, .int .u8 0, .int .u8 0, .int .u8 0, .int .u8 0, .int .u8 0, .int .u8 0, .int .u8 0, .int .u8 0, .int .u8 0, .int .u8 0, .int .u8 0, .int .u8 0, .int .u8 0, .int .u8 0, .int .u8 0, .int .u8 0, .int .u8 0, .int .u8 0, .int .u8 0, .int .u8 0, .int .u8 0, .int .u8 0, .int .u8 0, .int .u8 0, .slice none 0 0, .slice none 0 0, .string ⟨#[]⟩] 28)) w1.heap.size 28 mZ) := hide (by rw [mZ_lit]; exact VRow.new w1 28 [.int .i64 0, .int .i64 0, .int .i64 0, .int .i64 0, .bool false, .string ⟨#[]⟩, .int .u8 0, .int .u8 0, .int .u8 0, .int .u8 0, .int .u8 0, .int .u8 0, .int .u8 0, .int .u8 0, .int .u8 0, .int .u8 0, .int .u8 0, .int .u8 0, .int .u8 0, .int .u8 0, .int .u8 0, .int .u8 0, .int .u8 0, .int .u8 0, .int .u8 0, .int .u8 0, .int .u8 0, .int .u8 0, .int .u8 0, .int .u8 0, .int .u8 0, .int .u8 0, .int .u8 0, .int .u8 0, .int .u8 0, .int .u8 0, .int .u8 0, .int .u8 0, .slice none 0 0, .slice none 0 0, .string ⟨#[]⟩])
    clear hd hb
    go_wp2_with ((with_reducible refine atS27 ?_); (refine store_row (by rfl) 28 (.tmp 5) (.tmp 14) (by rfl) w1.heap.size (mL { zeroM with kind := k } none 0 none 0) (by rfl) (by rw [mK_lit]; rfl) 28 mZ (unhide HZ1) 41 sizeM rfl mZ_len (mL_one _ _ _ _ _) ?_); intro w2 ho2 hr2; have x0 := m0 hr2; dsimp only at x0; have x1 : w2.cell? ⟨w.heap.size + 1, 1, none⟩ = some (.int .i64 S.2) := VRow.cell (VRow.only ((unhide HD).alloc _) ho2 (by have := unhide HS1; omega)) 1 _ rfl; have HO2 := hide ho2; have HR2 := hide hr2; clear ho2 hr2)
    have H0 : Hid (US w.heap.size w1.heap.size w S { zeroM with kind := k } none 0 none 0 w2) := hide ⟨VRow.only ((unhide HY).alloc _) (unhide HO2) (by have := unhide HS1; omega), unhide HR2, VRow.only ((unhide HD).alloc _) (unhide HO2) (by have := unhide HS1; omega), ((unhide HB1).trans ((below_alloc' _).mono (unhide HB1).size)).trans ((unhide HO2).below (by have := unhide HS1; omega)), unhide HS1⟩
    clear HZ1 HO2 HR2 HY HD HB1
    have H1 : Hid (US w.heap.size w1.heap.size w (fail S (kindErr k)) { zeroM with kind := k } none 0 none 0 w2) := hide (by rw [unhide HFS]; exact unhide H0)
    clear x0 x1
    have HLX : Hid ((fail S (kindErr k)).1.length ≤ 50000000) := hide (by rw [fail_len]; exact unhide HL0)
    refine ((unhide H1).call fun hd => refNumberR_any _ _ 63 (by have := unhide HLX; omega) _ hd).mono ?_
    rintro e w11 ⟨rfl, h1⟩
    have G1 := hide h1
    clear h1
    have x0 := (unhide G1).row.cell 1 _ rfl
    have f0 := (unhide G1).row.frozen 1
    have H2 := hide ((unhide G1).set (set1 (unhide G1).row (rNumber (fail S (kindErr k)) 63).1))
    have HL2 : Hid ((rNumber (fail S (kindErr k)) 63).2.1.length ≤ 50000000) := hide (Nat.le_trans (rNumber_len _ _) (unhide HLX))
    go_wp2_with fail
    clear x0 f0
    refine ((unhide H2).call fun hd => refNumberR_any _ _ 63 (by have := unhide HL2; omega) _ hd).mono ?_
    rintro e w12 ⟨rfl, h2⟩
    have G2 := hide h2
    clear h2
    have x0 := (unhide G2).row.cell 2 _ rfl
    have f0 := (unhide G2).row.frozen 2
    have H3 := hide ((unhide G2).set (set2 (unhide G2).row (rNumber (rNumber (fail S (kindErr k)) 63).2 63).1))
    have HL3 : Hid ((rNumber (rNumber (fail S (kindErr k)) 63).2 63).2.1.length ≤ 50000000) := hide (Nat.le_trans (rNumber_len _ _) (unhide HL2))
    go_wp2_with fail
    clear x0 f0
    refine ((unhide H3).call fun hd => refNumberR_any _ _ 1048576 (by have := unhide HL3; omega) _ hd).mono ?_
    rintro e w13 ⟨rfl, h3⟩
    have G3 := hide h3
    clear h3
    have x0 := (unhide G3).row.cell 3 _ rfl
    have f0 := (unhide G3).row.frozen 3
    have H4 := hide ((unhide G3).set (set3 (unhide G3).row (rNumber (rNumber (rNumber (fail S (kindErr k)) 63).2 63).2 1048576).1))
    have HL4 : Hid ((rNumber (rNumber (rNumber (fail S (kindErr k)) 63).2 63).2 1048576).2.1.length ≤ 50000000) := hide (Nat.le_trans (rNumber_len _ _) (unhide HL3))
    have y0 := m0 (unhide H4).row
    dsimp only at y0
    go_wp2_with fail
    clear x0 f0
    have HU := H4
    have KD := hide (refDoneR_any _ ((rHS k S)) _ (unhide HU).doc)
    rw [unhide HE1] at KD
    go_wp2_with fail
    refine (unhide KD).mono ?_
    rintro e w40 ⟨rfl, rfl⟩
    go_wp2_with ((with_reducible refine atS27 ?_); (refine store_row (by rfl) 28 (.tmp 2) (.tmp 101) (by rfl) w.heap.size [.int .i64 0, .int .i64 0, .int .i64 0, .int .i64 0, .bool false, .string ⟨#[]⟩, .int .u8 0, .int .u8 0, .int .u8 0, .int .u8 0, .int .u8 0, .int .u8 0, .int .u8 0, .int .u8 0, .int .u8 0, .int .u8 0, .int .u8 0, .int .u8 0, .int .u8 0, .int .u8 0, .int .u8 0, .int .u8 0, .int .u8 0, .int .u8 0, .int .u8 0, .int .u8 0, .int .u8 0, .int .u8 0, .int .u8 0, .int .u8 0, .int .u8 0, .int .u8 0, .int .u8 0, .int .u8 0, .int .u8 0, .int .u8 0, .int .u8 0, .int .u8 0, .slice none 0 0, .slice none 0 0, .string ⟨#[]⟩] (by rfl) (by rfl) 28 mZ (unhide HU).res 41 sizeM rfl mZ_len (by rw [← mZ_lit]; exact mZ_one) ?_); intro w5 ho5 hr5; have HO5 := hide ho5; have HR5 := hide hr5; clear ho5 hr5)
    refine bodyPost_ret (v := .tuple #[.agg (mL zeroM none 0 none 0).toArray, .int .i64 E1]) ?_ rfl ⟨none, 0, none, 0, rfl, Fresh.nil _ _, RProv.none _ _ _, Sl.none _ _, RL.none _ _, ?_⟩
    · have h9 := unhide HR5
      rw [← mZ_lit] at h9
      exact results_msg15 _ _ w.heap.size _ _ rfl rfl h9 mZ_len
    · exact (unhide HU).below.trans ((unhide HO5).below (Nat.le_refl _))

set_option maxRecDepth 100000 in
set_option maxHeartbeats 4000000 in
theorem refRead_B1 (s : ByteArray) (hs : s.size ≤ 40000000) (w : World) (S : St) (k : Int) (hx : rNumber (s.data.toList, 0) 1073741824 = (k, S)) (n2 : (k == 2) = false) (n3 : (k == 3) = false) (n4 : (k == 4) = false) (n6 : (k == 6) = false) (he : S.2 = 0) (hk1 : k < 1) (hke : kindErr k = 15) : Calls Tryz.prog 22 #[.string s] w (ReadMade w (readM (s.data.toList, 0))) := by
  have HZ0 : Hid (VRow ((w.alloc (.cells #[.int .i64 0, .int .i64 0, .int .i64 0, .int .i64 0, .bool false, .string ⟨#[]⟩, .int .u8 0, .int .u8 0, .int .u8 0, .int .u8 0, .int .u8 0, .int .u8 0, .int .u8 0, .int .u8 0, .int .u8 0, .int .u8 0, .int .u8 0, .int .u8 0, .int .u8 0, .int .u8 0, .int .u8 0, .int .u8 0, .int .u8 0, .int .u8 0, .int .u8 0, .int .u8 0, .int .u8 0, .int .u8 0, .int .u8 0, .int .u8 0, .int .u8 0, .int .u8 0, .int .u8 0, .int .u8 0, .int .u8 0, .int .u8 0, .int .u8 0, .int .u8 0, .slice none 0 0, .slice none 0 0, .string ⟨#[]⟩] 28)).alloc (.cells #[.string s, .int .i64 0] 51)) w.heap.size 28 mZ) := hide (by rw [mZ_lit]; exact (VRow.new w 28 [.int .i64 0, .int .i64 0, .int .i64 0, .int .i64 0, .bool false, .string ⟨#[]⟩, .int .u8 0, .int .u8 0, .int .u8 0, .int .u8 0, .int .u8 0, .int .u8 0, .int .u8 0, .int .u8 0, .int .u8 0, .int .u8 0, .int .u8 0, .int .u8 0, .int .u8 0, .int .u8 0, .int .u8 0, .int .u8 0, .int .u8 0, .int .u8 0, .int .u8 0, .int .u8 0, .int .u8 0, .int .u8 0, .int .u8 0, .int .u8 0, .int .u8 0, .int .u8 0, .int .u8 0, .int .u8 0, .int .u8 0, .int .u8 0, .int .u8 0, .int .u8 0, .slice none 0 0, .slice none 0 0, .string ⟨#[]⟩]).alloc _)
  have hd0 : Doc ((w.alloc (.cells #[.int .i64 0, .int .i64 0, .int .i64 0, .int .i64 0, .bool false, .string ⟨#[]⟩, .int .u8 0, .int .u8 0, .int .u8 0, .int .u8 0, .int .u8 0, .int .u8 0, .int .u8 0, .int .u8 0, .int .u8 0, .int .u8 0, .int .u8 0, .int .u8 0, .int .u8 0, .int .u8 0, .int .u8 0, .int .u8 0, .int .u8 0, .int .u8 0, .int .u8 0, .int .u8 0, .int .u8 0, .int .u8 0, .int .u8 0, .int .u8 0, .int .u8 0, .int .u8 0, .int .u8 0, .int .u8 0, .int .u8 0, .int .u8 0, .int .u8 0, .int .u8 0, .slice none 0 0, .slice none 0 0, .string ⟨#[]⟩] 28)).alloc (.cells #[.string s, .int .i64 0] 51)) (w.heap.size + 1) 51 (s.data.toList, 0) := by
    have h := VRow.newAt (W := w.alloc (.cells #[.int .i64 0, .int .i64 0, .int .i64 0, .int .i64 0, .bool false, .string ⟨#[]⟩, .int .u8 0, .int .u8 0, .int .u8 0, .int .u8 0, .int .u8 0, .int .u8 0, .int .u8 0, .int .u8 0, .int .u8 0, .int .u8 0, .int .u8 0, .int .u8 0, .int .u8 0, .int .u8 0, .int .u8 0, .int .u8 0, .int .u8 0, .int .u8 0, .int .u8 0, .int .u8 0, .int .u8 0, .int .u8 0, .int .u8 0, .int .u8 0, .int .u8 0, .int .u8 0, .int .u8 0, .int .u8 0, .int .u8 0, .int .u8 0, .int .u8 0, .int .u8 0, .slice none 0 0, .slice none 0 0, .string ⟨#[]⟩] 28)) (T := 51) (n := w.heap.size + 1) (vs := [.string s, .int .i64 0]) (by simp)
    have e : s = str s.data.toList := rfl
    rw [e] at h
    exact h
  have HB := hide ((below_alloc' (w := w) (.cells #[.int .i64 0, .int .i64 0, .int .i64 0, .int .i64 0, .bool false, .string ⟨#[]⟩, .int .u8 0, .int .u8 0, .int .u8 0, .int .u8 0, .int .u8 0, .int .u8 0, .int .u8 0, .int .u8 0, .int .u8 0, .int .u8 0, .int .u8 0, .int .u8 0, .int .u8 0, .int .u8 0, .int .u8 0, .int .u8 0, .int .u8 0, .int .u8 0, .int .u8 0, .int .u8 0, .int .u8 0, .int .u8 0, .int .u8 0, .int .u8 0, .int .u8 0, .int .u8 0, .int .u8 0, .int .u8 0, .int .u8 0, .int .u8 0, .int .u8 0, .int .u8 0, .slice none 0 0, .slice none 0 0, .string ⟨#[]⟩] 28)).alloc (by simp) (.cells #[.string s, .int .i64 0] 51))
  have HSZ : Hid ((((w.alloc (.cells #[.int .i64 0, .int .i64 0, .int .i64 0, .int .i64 0, .bool false, .string ⟨#[]⟩, .int .u8 0, .int .u8 0, .int .u8 0, .int .u8 0, .int .u8 0, .int .u8 0, .int .u8 0, .int .u8 0, .int .u8 0, .int .u8 0, .int .u8 0, .int .u8 0, .int .u8 0, .int .u8 0, .int .u8 0, .int .u8 0, .int .u8 0, .int .u8 0, .int .u8 0, .int .u8 0, .int .u8 0, .int .u8 0, .int .u8 0, .int .u8 0, .int .u8 0, .int .u8 0, .int .u8 0, .int .u8 0, .int .u8 0, .int .u8 0, .int .u8 0, .int .u8 0, .slice none 0 0, .slice none 0 0, .string ⟨#[]⟩] 28)).alloc (.cells #[.string s, .int .i64 0] 51))).heap.size = w.heap.size + 2) := hide (by simp)
  have hlen : s.data.toList.length ≤ 50000000 := by rw [size_data]; omega
  obtain ⟨st, hst⟩ : ∃ st, ((s.data.toList, 0) : St) = st := ⟨_, rfl⟩
  rw [hst] at hd0 hx ⊢
  have hl0 : st.1.length ≤ 50000000 := by rw [← hst]; exact hlen
  have hl1 := rNumber_len st 1073741824
  rw [hx] at hl1
  have HL0 : Hid (S.1.length ≤ 50000000) := hide (Nat.le_trans hl1 hl0)
  have K0 := hide (refNumberR_any _ _ 1073741824 (by omega) _ hd0)
  rw [hx] at K0
  have hM : rMsg st = (rH k S, (rHS k S)) := by
    unfold rMsg
    rw [hx]
    unfold rBody
    rw [if_neg (by simpa using n2), if_neg (by simpa using n3), if_neg (by simpa using n4), if_neg (by simpa using n6)]
  have HFW : Hid (FewM (rH k S)) := hide (by have h := rMsg_few st; rw [hM] at h; exact h)
  obtain ⟨E1, hE1⟩ : ∃ E, rDone ((rHS k S)) = E := ⟨_, rfl⟩
  obtain ⟨E2, hE2⟩ : ∃ E, checkM (rH k S) = E := ⟨_, rfl⟩
  have hR : readM st = if (if E1 ≠ 0 then E1 else E2) ≠ 0 then (zeroM, if E1 ≠ 0 then E1 else E2) else (rH k S, 0) := by unfold readM readErr; rw [hM]; dsimp only; rw [hE1, hE2]
  have HE1 := hide hE1
  have HE2 := hide hE2
  rw [hR]
  clear hlen hst hE1 hE2 hs hR hM hl0 hl1 hx hd0
  have HKE : Hid (kindErr k = 15) := hide hke
  clear hke
  by_cases h1 : E1 = 0
  · subst h1
    rw [if_neg (by simp : ¬ ((0 : Int) ≠ 0))]
    by_cases h2 : E2 = 0
    · subst h2
      rw [if_neg (by simp)]
      go_enter Tryz.func22, Tryz.ntmps22
      go_wp2_with fail
      refine (unhide K0).mono ?_
      rintro e w1 ⟨rfl, hd, hb⟩
      have HY := hide ((unhide HZ0).beside hb (by intro e; have e2 : w.heap.size = w.heap.size + 1 := e; omega))
      have HB1 := hide ((unhide HB).trans (hb.below (unhide HB).size (by intro g e; have e2 : g = w.heap.size + 1 := e; omega)))
      have HD := hide hd
      have HS1 : Hid (w.heap.size + 2 ≤ w1.heap.size) := hide (by have := hb.size; have := unhide HSZ; omega)
      have HZ1 : Hid (VRow (w1.alloc (.cells #[.int .i64 0, .int .i64 0, .int .i64 0, .int .i64 0, .bool false, .string ⟨#[]⟩, .int .u8 0, .int .u8 0, .int .u8 0, .int .u8 0, .int .u8 0, .int .u8 0, .int .u8 0, .int .u8 0, .int .u8 0, .int .u8 0, .int .u8 0, .int .u8 0, .int .u8 0, .int .u8 0, .int .u8 0, .int .u8 0, .int .u8 0, .int .u8 0, .int .u8 0, .int .u8 0, .int .u8 0, .int .u8 0, .int .u8 0, .int .u8 0, .int .u8 0, .int .u8 0, .int .u8 0, .int .u8 0, .int .u8 0, .int .u8 0, .int .u8 0, .int .u8 0, .slice none 0 0, .slice none 0 0, .string ⟨#[]⟩] 28)) w1.heap.size 28 mZ) := hide (by rw [mZ_lit]; exact VRow.new w1 28 [.int .i64 0, .int .i64 0, .int .i64 0, .int .i64 0, .bool false, .string ⟨#[]⟩, .int .u8 0, .int .u8 0, .int .u8 0, .int .u8 0, .int .u8 0, .int .u8 0, .int .u8 0, .int .u8 0, .int .u8 0, .int .u8 0, .int .u8 0, .int .u8 0, .int .u8 0, .int .u8 0, .int .u8 0, .int .u8 0, .int .u8 0, .int .u8 0, .int .u8 0, .int .u8 0, .int .u8 0, .int .u8 0, .int .u8 0, .int .u8 0, .int .u8 0, .int .u8 0, .int .u8 0, .int .u8 0, .int .u8 0, .int .u8 0, .int .u8 0, .int .u8 0, .slice none 0 0, .slice none 0 0, .string ⟨#[]⟩])
      clear hd hb
      go_wp2_with ((with_reducible refine atS27 ?_); (refine store_row (by rfl) 28 (.tmp 5) (.tmp 14) (by rfl) w1.heap.size (mL { zeroM with kind := k } none 0 none 0) (by rfl) (by rw [mK_lit]; rfl) 28 mZ (unhide HZ1) 41 sizeM rfl mZ_len (mL_one _ _ _ _ _) ?_); intro w2 ho2 hr2; have x0 := m0 hr2; dsimp only at x0; have x1 : w2.cell? ⟨w.heap.size + 1, 1, none⟩ = some (.int .i64 S.2) := VRow.cell (VRow.only ((unhide HD).alloc _) ho2 (by have := unhide HS1; omega)) 1 _ rfl; have HO2 := hide ho2; have HR2 := hide hr2; clear ho2 hr2)
      have H0 : Hid (US w.heap.size w1.heap.size w S { zeroM with kind := k } none 0 none 0 w2) := hide ⟨VRow.only ((unhide HY).alloc _) (unhide HO2) (by have := unhide HS1; omega), unhide HR2, VRow.only ((unhide HD).alloc _) (unhide HO2) (by have := unhide HS1; omega), ((unhide HB1).trans ((below_alloc' _).mono (unhide HB1).size)).trans ((unhide HO2).below (by have := unhide HS1; omega)), unhide HS1⟩
      clear HZ1 HO2 HR2 HY HD HB1
      refine ((unhide H0).call fun hd => refFailR_any _ _ 15 _ hd).mono ?_
      rintro e w3 ⟨rfl, h1⟩
      have H1 : Hid (US w.heap.size w1.heap.size w (fail S (kindErr k)) { zeroM with kind := k } none 0 none 0 w3) := hide (by rw [unhide HKE]; exact h1)
      clear h1 x0 x1
      go_wp2_with fail
      have HLX : Hid ((fail S (kindErr k)).1.length ≤ 50000000) := hide (by rw [fail_len]; exact unhide HL0)
      refine ((unhide H1).call fun hd => refNumberR_any _ _ 63 (by have := unhide HLX; omega) _ hd).mono ?_
      rintro e w11 ⟨rfl, h1⟩
      have G1 := hide h1
      clear h1
      have x0 := (unhide G1).row.cell 1 _ rfl
      have f0 := (unhide G1).row.frozen 1
      have H2 := hide ((unhide G1).set (set1 (unhide G1).row (rNumber (fail S (kindErr k)) 63).1))
      have HL2 : Hid ((rNumber (fail S (kindErr k)) 63).2.1.length ≤ 50000000) := hide (Nat.le_trans (rNumber_len _ _) (unhide HLX))
      go_wp2_with fail
      clear x0 f0
      refine ((unhide H2).call fun hd => refNumberR_any _ _ 63 (by have := unhide HL2; omega) _ hd).mono ?_
      rintro e w12 ⟨rfl, h2⟩
      have G2 := hide h2
      clear h2
      have x0 := (unhide G2).row.cell 2 _ rfl
      have f0 := (unhide G2).row.frozen 2
      have H3 := hide ((unhide G2).set (set2 (unhide G2).row (rNumber (rNumber (fail S (kindErr k)) 63).2 63).1))
      have HL3 : Hid ((rNumber (rNumber (fail S (kindErr k)) 63).2 63).2.1.length ≤ 50000000) := hide (Nat.le_trans (rNumber_len _ _) (unhide HL2))
      go_wp2_with fail
      clear x0 f0
      refine ((unhide H3).call fun hd => refNumberR_any _ _ 1048576 (by have := unhide HL3; omega) _ hd).mono ?_
      rintro e w13 ⟨rfl, h3⟩
      have G3 := hide h3
      clear h3
      have x0 := (unhide G3).row.cell 3 _ rfl
      have f0 := (unhide G3).row.frozen 3
      have H4 := hide ((unhide G3).set (set3 (unhide G3).row (rNumber (rNumber (rNumber (fail S (kindErr k)) 63).2 63).2 1048576).1))
      have HL4 : Hid ((rNumber (rNumber (rNumber (fail S (kindErr k)) 63).2 63).2 1048576).2.1.length ≤ 50000000) := hide (Nat.le_trans (rNumber_len _ _) (unhide HL3))
      have y0 := m0 (unhide H4).row
      dsimp only at y0
      go_wp2_with fail
      clear x0 f0
      have HU := H4
      have KD := hide (refDoneR_any _ ((rHS k S)) _ (unhide HU).doc)
      rw [unhide HE1] at KD
      go_wp2_with fail
      refine (unhide KD).mono ?_
      rintro e w40 ⟨rfl, rfl⟩
      have HL2 := hide (mL_len (unhide HFW).root none 0 none 0)
      have HO2 := hide (mL_one (rH k S) none 0 none 0)
      have KC := hide fun (W : World) h1 h2 => refCheckM_any (rH k S) none none 0 0 W (unhide HFW) h1 h2
      rw [unhide HE2] at KC
      go_wp2_with ((with_reducible refine at27 ?_); (refine load_msg (by rfl) (.tmp 5) (by rfl) _ (by rfl) _ (unhide HU).row (unhide HL2) ?_))
      refine (unhide KC _ (Sl.none _ _) (RL.none _ _)).mono ?_
      rintro e w41 ⟨rfl, hb⟩
      have HU2 := hide ((unhide HU).after hb)
      clear hb
      go_wp2_with (first
        | ((with_reducible refine at27 ?_); (refine load_msg (by rfl) (.tmp 5) (by rfl) _ (by rfl) _ (unhide HU2).row (unhide HL2) ?_))
        | ((with_reducible refine atS27 ?_); (refine store_row (by rfl) 28 (.tmp 2) (.tmp 103) (by rfl) w.heap.size _ (by rfl) (by rfl) 28 mZ (unhide HU2).res 41 sizeM (unhide HL2) mZ_len (unhide HO2) ?_); intro w5 ho5 hr5; have HO5 := hide ho5; have HR5 := hide hr5; clear ho5 hr5))
      refine bodyPost_ret (v := .tuple #[.agg (mL (rH k S) none 0 none 0).toArray, .int .i64 0]) ?_ rfl ⟨none, 0, none, 0, rfl, Fresh.nil _ _, RProv.none _ _ _, ?_, ?_, ?_⟩
      · exact results_msg15 _ _ w.heap.size _ _ rfl rfl (unhide HR5) (unhide HL2)
      · exact Sl.none _ _
      · exact RL.none _ _
      · exact (unhide HU2).below.trans ((unhide HO5).below (Nat.le_refl _))
    · rw [if_pos h2]
      have hne : (E2 != 0) = true := bne_iff_ne.2 h2
      have hne2 : (E2 == 0) = false := beq_eq_false_iff_ne.2 h2
      go_enter Tryz.func22, Tryz.ntmps22
      go_wp2_with fail
      refine (unhide K0).mono ?_
      rintro e w1 ⟨rfl, hd, hb⟩
      have HY := hide ((unhide HZ0).beside hb (by intro e; have e2 : w.heap.size = w.heap.size + 1 := e; omega))
      have HB1 := hide ((unhide HB).trans (hb.below (unhide HB).size (by intro g e; have e2 : g = w.heap.size + 1 := e; omega)))
      have HD := hide hd
      have HS1 : Hid (w.heap.size + 2 ≤ w1.heap.size) := hide (by have := hb.size; have := unhide HSZ; omega)
      have HZ1 : Hid (VRow (w1.alloc (.cells #[.int .i64 0, .int .i64 0, .int .i64 0, .int .i64 0, .bool false, .string ⟨#[]⟩, .int .u8 0, .int .u8 0, .int .u8 0, .int .u8 0, .int .u8 0, .int .u8 0, .int .u8 0, .int .u8 0, .int .u8 0, .int .u8 0, .int .u8 0, .int .u8 0, .int .u8 0, .int .u8 0, .int .u8 0, .int .u8 0, .int .u8 0, .int .u8 0, .int .u8 0, .int .u8 0, .int .u8 0, .int .u8 0, .int .u8 0, .int .u8 0, .int .u8 0, .int .u8 0, .int .u8 0, .int .u8 0, .int .u8 0, .int .u8 0, .int .u8 0, .int .u8 0, .slice none 0 0, .slice none 0 0, .string ⟨#[]⟩] 28)) w1.heap.size 28 mZ) := hide (by rw [mZ_lit]; exact VRow.new w1 28 [.int .i64 0, .int .i64 0, .int .i64 0, .int .i64 0, .bool false, .string ⟨#[]⟩, .int .u8 0, .int .u8 0, .int .u8 0, .int .u8 0, .int .u8 0, .int .u8 0, .int .u8 0, .int .u8 0, .int .u8 0, .int .u8 0, .int .u8 0, .int .u8 0, .int .u8 0, .int .u8 0, .int .u8 0, .int .u8 0, .int .u8 0, .int .u8 0, .int .u8 0, .int .u8 0, .int .u8 0, .int .u8 0, .int .u8 0, .int .u8 0, .int .u8 0, .int .u8 0, .int .u8 0, .int .u8 0, .int .u8 0, .int .u8 0, .int .u8 0, .int .u8 0, .slice none 0 0, .slice none 0 0, .string ⟨#[]⟩])
      clear hd hb
      go_wp2_with ((with_reducible refine atS27 ?_); (refine store_row (by rfl) 28 (.tmp 5) (.tmp 14) (by rfl) w1.heap.size (mL { zeroM with kind := k } none 0 none 0) (by rfl) (by rw [mK_lit]; rfl) 28 mZ (unhide HZ1) 41 sizeM rfl mZ_len (mL_one _ _ _ _ _) ?_); intro w2 ho2 hr2; have x0 := m0 hr2; dsimp only at x0; have x1 : w2.cell? ⟨w.heap.size + 1, 1, none⟩ = some (.int .i64 S.2) := VRow.cell (VRow.only ((unhide HD).alloc _) ho2 (by have := unhide HS1; omega)) 1 _ rfl; have HO2 := hide ho2; have HR2 := hide hr2; clear ho2 hr2)
      have H0 : Hid (US w.heap.size w1.heap.size w S { zeroM with kind := k } none 0 none 0 w2) := hide ⟨VRow.only ((unhide HY).alloc _) (unhide HO2) (by have := unhide HS1; omega), unhide HR2, VRow.only ((unhide HD).alloc _) (unhide HO2) (by have := unhide HS1; omega), ((unhide HB1).trans ((below_alloc' _).mono (unhide HB1).size)).trans ((unhide HO2).below (by have := unhide HS1; omega)), unhide HS1⟩
      clear HZ1 HO2 HR2 HY HD HB1
      refine ((unhide H0).call fun hd => refFailR_any _ _ 15 _ hd).mono ?_
      rintro e w3 ⟨rfl, h1⟩
      have H1 : Hid (US w.heap.size w1.heap.size w (fail S (kindErr k)) { zeroM with kind := k } none 0 none 0 w3) := hide (by rw [unhide HKE]; exact h1)
      clear h1 x0 x1
      go_wp2_with fail
      have HLX : Hid ((fail S (kindErr k)).1.length ≤ 50000000) := hide (by rw [fail_len]; exact unhide HL0)
      refine ((unhide H1).call fun hd => refNumberR_any _ _ 63 (by have := unhide HLX; omega) _ hd).mono ?_
      rintro e w11 ⟨rfl, h1⟩
      have G1 := hide h1
      clear h1
      have x0 := (unhide G1).row.cell 1 _ rfl
      have f0 := (unhide G1).row.frozen 1
      have H2 := hide ((unhide G1).set (set1 (unhide G1).row (rNumber (fail S (kindErr k)) 63).1))
      have HL2 : Hid ((rNumber (fail S (kindErr k)) 63).2.1.length ≤ 50000000) := hide (Nat.le_trans (rNumber_len _ _) (unhide HLX))
      go_wp2_with fail
      clear x0 f0
      refine ((unhide H2).call fun hd => refNumberR_any _ _ 63 (by have := unhide HL2; omega) _ hd).mono ?_
      rintro e w12 ⟨rfl, h2⟩
      have G2 := hide h2
      clear h2
      have x0 := (unhide G2).row.cell 2 _ rfl
      have f0 := (unhide G2).row.frozen 2
      have H3 := hide ((unhide G2).set (set2 (unhide G2).row (rNumber (rNumber (fail S (kindErr k)) 63).2 63).1))
      have HL3 : Hid ((rNumber (rNumber (fail S (kindErr k)) 63).2 63).2.1.length ≤ 50000000) := hide (Nat.le_trans (rNumber_len _ _) (unhide HL2))
      go_wp2_with fail
      clear x0 f0
      refine ((unhide H3).call fun hd => refNumberR_any _ _ 1048576 (by have := unhide HL3; omega) _ hd).mono ?_
      rintro e w13 ⟨rfl, h3⟩
      have G3 := hide h3
      clear h3
      have x0 := (unhide G3).row.cell 3 _ rfl
      have f0 := (unhide G3).row.frozen 3
      have H4 := hide ((unhide G3).set (set3 (unhide G3).row (rNumber (rNumber (rNumber (fail S (kindErr k)) 63).2 63).2 1048576).1))
      have HL4 : Hid ((rNumber (rNumber (rNumber (fail S (kindErr k)) 63).2 63).2 1048576).2.1.length ≤ 50000000) := hide (Nat.le_trans (rNumber_len _ _) (unhide HL3))
      have y0 := m0 (unhide H4).row
      dsimp only at y0
      go_wp2_with fail
      clear x0 f0
      have HU := H4
      have KD := hide (refDoneR_any _ ((rHS k S)) _ (unhide HU).doc)
      rw [unhide HE1] at KD
      go_wp2_with fail
      refine (unhide KD).mono ?_
      rintro e w40 ⟨rfl, rfl⟩
      have HL2 := hide (mL_len (unhide HFW).root none 0 none 0)
      have HO2 := hide (mL_one (rH k S) none 0 none 0)
      have KC := hide fun (W : World) h1 h2 => refCheckM_any (rH k S) none none 0 0 W (unhide HFW) h1 h2
      rw [unhide HE2] at KC
      go_wp2_with ((with_reducible refine at27 ?_); (refine load_msg (by rfl) (.tmp 5) (by rfl) _ (by rfl) _ (unhide HU).row (unhide HL2) ?_))
      refine (unhide KC _ (Sl.none _ _) (RL.none _ _)).mono ?_
      rintro e w41 ⟨rfl, hb⟩
      have HU2 := hide ((unhide HU).after hb)
      clear hb
      go_wp2_with ((with_reducible refine atS27 ?_); (refine store_row (by rfl) 28 (.tmp 2) (.tmp 101) (by rfl) w.heap.size [.int .i64 0, .int .i64 0, .int .i64 0, .int .i64 0, .bool false, .string ⟨#[]⟩, .int .u8 0, .int .u8 0, .int .u8 0, .int .u8 0, .int .u8 0, .int .u8 0, .int .u8 0, .int .u8 0, .int .u8 0, .int .u8 0, .int .u8 0, .int .u8 0, .int .u8 0, .int .u8 0, .int .u8 0, .int .u8 0, .int .u8 0, .int .u8 0, .int .u8 0, .int .u8 0, .int .u8 0, .int .u8 0, .int .u8 0, .int .u8 0, .int .u8 0, .int .u8 0, .int .u8 0, .int .u8 0, .int .u8 0, .int .u8 0, .int .u8 0, .int .u8 0, .slice none 0 0, .slice none 0 0, .string ⟨#[]⟩] (by rfl) (by rfl) 28 mZ (unhide HU2).res 41 sizeM rfl mZ_len (by rw [← mZ_lit]; exact mZ_one) ?_); intro w5 ho5 hr5; have HO5 := hide ho5; have HR5 := hide hr5; clear ho5 hr5)
      refine bodyPost_ret (v := .tuple #[.agg (mL zeroM none 0 none 0).toArray, .int .i64 E2]) ?_ rfl ⟨none, 0, none, 0, rfl, Fresh.nil _ _, RProv.none _ _ _, Sl.none _ _, RL.none _ _, ?_⟩
      · have h9 := unhide HR5
        rw [← mZ_lit] at h9
        exact results_msg15 _ _ w.heap.size _ _ rfl rfl h9 mZ_len
      · exact (unhide HU2).below.trans ((unhide HO5).below (Nat.le_refl _))
  · rw [if_pos h1, if_pos h1]
    have hne : (E1 != 0) = true := bne_iff_ne.2 h1
    have hne2 : (E1 == 0) = false := beq_eq_false_iff_ne.2 h1
    go_enter Tryz.func22, Tryz.ntmps22
    go_wp2_with fail
    refine (unhide K0).mono ?_
    rintro e w1 ⟨rfl, hd, hb⟩
    have HY := hide ((unhide HZ0).beside hb (by intro e; have e2 : w.heap.size = w.heap.size + 1 := e; omega))
    have HB1 := hide ((unhide HB).trans (hb.below (unhide HB).size (by intro g e; have e2 : g = w.heap.size + 1 := e; omega)))
    have HD := hide hd
    have HS1 : Hid (w.heap.size + 2 ≤ w1.heap.size) := hide (by have := hb.size; have := unhide HSZ; omega)
    have HZ1 : Hid (VRow (w1.alloc (.cells #[.int .i64 0, .int .i64 0, .int .i64 0, .int .i64 0, .bool false, .string ⟨#[]⟩, .int .u8 0, .int .u8 0, .int .u8 0, .int .u8 0, .int .u8 0, .int .u8 0, .int .u8 0, .int .u8 0, .int .u8 0, .int .u8 0, .int .u8 0, .int .u8 0, .int .u8 0, .int .u8 0, .int .u8 0, .int .u8 0, .int .u8 0, .int .u8 0, .int .u8 0, .int .u8 0, .int .u8 0, .int .u8 0, .int .u8 0, .int .u8 0, .int .u8 0, .int .u8 0, .int .u8 0, .int .u8 0, .int .u8 0, .int .u8 0, .int .u8 0, .int .u8 0, .slice none 0 0, .slice none 0 0, .string ⟨#[]⟩] 28)) w1.heap.size 28 mZ) := hide (by rw [mZ_lit]; exact VRow.new w1 28 [.int .i64 0, .int .i64 0, .int .i64 0, .int .i64 0, .bool false, .string ⟨#[]⟩, .int .u8 0, .int .u8 0, .int .u8 0, .int .u8 0, .int .u8 0, .int .u8 0, .int .u8 0, .int .u8 0, .int .u8 0, .int .u8 0, .int .u8 0, .int .u8 0, .int .u8 0, .int .u8 0, .int .u8 0, .int .u8 0, .int .u8 0, .int .u8 0, .int .u8 0, .int .u8 0, .int .u8 0, .int .u8 0, .int .u8 0, .int .u8 0, .int .u8 0, .int .u8 0, .int .u8 0, .int .u8 0, .int .u8 0, .int .u8 0, .int .u8 0, .int .u8 0, .slice none 0 0, .slice none 0 0, .string ⟨#[]⟩])
    clear hd hb
    go_wp2_with ((with_reducible refine atS27 ?_); (refine store_row (by rfl) 28 (.tmp 5) (.tmp 14) (by rfl) w1.heap.size (mL { zeroM with kind := k } none 0 none 0) (by rfl) (by rw [mK_lit]; rfl) 28 mZ (unhide HZ1) 41 sizeM rfl mZ_len (mL_one _ _ _ _ _) ?_); intro w2 ho2 hr2; have x0 := m0 hr2; dsimp only at x0; have x1 : w2.cell? ⟨w.heap.size + 1, 1, none⟩ = some (.int .i64 S.2) := VRow.cell (VRow.only ((unhide HD).alloc _) ho2 (by have := unhide HS1; omega)) 1 _ rfl; have HO2 := hide ho2; have HR2 := hide hr2; clear ho2 hr2)
    have H0 : Hid (US w.heap.size w1.heap.size w S { zeroM with kind := k } none 0 none 0 w2) := hide ⟨VRow.only ((unhide HY).alloc _) (unhide HO2) (by have := unhide HS1; omega), unhide HR2, VRow.only ((unhide HD).alloc _) (unhide HO2) (by have := unhide HS1; omega), ((unhide HB1).trans ((below_alloc' _).mono (unhide HB1).size)).trans ((unhide HO2).below (by have := unhide HS1; omega)), unhide HS1⟩
    clear HZ1 HO2 HR2 HY HD HB1
    refine ((unhide H0).call fun hd => refFailR_any _ _ 15 _ hd).mono ?_
    rintro e w3 ⟨rfl, h1⟩
    have H1 : Hid (US w.heap.size w1.heap.size w (fail S (kindErr k)) { zeroM with kind := k } none 0 none 0 w3) := hide (by rw [unhide HKE]; exact h1)
    clear h1 x0 x1
    go_wp2_with fail
    have HLX : Hid ((fail S (kindErr k)).1.length ≤ 50000000) := hide (by rw [fail_len]; exact unhide HL0)
    refine ((unhide H1).call fun hd => refNumberR_any _ _ 63 (by have := unhide HLX; omega) _ hd).mono ?_
    rintro e w11 ⟨rfl, h1⟩
    have G1 := hide h1
    clear h1
    have x0 := (unhide G1).row.cell 1 _ rfl
    have f0 := (unhide G1).row.frozen 1
    have H2 := hide ((unhide G1).set (set1 (unhide G1).row (rNumber (fail S (kindErr k)) 63).1))
    have HL2 : Hid ((rNumber (fail S (kindErr k)) 63).2.1.length ≤ 50000000) := hide (Nat.le_trans (rNumber_len _ _) (unhide HLX))
    go_wp2_with fail
    clear x0 f0
    refine ((unhide H2).call fun hd => refNumberR_any _ _ 63 (by have := unhide HL2; omega) _ hd).mono ?_
    rintro e w12 ⟨rfl, h2⟩
    have G2 := hide h2
    clear h2
    have x0 := (unhide G2).row.cell 2 _ rfl
    have f0 := (unhide G2).row.frozen 2
    have H3 := hide ((unhide G2).set (set2 (unhide G2).row (rNumber (rNumber (fail S (kindErr k)) 63).2 63).1))
    have HL3 : Hid ((rNumber (rNumber (fail S (kindErr k)) 63).2 63).2.1.length ≤ 50000000) := hide (Nat.le_trans (rNumber_len _ _) (unhide HL2))
    go_wp2_with fail
    clear x0 f0
    refine ((unhide H3).call fun hd => refNumberR_any _ _ 1048576 (by have := unhide HL3; omega) _ hd).mono ?_
    rintro e w13 ⟨rfl, h3⟩
    have G3 := hide h3
    clear h3
    have x0 := (unhide G3).row.cell 3 _ rfl
    have f0 := (unhide G3).row.frozen 3
    have H4 := hide ((unhide G3).set (set3 (unhide G3).row (rNumber (rNumber (rNumber (fail S (kindErr k)) 63).2 63).2 1048576).1))
    have HL4 : Hid ((rNumber (rNumber (rNumber (fail S (kindErr k)) 63).2 63).2 1048576).2.1.length ≤ 50000000) := hide (Nat.le_trans (rNumber_len _ _) (unhide HL3))
    have y0 := m0 (unhide H4).row
    dsimp only at y0
    go_wp2_with fail
    clear x0 f0
    have HU := H4
    have KD := hide (refDoneR_any _ ((rHS k S)) _ (unhide HU).doc)
    rw [unhide HE1] at KD
    go_wp2_with fail
    refine (unhide KD).mono ?_
    rintro e w40 ⟨rfl, rfl⟩
    go_wp2_with ((with_reducible refine atS27 ?_); (refine store_row (by rfl) 28 (.tmp 2) (.tmp 101) (by rfl) w.heap.size [.int .i64 0, .int .i64 0, .int .i64 0, .int .i64 0, .bool false, .string ⟨#[]⟩, .int .u8 0, .int .u8 0, .int .u8 0, .int .u8 0, .int .u8 0, .int .u8 0, .int .u8 0, .int .u8 0, .int .u8 0, .int .u8 0, .int .u8 0, .int .u8 0, .int .u8 0, .int .u8 0, .int .u8 0, .int .u8 0, .int .u8 0, .int .u8 0, .int .u8 0, .int .u8 0, .int .u8 0, .int .u8 0, .int .u8 0, .int .u8 0, .int .u8 0, .int .u8 0, .int .u8 0, .int .u8 0, .int .u8 0, .int .u8 0, .int .u8 0, .int .u8 0, .slice none 0 0, .slice none 0 0, .string ⟨#[]⟩] (by rfl) (by rfl) 28 mZ (unhide HU).res 41 sizeM rfl mZ_len (by rw [← mZ_lit]; exact mZ_one) ?_); intro w5 ho5 hr5; have HO5 := hide ho5; have HR5 := hide hr5; clear ho5 hr5)
    refine bodyPost_ret (v := .tuple #[.agg (mL zeroM none 0 none 0).toArray, .int .i64 E1]) ?_ rfl ⟨none, 0, none, 0, rfl, Fresh.nil _ _, RProv.none _ _ _, Sl.none _ _, RL.none _ _, ?_⟩
    · have h9 := unhide HR5
      rw [← mZ_lit] at h9
      exact results_msg15 _ _ w.heap.size _ _ rfl rfl h9 mZ_len
    · exact (unhide HU).below.trans ((unhide HO5).below (Nat.le_refl _))

set_option maxRecDepth 100000 in
set_option maxHeartbeats 4000000 in
theorem refRead_B2 (s : ByteArray) (hs : s.size ≤ 40000000) (w : World) (S : St) (k : Int) (hx : rNumber (s.data.toList, 0) 1073741824 = (k, S)) (n2 : (k == 2) = false) (n3 : (k == 3) = false) (n4 : (k == 4) = false) (n6 : (k == 6) = false) (he : S.2 = 0) (hk1 : 6 < k) (hke : kindErr k = 15) : Calls Tryz.prog 22 #[.string s] w (ReadMade w (readM (s.data.toList, 0))) := by
  have HZ0 : Hid (VRow ((w.alloc (.cells #[.int .i64 0, .int .i64 0, .int .i64 0, .int .i64 0, .bool false, .string ⟨#[]⟩, .int .u8 0, .int .u8 0, .int .u8 0, .int .u8 0, .int .u8 0, .int .u8 0, .int .u8 0, .int .u8 0, .int .u8 0, .int .u8 0, .int .u8 0, .int .u8 0, .int .u8 0, .int .u8 0, .int .u8 0, .int .u8 0, .int .u8 0, .int .u8 0, .int .u8 0, .int .u8 0, .int .u8 0, .int .u8 0, .int .u8 0, .int .u8 0, .int .u8 0, .int .u8 0, .int .u8 0, .int .u8 0, .int .u8 0, .int .u8 0, .int .u8 0, .int .u8 0, .slice none 0 0, .slice none 0 0, .string ⟨#[]⟩] 28)).alloc (.cells #[.string s, .int .i64 0] 51)) w.heap.size 28 mZ) := hide (by rw [mZ_lit]; exact (VRow.new w 28 [.int .i64 0, .int .i64 0, .int .i64 0, .int .i64 0, .bool false, .string ⟨#[]⟩, .int .u8 0, .int .u8 0, .int .u8 0, .int .u8 0, .int .u8 0, .int .u8 0, .int .u8 0, .int .u8 0, .int .u8 0, .int .u8 0, .int .u8 0, .int .u8 0, .int .u8 0, .int .u8 0, .int .u8 0, .int .u8 0, .int .u8 0, .int .u8 0, .int .u8 0, .int .u8 0, .int .u8 0, .int .u8 0, .int .u8 0, .int .u8 0, .int .u8 0, .int .u8 0, .int .u8 0, .int .u8 0, .int .u8 0, .int .u8 0, .int .u8 0, .int .u8 0, .slice none 0 0, .slice none 0 0, .string ⟨#[]⟩]).alloc _)
  have hd0 : Doc ((w.alloc (.cells #[.int .i64 0, .int .i64 0, .int .i64 0, .int .i64 0, .bool false, .string ⟨#[]⟩, .int .u8 0, .int .u8 0, .int .u8 0, .int .u8 0, .int .u8 0, .int .u8 0, .int .u8 0, .int .u8 0, .int .u8 0, .int .u8 0, .int .u8 0, .int .u8 0, .int .u8 0, .int .u8 0, .int .u8 0, .int .u8 0, .int .u8 0, .int .u8 0, .int .u8 0, .int .u8 0, .int .u8 0, .int .u8 0, .int .u8 0, .int .u8 0, .int .u8 0, .int .u8 0, .int .u8 0, .int .u8 0, .int .u8 0, .int .u8 0, .int .u8 0, .int .u8 0, .slice none 0 0, .slice none 0 0, .string ⟨#[]⟩] 28)).alloc (.cells #[.string s, .int .i64 0] 51)) (w.heap.size + 1) 51 (s.data.toList, 0) := by
    have h := VRow.newAt (W := w.alloc (.cells #[.int .i64 0, .int .i64 0, .int .i64 0, .int .i64 0, .bool false, .string ⟨#[]⟩, .int .u8 0, .int .u8 0, .int .u8 0, .int .u8 0, .int .u8 0, .int .u8 0, .int .u8 0, .int .u8 0, .int .u8 0, .int .u8 0, .int .u8 0, .int .u8 0, .int .u8 0, .int .u8 0, .int .u8 0, .int .u8 0, .int .u8 0, .int .u8 0, .int .u8 0, .int .u8 0, .int .u8 0, .int .u8 0, .int .u8 0, .int .u8 0, .int .u8 0, .int .u8 0, .int .u8 0, .int .u8 0, .int .u8 0, .int .u8 0, .int .u8 0, .int .u8 0, .slice none 0 0, .slice none 0 0, .string ⟨#[]⟩] 28)) (T := 51) (n := w.heap.size + 1) (vs := [.string s, .int .i64 0]) (by simp)
    have e : s = str s.data.toList := rfl
    rw [e] at h
    exact h
  have HB := hide ((below_alloc' (w := w) (.cells #[.int .i64 0, .int .i64 0, .int .i64 0, .int .i64 0, .bool false, .string ⟨#[]⟩, .int .u8 0, .int .u8 0, .int .u8 0, .int .u8 0, .int .u8 0, .int .u8 0, .int .u8 0, .int .u8 0, .int .u8 0, .int .u8 0, .int .u8 0, .int .u8 0, .int .u8 0, .int .u8 0, .int .u8 0, .int .u8 0, .int .u8 0, .int .u8 0, .int .u8 0, .int .u8 0, .int .u8 0, .int .u8 0, .int .u8 0, .int .u8 0, .int .u8 0, .int .u8 0, .int .u8 0, .int .u8 0, .int .u8 0, .int .u8 0, .int .u8 0, .int .u8 0, .slice none 0 0, .slice none 0 0, .string ⟨#[]⟩] 28)).alloc (by simp) (.cells #[.string s, .int .i64 0] 51))
  have HSZ : Hid ((((w.alloc (.cells #[.int .i64 0, .int .i64 0, .int .i64 0, .int .i64 0, .bool false, .string ⟨#[]⟩, .int .u8 0, .int .u8 0, .int .u8 0, .int .u8 0, .int .u8 0, .int .u8 0, .int .u8 0, .int .u8 0, .int .u8 0, .int .u8 0, .int .u8 0, .int .u8 0, .int .u8 0, .int .u8 0, .int .u8 0, .int .u8 0, .int .u8 0, .int .u8 0, .int .u8 0, .int .u8 0, .int .u8 0, .int .u8 0, .int .u8 0, .int .u8 0, .int .u8 0, .int .u8 0, .int .u8 0, .int .u8 0, .int .u8 0, .int .u8 0, .int .u8 0, .int .u8 0, .slice none 0 0, .slice none 0 0, .string ⟨#[]⟩] 28)).alloc (.cells #[.string s, .int .i64 0] 51))).heap.size = w.heap.size + 2) := hide (by simp)
  have hlen : s.data.toList.length ≤ 50000000 := by rw [size_data]; omega
  obtain ⟨st, hst⟩ : ∃ st, ((s.data.toList, 0) : St) = st := ⟨_, rfl⟩
  rw [hst] at hd0 hx ⊢
  have hl0 : st.1.length ≤ 50000000 := by rw [← hst]; exact hlen
  have hl1 := rNumber_len st 1073741824
  rw [hx] at hl1
  have HL0 : Hid (S.1.length ≤ 50000000) := hide (Nat.le_trans hl1 hl0)
  have K0 := hide (refNumberR_any _ _ 1073741824 (by omega) _ hd0)
  rw [hx] at K0
  have hM : rMsg st = (rH k S, (rHS k S)) := by
    unfold rMsg
    rw [hx]
    unfold rBody
    rw [if_neg (by simpa using n2), if_neg (by simpa using n3), if_neg (by simpa using n4), if_neg (by simpa using n6)]
  have HFW : Hid (FewM (rH k S)) := hide (by have h := rMsg_few st; rw [hM] at h; exact h)
  obtain ⟨E1, hE1⟩ : ∃ E, rDone ((rHS k S)) = E := ⟨_, rfl⟩
  obtain ⟨E2, hE2⟩ : ∃ E, checkM (rH k S) = E := ⟨_, rfl⟩
  have hR : readM st = if (if E1 ≠ 0 then E1 else E2) ≠ 0 then (zeroM, if E1 ≠ 0 then E1 else E2) else (rH k S, 0) := by unfold readM readErr; rw [hM]; dsimp only; rw [hE1, hE2]
  have HE1 := hide hE1
  have HE2 := hide hE2
  rw [hR]
  clear hlen hst hE1 hE2 hs hR hM hl0 hl1 hx hd0
  have HKE : Hid (kindErr k = 15) := hide hke
  clear hke
  by_cases h1 : E1 = 0
  · subst h1
    rw [if_neg (by simp : ¬ ((0 : Int) ≠ 0))]
    by_cases h2 : E2 = 0
    · subst h2
      rw [if_neg (by simp)]
      go_enter Tryz.func22, Tryz.ntmps22
      go_wp2_with fail
      refine (unhide K0).mono ?_
      rintro e w1 ⟨rfl, hd, hb⟩
      have HY := hide ((unhide HZ0).beside hb (by intro e; have e2 : w.heap.size = w.heap.size + 1 := e; omega))
      have HB1 := hide ((unhide HB).trans (hb.below (unhide HB).size (by intro g e; have e2 : g = w.heap.size + 1 := e; omega)))
      have HD := hide hd
      have HS1 : Hid (w.heap.size + 2 ≤ w1.heap.size) := hide (by have := hb.size; have := unhide HSZ; omega)
      have HZ1 : Hid (VRow (w1.alloc (.cells #[.int .i64 0, .int .i64 0, .int .i64 0, .int .i64 0, .bool false, .string ⟨#[]⟩, .int .u8 0, .int .u8 0, .int .u8 0, .int .u8 0, .int .u8 0, .int .u8 0, .int .u8 0, .int .u8 0, .int .u8 0, .int .u8 0, .int .u8 0, .int .u8 0, .int .u8 0, .int .u8 0, .int .u8 0, .int .u8 0, .int .u8 0, .int .u8 0, .int .u8 0, .int .u8 0, .int .u8 0, .int .u8 0, .int .u8 0, .int .u8 0, .int .u8 0, .int .u8 0, .int .u8 0, .int .u8 0, .int .u8 0, .int .u8 0, .int .u8 0, .int .u8 0, .slice none 0 0, .slice none 0 0, .string ⟨#[]⟩] 28)) w1.heap.size 28 mZ) := hide (by rw [mZ_lit]; exact VRow.new w1 28 [.int .i64 0, .int .i64 0, .int .i64 0, .int .i64 0, .bool false, .string ⟨#[]⟩, .int .u8 0, .int .u8 0, .int .u8 0, .int .u8 0, .int .u8 0, .int .u8 0, .int .u8 0, .int .u8 0, .int .u8 0, .int .u8 0, .int .u8 0, .int .u8 0, .int .u8 0, .int .u8 0, .int .u8 0, .int .u8 0, .int .u8 0, .int .u8 0, .int .u8 0, .int .u8 0, .int .u8 0, .int .u8 0, .int .u8 0, .int .u8 0, .int .u8 0, .int .u8 0, .int .u8 0, .int .u8 0, .int .u8 0, .int .u8 0, .int .u8 0, .int .u8 0, .slice none 0 0, .slice none 0 0, .string ⟨#[]⟩])
      clear hd hb
      go_wp2_with ((with_reducible refine atS27 ?_); (refine store_row (by rfl) 28 (.tmp 5) (.tmp 14) (by rfl) w1.heap.size (mL { zeroM with kind := k } none 0 none 0) (by rfl) (by rw [mK_lit]; rfl) 28 mZ (unhide HZ1) 41 sizeM rfl mZ_len (mL_one _ _ _ _ _) ?_); intro w2 ho2 hr2; have x0 := m0 hr2; dsimp only at x0; have x1 : w2.cell? ⟨w.heap.size + 1, 1, none⟩ = some (.int .i64 S.2) := VRow.cell (VRow.only ((unhide HD).alloc _) ho2 (by have := unhide HS1; omega)) 1 _ rfl; have HO2 := hide ho2; have HR2 := hide hr2; clear ho2 hr2)
      have H0 : Hid (US w.heap.size w1.heap.size w S { zeroM with kind := k } none 0 none 0 w2) := hide ⟨VRow.only ((unhide HY).alloc _) (unhide HO2) (by have := unhide HS1; omega), unhide HR2, VRow.only ((unhide HD).alloc _) (unhide HO2) (by have := unhide HS1; omega), ((unhide HB1).trans ((below_alloc' _).mono (unhide HB1).size)).trans ((unhide HO2).below (by have := unhide HS1; omega)), unhide HS1⟩
      clear HZ1 HO2 HR2 HY HD HB1
      refine ((unhide H0).call fun hd => refFailR_any _ _ 15 _ hd).mono ?_
      rintro e w3 ⟨rfl, h1⟩
      have H1 : Hid (US w.heap.size w1.heap.size w (fail S (kindErr k)) { zeroM with kind := k } none 0 none 0 w3) := hide (by rw [unhide HKE]; exact h1)
      clear h1 x0 x1
      go_wp2_with fail
      have HLX : Hid ((fail S (kindErr k)).1.length ≤ 50000000) := hide (by rw [fail_len]; exact unhide HL0)
      refine ((unhide H1).call fun hd => refNumberR_any _ _ 63 (by have := unhide HLX; omega) _ hd).mono ?_
      rintro e w11 ⟨rfl, h1⟩
      have G1 := hide h1
      clear h1
      have x0 := (unhide G1).row.cell 1 _ rfl
      have f0 := (unhide G1).row.frozen 1
      have H2 := hide ((unhide G1).set (set1 (unhide G1).row (rNumber (fail S (kindErr k)) 63).1))
      have HL2 : Hid ((rNumber (fail S (kindErr k)) 63).2.1.length ≤ 50000000) := hide (Nat.le_trans (rNumber_len _ _) (unhide HLX))
      go_wp2_with fail
      clear x0 f0
      refine ((unhide H2).call fun hd => refNumberR_any _ _ 63 (by have := unhide HL2; omega) _ hd).mono ?_
      rintro e w12 ⟨rfl, h2⟩
      have G2 := hide h2
      clear h2
      have x0 := (unhide G2).row.cell 2 _ rfl
      have f0 := (unhide G2).row.frozen 2
      have H3 := hide ((unhide G2).set (set2 (unhide G2).row (rNumber (rNumber (fail S (kindErr k)) 63).2 63).1))
      have HL3 : Hid ((rNumber (rNumber (fail S (kindErr k)) 63).2 63).2.1.length ≤ 50000000) := hide (Nat.le_trans (rNumber_len _ _) (unhide HL2))
      go_wp2_with fail
      clear x0 f0
      refine ((unhide H3).call fun hd => refNumberR_any _ _ 1048576 (by have := unhide HL3; omega) _ hd).mono ?_
      rintro e w13 ⟨rfl, h3⟩
      have G3 := hide h3
      clear h3
      have x0 := (unhide G3).row.cell 3 _ rfl
      have f0 := (unhide G3).row.frozen 3
      have H4 := hide ((unhide G3).set (set3 (unhide G3).row (rNumber (rNumber (rNumber (fail S (kindErr k)) 63).2 63).2 1048576).1))
      have HL4 : Hid ((rNumber (rNumber (rNumber (fail S (kindErr k)) 63).2 63).2 1048576).2.1.length ≤ 50000000) := hide (Nat.le_trans (rNumber_len _ _) (unhide HL3))
      have y0 := m0 (unhide H4).row
      dsimp only at y0
      go_wp2_with fail
      clear x0 f0
      have HU := H4
      have KD := hide (refDoneR_any _ ((rHS k S)) _ (unhide HU).doc)
      rw [unhide HE1] at KD
      go_wp2_with fail
      refine (unhide KD).mono ?_
      rintro e w40 ⟨rfl, rfl⟩
      have HL2 := hide (mL_len (unhide HFW).root none 0 none 0)
      have HO2 := hide (mL_one (rH k S) none 0 none 0)
      have KC := hide fun (W : World) h1 h2 => refCheckM_any (rH k S) none none 0 0 W (unhide HFW) h1 h2
      rw [unhide HE2] at KC
      go_wp2_with ((with_reducible refine at27 ?_); (refine load_msg (by rfl) (.tmp 5) (by rfl) _ (by rfl) _ (unhide HU).row (unhide HL2) ?_))
      refine (unhide KC _ (Sl.none _ _) (RL.none _ _)).mono ?_
      rintro e w41 ⟨rfl, hb⟩
      have HU2 := hide ((unhide HU).after hb)
      clear hb
      go_wp2_with (first
        | ((with_reducible refine at27 ?_); (refine load_msg (by rfl) (.tmp 5) (by rfl) _ (by rfl) _ (unhide HU2).row (unhide HL2) ?_))
        | ((with_reducible refine atS27 ?_); (refine store_row (by rfl) 28 (.tmp 2) (.tmp 103) (by rfl) w.heap.size _ (by rfl) (by rfl) 28 mZ (unhide HU2).res 41 sizeM (unhide HL2) mZ_len (unhide HO2) ?_); intro w5 ho5 hr5; have HO5 := hide ho5; have HR5 := hide hr5; clear ho5 hr5))
      refine bodyPost_ret (v := .tuple #[.agg (mL (rH k S) none 0 none 0).toArray, .int .i64 0]) ?_ rfl ⟨none, 0, none, 0, rfl, Fresh.nil _ _, RProv.none _ _ _, ?_, ?_, ?_⟩
      · exact results_msg15 _ _ w.heap.size _ _ rfl rfl (unhide HR5) (unhide HL2)
      · exact Sl.none _ _
      · exact RL.none _ _
      · exact (unhide HU2).below.trans ((unhide HO5).below (Nat.le_refl _))
    · rw [if_pos h2]
      have hne : (E2 != 0) = true := bne_iff_ne.2 h2
      have hne2 : (E2 == 0) = false := beq_eq_false_iff_ne.2 h2
      go_enter Tryz.func22, Tryz.ntmps22
      go_wp2_with fail
      refine (unhide K0).mono ?_
      rintro e w1 ⟨rfl, hd, hb⟩
      have HY := hide ((unhide HZ0).beside hb (by intro e; have e2 : w.heap.size = w.heap.size + 1 := e; omega))
      have HB1 := hide ((unhide HB).trans (hb.below (unhide HB).size (by intro g e; have e2 : g = w.heap.size + 1 := e; omega)))
      have HD := hide hd
      have HS1 : Hid (w.heap.size + 2 ≤ w1.heap.size) := hide (by have := hb.size; have := unhide HSZ; omega)
      have HZ1 : Hid (VRow (w1.alloc (.cells #[.int .i64 0, .int .i64 0, .int .i64 0, .int .i64 0, .bool false, .string ⟨#[]⟩, .int .u8 0, .int .u8 0, .int .u8 0, .int .u8 0, .int .u8 0, .int .u8 0, .int .u8 0, .int .u8 0, .int .u8 0, .int .u8 0, .int .u8 0, .int .u8 0, .int .u8 0, .int .u8 0, .int .u8 0, .int .u8 0, .int .u8 0, .int .u8 0, .int .u8 0, .int .u8 0, .int .u8 0, .int .u8 0, .int .u8 0, .int .u8 0, .int .u8 0, .int .u8 0, .int .u8 0, .int .u8 0, .int .u8 0, .int .u8 0, .int .u8 0, .int .u8 0, .slice none 0 0, .slice none 0 0, .string ⟨#[]⟩] 28)) w1.heap.size 28 mZ) := hide (by rw [mZ_lit]; exact VRow.new w1 28 [.int .i64 0, .int .i64 0, .int .i64 0, .int .i64 0, .bool false, .string ⟨#[]⟩, .int .u8 0, .int .u8 0, .int .u8 0, .int .u8 0, .int .u8 0, .int .u8 0, .int .u8 0, .int .u8 0, .int .u8 0, .int .u8 0, .int .u8 0, .int .u8 0, .int .u8 0, .int .u8 0, .int .u8 0, .int .u8 0, .int .u8 0, .int .u8 0, .int .u8 0, .int .u8 0, .int .u8 0, .int .u8 0, .int .u8 0, .int .u8 0, .int .u8 0, .int .u8 0, .int .u8 0, .int .u8 0, .int .u8 0, .int .u8 0, .int .u8 0, .int .u8 0, .slice none 0 0, .slice none 0 0, .string ⟨#[]⟩])
      clear hd hb
      go_wp2_with ((with_reducible refine atS27 ?_); (refine store_row (by rfl) 28 (.tmp 5) (.tmp 14) (by rfl) w1.heap.size (mL { zeroM with kind := k } none 0 none 0) (by rfl) (by rw [mK_lit]; rfl) 28 mZ (unhide HZ1) 41 sizeM rfl mZ_len (mL_one _ _ _ _ _) ?_); intro w2 ho2 hr2; have x0 := m0 hr2; dsimp only at x0; have x1 : w2.cell? ⟨w.heap.size + 1, 1, none⟩ = some (.int .i64 S.2) := VRow.cell (VRow.only ((unhide HD).alloc _) ho2 (by have := unhide HS1; omega)) 1 _ rfl; have HO2 := hide ho2; have HR2 := hide hr2; clear ho2 hr2)
      have H0 : Hid (US w.heap.size w1.heap.size w S { zeroM with kind := k } none 0 none 0 w2) := hide ⟨VRow.only ((unhide HY).alloc _) (unhide HO2) (by have := unhide HS1; omega), unhide HR2, VRow.only ((unhide HD).alloc _) (unhide HO2) (by have := unhide HS1; omega), ((unhide HB1).trans ((below_alloc' _).mono (unhide HB1).size)).trans ((unhide HO2).below (by have := unhide HS1; omega)), unhide HS1⟩
      clear HZ1 HO2 HR2 HY HD HB1
      refine ((unhide H0).call fun hd => refFailR_any _ _ 15 _ hd).mono ?_
      rintro e w3 ⟨rfl, h1⟩
      have H1 : Hid (US w.heap.size w1.heap.size w (fail S (kindErr k)) { zeroM with kind := k } none 0 none 0 w3) := hide (by rw [unhide HKE]; exact h1)
      clear h1 x0 x1
      go_wp2_with fail
      have HLX : Hid ((fail S (kindErr k)).1.length ≤ 50000000) := hide (by rw [fail_len]; exact unhide HL0)
      refine ((unhide H1).call fun hd => refNumberR_any _ _ 63 (by have := unhide HLX; omega) _ hd).mono ?_
      rintro e w11 ⟨rfl, h1⟩
      have G1 := hide h1
      clear h1
      have x0 := (unhide G1).row.cell 1 _ rfl
      have f0 := (unhide G1).row.frozen 1
      have H2 := hide ((unhide G1).set (set1 (unhide G1).row (rNumber (fail S (kindErr k)) 63).1))
      have HL2 : Hid ((rNumber (fail S (kindErr k)) 63).2.1.length ≤ 50000000) := hide (Nat.le_trans (rNumber_len _ _) (unhide HLX))
      go_wp2_with fail
      clear x0 f0
      refine ((unhide H2).call fun hd => refNumberR_any _ _ 63 (by have := unhide HL2; omega) _ hd).mono ?_
      rintro e w12 ⟨rfl, h2⟩
      have G2 := hide h2
      clear h2
      have x0 := (unhide G2).row.cell 2 _ rfl
      have f0 := (unhide G2).row.frozen 2
      have H3 := hide ((unhide G2).set (set2 (unhide G2).row (rNumber (rNumber (fail S (kindErr k)) 63).2 63).1))
      have HL3 : Hid ((rNumber (rNumber (fail S (kindErr k)) 63).2 63).2.1.length ≤ 50000000) := hide (Nat.le_trans (rNumber_len _ _) (unhide HL2))
      go_wp2_with fail
      clear x0 f0
      refine ((unhide H3).call fun hd => refNumberR_any _ _ 1048576 (by have := unhide HL3; omega) _ hd).mono ?_
      rintro e w13 ⟨rfl, h3⟩
      have G3 := hide h3
      clear h3
      have x0 := (unhide G3).row.cell 3 _ rfl
      have f0 := (unhide G3).row.frozen 3
      have H4 := hide ((unhide G3).set (set3 (unhide G3).row (rNumber (rNumber (rNumber (fail S (kindErr k)) 63).2 63).2 1048576).1))
      have HL4 : Hid ((rNumber (rNumber (rNumber (fail S (kindErr k)) 63).2 63).2 1048576).2.1.length ≤ 50000000) := hide (Nat.le_trans (rNumber_len _ _) (unhide HL3))
      have y0 := m0 (unhide H4).row
      dsimp only at y0
      go_wp2_with fail
      clear x0 f0
      have HU := H4
      have KD := hide (refDoneR_any _ ((rHS k S)) _ (unhide HU).doc)
      rw [unhide HE1] at KD
      go_wp2_with fail
      refine (unhide KD).mono ?_
      rintro e w40 ⟨rfl, rfl⟩
      have HL2 := hide (mL_len (unhide HFW).root none 0 none 0)
      have HO2 := hide (mL_one (rH k S) none 0 none 0)
      have KC := hide fun (W : World) h1 h2 => refCheckM_any (rH k S) none none 0 0 W (unhide HFW) h1 h2
      rw [unhide HE2] at KC
      go_wp2_with ((with_reducible refine at27 ?_); (refine load_msg (by rfl) (.tmp 5) (by rfl) _ (by rfl) _ (unhide HU).row (unhide HL2) ?_))
      refine (unhide KC _ (Sl.none _ _) (RL.none _ _)).mono ?_
      rintro e w41 ⟨rfl, hb⟩
      have HU2 := hide ((unhide HU).after hb)
      clear hb
      go_wp2_with ((with_reducible refine atS27 ?_); (refine store_row (by rfl) 28 (.tmp 2) (.tmp 101) (by rfl) w.heap.size [.int .i64 0, .int .i64 0, .int .i64 0, .int .i64 0, .bool false, .string ⟨#[]⟩, .int .u8 0, .int .u8 0, .int .u8 0, .int .u8 0, .int .u8 0, .int .u8 0, .int .u8 0, .int .u8 0, .int .u8 0, .int .u8 0, .int .u8 0, .int .u8 0, .int .u8 0, .int .u8 0, .int .u8 0, .int .u8 0, .int .u8 0, .int .u8 0, .int .u8 0, .int .u8 0, .int .u8 0, .int .u8 0, .int .u8 0, .int .u8 0, .int .u8 0, .int .u8 0, .int .u8 0, .int .u8 0, .int .u8 0, .int .u8 0, .int .u8 0, .int .u8 0, .slice none 0 0, .slice none 0 0, .string ⟨#[]⟩] (by rfl) (by rfl) 28 mZ (unhide HU2).res 41 sizeM rfl mZ_len (by rw [← mZ_lit]; exact mZ_one) ?_); intro w5 ho5 hr5; have HO5 := hide ho5; have HR5 := hide hr5; clear ho5 hr5)
      refine bodyPost_ret (v := .tuple #[.agg (mL zeroM none 0 none 0).toArray, .int .i64 E2]) ?_ rfl ⟨none, 0, none, 0, rfl, Fresh.nil _ _, RProv.none _ _ _, Sl.none _ _, RL.none _ _, ?_⟩
      · have h9 := unhide HR5
        rw [← mZ_lit] at h9
        exact results_msg15 _ _ w.heap.size _ _ rfl rfl h9 mZ_len
      · exact (unhide HU2).below.trans ((unhide HO5).below (Nat.le_refl _))
  · rw [if_pos h1, if_pos h1]
    have hne : (E1 != 0) = true := bne_iff_ne.2 h1
    have hne2 : (E1 == 0) = false := beq_eq_false_iff_ne.2 h1
    go_enter Tryz.func22, Tryz.ntmps22
    go_wp2_with fail
    refine (unhide K0).mono ?_
    rintro e w1 ⟨rfl, hd, hb⟩
    have HY := hide ((unhide HZ0).beside hb (by intro e; have e2 : w.heap.size = w.heap.size + 1 := e; omega))
    have HB1 := hide ((unhide HB).trans (hb.below (unhide HB).size (by intro g e; have e2 : g = w.heap.size + 1 := e; omega)))
    have HD := hide hd
    have HS1 : Hid (w.heap.size + 2 ≤ w1.heap.size) := hide (by have := hb.size; have := unhide HSZ; omega)
    have HZ1 : Hid (VRow (w1.alloc (.cells #[.int .i64 0, .int .i64 0, .int .i64 0, .int .i64 0, .bool false, .string ⟨#[]⟩, .int .u8 0, .int .u8 0, .int .u8 0, .int .u8 0, .int .u8 0, .int .u8 0, .int .u8 0, .int .u8 0, .int .u8 0, .int .u8 0, .int .u8 0, .int .u8 0, .int .u8 0, .int .u8 0, .int .u8 0, .int .u8 0, .int .u8 0, .int .u8 0, .int .u8 0, .int .u8 0, .int .u8 0, .int .u8 0, .int .u8 0, .int .u8 0, .int .u8 0, .int .u8 0, .int .u8 0, .int .u8 0, .int .u8 0, .int .u8 0, .int .u8 0, .int .u8 0, .slice none 0 0, .slice none 0 0, .string ⟨#[]⟩] 28)) w1.heap.size 28 mZ) := hide (by rw [mZ_lit]; exact VRow.new w1 28 [.int .i64 0, .int .i64 0, .int .i64 0, .int .i64 0, .bool false, .string ⟨#[]⟩, .int .u8 0, .int .u8 0, .int .u8 0, .int .u8 0, .int .u8 0, .int .u8 0, .int .u8 0, .int .u8 0, .int .u8 0, .int .u8 0, .int .u8 0, .int .u8 0, .int .u8 0, .int .u8 0, .int .u8 0, .int .u8 0, .int .u8 0, .int .u8 0, .int .u8 0, .int .u8 0, .int .u8 0, .int .u8 0, .int .u8 0, .int .u8 0, .int .u8 0, .int .u8 0, .int .u8 0, .int .u8 0, .int .u8 0, .int .u8 0, .int .u8 0, .int .u8 0, .slice none 0 0, .slice none 0 0, .string ⟨#[]⟩])
    clear hd hb
    go_wp2_with ((with_reducible refine atS27 ?_); (refine store_row (by rfl) 28 (.tmp 5) (.tmp 14) (by rfl) w1.heap.size (mL { zeroM with kind := k } none 0 none 0) (by rfl) (by rw [mK_lit]; rfl) 28 mZ (unhide HZ1) 41 sizeM rfl mZ_len (mL_one _ _ _ _ _) ?_); intro w2 ho2 hr2; have x0 := m0 hr2; dsimp only at x0; have x1 : w2.cell? ⟨w.heap.size + 1, 1, none⟩ = some (.int .i64 S.2) := VRow.cell (VRow.only ((unhide HD).alloc _) ho2 (by have := unhide HS1; omega)) 1 _ rfl; have HO2 := hide ho2; have HR2 := hide hr2; clear ho2 hr2)
    have H0 : Hid (US w.heap.size w1.heap.size w S { zeroM with kind := k } none 0 none 0 w2) := hide ⟨VRow.only ((unhide HY).alloc _) (unhide HO2) (by have := unhide HS1; omega), unhide HR2, VRow.only ((unhide HD).alloc _) (unhide HO2) (by have := unhide HS1; omega), ((unhide HB1).trans ((below_alloc' _).mono (unhide HB1).size)).trans ((unhide HO2).below (by have := unhide HS1; omega)), unhide HS1⟩
    clear HZ1 HO2 HR2 HY HD HB1
    refine ((unhide H0).call fun hd => refFailR_any _ _ 15 _ hd).mono ?_
    rintro e w3 ⟨rfl, h1⟩
    have H1 : Hid (US w.heap.size w1.heap.size w (fail S (kindErr k)) { zeroM with kind := k } none 0 none 0 w3) := hide (by rw [unhide HKE]; exact h1)
    clear h1 x0 x1
    go_wp2_with fail
    have HLX : Hid ((fail S (kindErr k)).1.length ≤ 50000000) := hide (by rw [fail_len]; exact unhide HL0)
    refine ((unhide H1).call fun hd => refNumberR_any _ _ 63 (by have := unhide HLX; omega) _ hd).mono ?_
    rintro e w11 ⟨rfl, h1⟩
    have G1 := hide h1
    clear h1
    have x0 := (unhide G1).row.cell 1 _ rfl
    have f0 := (unhide G1).row.frozen 1
    have H2 := hide ((unhide G1).set (set1 (unhide G1).row (rNumber (fail S (kindErr k)) 63).1))
    have HL2 : Hid ((rNumber (fail S (kindErr k)) 63).2.1.length ≤ 50000000) := hide (Nat.le_trans (rNumber_len _ _) (unhide HLX))
    go_wp2_with fail
    clear x0 f0
    refine ((unhide H2).call fun hd => refNumberR_any _ _ 63 (by have := unhide HL2; omega) _ hd).mono ?_
    rintro e w12 ⟨rfl, h2⟩
    have G2 := hide h2
    clear h2
    have x0 := (unhide G2).row.cell 2 _ rfl
    have f0 := (unhide G2).row.frozen 2
    have H3 := hide ((unhide G2).set (set2 (unhide G2).row (rNumber (rNumber (fail S (kindErr k)) 63).2 63).1))
    have HL3 : Hid ((rNumber (rNumber (fail S (kindErr k)) 63).2 63).2.1.length ≤ 50000000) := hide (Nat.le_trans (rNumber_len _ _) (unhide HL2))
    go_wp2_with fail
    clear x0 f0
    refine ((unhide H3).call fun hd => refNumberR_any _ _ 1048576 (by have := unhide HL3; omega) _ hd).mono ?_
    rintro e w13 ⟨rfl, h3⟩
    have G3 := hide h3
    clear h3
    have x0 := (unhide G3).row.cell 3 _ rfl
    have f0 := (unhide G3).row.frozen 3
    have H4 := hide ((unhide G3).set (set3 (unhide G3).row (rNumber (rNumber (rNumber (fail S (kindErr k)) 63).2 63).2 1048576).1))
    have HL4 : Hid ((rNumber (rNumber (rNumber (fail S (kindErr k)) 63).2 63).2 1048576).2.1.length ≤ 50000000) := hide (Nat.le_trans (rNumber_len _ _) (unhide HL3))
    have y0 := m0 (unhide H4).row
    dsimp only at y0
    go_wp2_with fail
    clear x0 f0
    have HU := H4
    have KD := hide (refDoneR_any _ ((rHS k S)) _ (unhide HU).doc)
    rw [unhide HE1] at KD
    go_wp2_with fail
    refine (unhide KD).mono ?_
    rintro e w40 ⟨rfl, rfl⟩
    go_wp2_with ((with_reducible refine atS27 ?_); (refine store_row (by rfl) 28 (.tmp 2) (.tmp 101) (by rfl) w.heap.size [.int .i64 0, .int .i64 0, .int .i64 0, .int .i64 0, .bool false, .string ⟨#[]⟩, .int .u8 0, .int .u8 0, .int .u8 0, .int .u8 0, .int .u8 0, .int .u8 0, .int .u8 0, .int .u8 0, .int .u8 0, .int .u8 0, .int .u8 0, .int .u8 0, .int .u8 0, .int .u8 0, .int .u8 0, .int .u8 0, .int .u8 0, .int .u8 0, .int .u8 0, .int .u8 0, .int .u8 0, .int .u8 0, .int .u8 0, .int .u8 0, .int .u8 0, .int .u8 0, .int .u8 0, .int .u8 0, .int .u8 0, .int .u8 0, .int .u8 0, .int .u8 0, .slice none 0 0, .slice none 0 0, .string ⟨#[]⟩] (by rfl) (by rfl) 28 mZ (unhide HU).res 41 sizeM rfl mZ_len (by rw [← mZ_lit]; exact mZ_one) ?_); intro w5 ho5 hr5; have HO5 := hide ho5; have HR5 := hide hr5; clear ho5 hr5)
    refine bodyPost_ret (v := .tuple #[.agg (mL zeroM none 0 none 0).toArray, .int .i64 E1]) ?_ rfl ⟨none, 0, none, 0, rfl, Fresh.nil _ _, RProv.none _ _ _, Sl.none _ _, RL.none _ _, ?_⟩
    · have h9 := unhide HR5
      rw [← mZ_lit] at h9
      exact results_msg15 _ _ w.heap.size _ _ rfl rfl h9 mZ_len
    · exact (unhide HU).below.trans ((unhide HO5).below (Nat.le_refl _))

set_option maxRecDepth 100000 in
set_option maxHeartbeats 4000000 in
theorem refRead_C (s : ByteArray) (hs : s.size ≤ 40000000) (w : World) (S : St) (k : Int) (hx : rNumber (s.data.toList, 0) 1073741824 = (k, S)) (n2 : (k == 2) = false) (n3 : (k == 3) = false) (n4 : (k == 4) = false) (n6 : (k == 6) = false) (he : S.2 = 0) (hk1 : 1 ≤ k) (hk2 : k ≤ 6) (hfs : fail S (kindErr k) = S) : Calls Tryz.prog 22 #[.string s] w (ReadMade w (readM (s.data.toList, 0))) := by
  have HZ0 : Hid (VRow ((w.alloc (.cells #[.int .i64 0, .int .i64 0, .int .i64 0, .int .i64 0, .bool false, .string ⟨#[]⟩, .int .u8 0, .int .u8 0, .int .u8 0, .int .u8 0, .int .u8 0, .int .u8 0, .int .u8 0, .int .u8 0, .int .u8 0, .int .u8 0, .int .u8 0, .int .u8 0, .int .u8 0, .int .u8 0, .int .u8 0, .int .u8 0, .int .u8 0, .int .u8 0, .int .u8 0, .int .u8 0, .int .u8 0, .int .u8 0, .int .u8 0, .int .u8 0, .int .u8 0, .int .u8 0, .int .u8 0, .int .u8 0, .int .u8 0, .int .u8 0, .int .u8 0, .int .u8 0, .slice none 0 0, .slice none 0 0, .string ⟨#[]⟩] 28)).alloc (.cells #[.string s, .int .i64 0] 51)) w.heap.size 28 mZ) := hide (by rw [mZ_lit]; exact (VRow.new w 28 [.int .i64 0, .int .i64 0, .int .i64 0, .int .i64 0, .bool false, .string ⟨#[]⟩, .int .u8 0, .int .u8 0, .int .u8 0, .int .u8 0, .int .u8 0, .int .u8 0, .int .u8 0, .int .u8 0, .int .u8 0, .int .u8 0, .int .u8 0, .int .u8 0, .int .u8 0, .int .u8 0, .int .u8 0, .int .u8 0, .int .u8 0, .int .u8 0, .int .u8 0, .int .u8 0, .int .u8 0, .int .u8 0, .int .u8 0, .int .u8 0, .int .u8 0, .int .u8 0, .int .u8 0, .int .u8 0, .int .u8 0, .int .u8 0, .int .u8 0, .int .u8 0, .slice none 0 0, .slice none 0 0, .string ⟨#[]⟩]).alloc _)
  have hd0 : Doc ((w.alloc (.cells #[.int .i64 0, .int .i64 0, .int .i64 0, .int .i64 0, .bool false, .string ⟨#[]⟩, .int .u8 0, .int .u8 0, .int .u8 0, .int .u8 0, .int .u8 0, .int .u8 0, .int .u8 0, .int .u8 0, .int .u8 0, .int .u8 0, .int .u8 0, .int .u8 0, .int .u8 0, .int .u8 0, .int .u8 0, .int .u8 0, .int .u8 0, .int .u8 0, .int .u8 0, .int .u8 0, .int .u8 0, .int .u8 0, .int .u8 0, .int .u8 0, .int .u8 0, .int .u8 0, .int .u8 0, .int .u8 0, .int .u8 0, .int .u8 0, .int .u8 0, .int .u8 0, .slice none 0 0, .slice none 0 0, .string ⟨#[]⟩] 28)).alloc (.cells #[.string s, .int .i64 0] 51)) (w.heap.size + 1) 51 (s.data.toList, 0) := by
    have h := VRow.newAt (W := w.alloc (.cells #[.int .i64 0, .int .i64 0, .int .i64 0, .int .i64 0, .bool false, .string ⟨#[]⟩, .int .u8 0, .int .u8 0, .int .u8 0, .int .u8 0, .int .u8 0, .int .u8 0, .int .u8 0, .int .u8 0, .int .u8 0, .int .u8 0, .int .u8 0, .int .u8 0, .int .u8 0, .int .u8 0, .int .u8 0, .int .u8 0, .int .u8 0, .int .u8 0, .int .u8 0, .int .u8 0, .int .u8 0, .int .u8 0, .int .u8 0, .int .u8 0, .int .u8 0, .int .u8 0, .int .u8 0, .int .u8 0, .int .u8 0, .int .u8 0, .int .u8 0, .int .u8 0, .slice none 0 0, .slice none 0 0, .string ⟨#[]⟩] 28)) (T := 51) (n := w.heap.size + 1) (vs := [.string s, .int .i64 0]) (by simp)
    have e : s = str s.data.toList := rfl
    rw [e] at h
    exact h
  have HB := hide ((below_alloc' (w := w) (.cells #[.int .i64 0, .int .i64 0, .int .i64 0, .int .i64 0, .bool false, .string ⟨#[]⟩, .int .u8 0, .int .u8 0, .int .u8 0, .int .u8 0, .int .u8 0, .int .u8 0, .int .u8 0, .int .u8 0, .int .u8 0, .int .u8 0, .int .u8 0, .int .u8 0, .int .u8 0, .int .u8 0, .int .u8 0, .int .u8 0, .int .u8 0, .int .u8 0, .int .u8 0, .int .u8 0, .int .u8 0, .int .u8 0, .int .u8 0, .int .u8 0, .int .u8 0, .int .u8 0, .int .u8 0, .int .u8 0, .int .u8 0, .int .u8 0, .int .u8 0, .int .u8 0, .slice none 0 0, .slice none 0 0, .string ⟨#[]⟩] 28)).alloc (by simp) (.cells #[.string s, .int .i64 0] 51))
  have HSZ : Hid ((((w.alloc (.cells #[.int .i64 0, .int .i64 0, .int .i64 0, .int .i64 0, .bool false, .string ⟨#[]⟩, .int .u8 0, .int .u8 0, .int .u8 0, .int .u8 0, .int .u8 0, .int .u8 0, .int .u8 0, .int .u8 0, .int .u8 0, .int .u8 0, .int .u8 0, .int .u8 0, .int .u8 0, .int .u8 0, .int .u8 0, .int .u8 0, .int .u8 0, .int .u8 0, .int .u8 0, .int .u8 0, .int .u8 0, .int .u8 0, .int .u8 0, .int .u8 0, .int .u8 0, .int .u8 0, .int .u8 0, .int .u8 0, .int .u8 0, .int .u8 0, .int .u8 0, .int .u8 0, .slice none 0 0, .slice none 0 0, .string ⟨#[]⟩] 28)).alloc (.cells #[.string s, .int .i64 0] 51))).heap.size = w.heap.size + 2) := hide (by simp)
  have hlen : s.data.toList.length ≤ 50000000 := by rw [size_data]; omega
  obtain ⟨st, hst⟩ : ∃ st, ((s.data.toList, 0) : St) = st := ⟨_, rfl⟩
  rw [hst] at hd0 hx ⊢
  have hl0 : st.1.length ≤ 50000000 := by rw [← hst]; exact hlen
  have hl1 := rNumber_len st 1073741824
  rw [hx] at hl1
  have HL0 : Hid (S.1.length ≤ 50000000) := hide (Nat.le_trans hl1 hl0)
  have K0 := hide (refNumberR_any _ _ 1073741824 (by omega) _ hd0)
  rw [hx] at K0
  have hM : rMsg st = (rH k S, (rHS k S)) := by
    unfold rMsg
    rw [hx]
    unfold rBody
    rw [if_neg (by simpa using n2), if_neg (by simpa using n3), if_neg (by simpa using n4), if_neg (by simpa using n6)]
  have HFW : Hid (FewM (rH k S)) := hide (by have h := rMsg_few st; rw [hM] at h; exact h)
  obtain ⟨E1, hE1⟩ : ∃ E, rDone ((rHS k S)) = E := ⟨_, rfl⟩
  obtain ⟨E2, hE2⟩ : ∃ E, checkM (rH k S) = E := ⟨_, rfl⟩
  have hR : readM st = if (if E1 ≠ 0 then E1 else E2) ≠ 0 then (zeroM, if E1 ≠ 0 then E1 else E2) else (rH k S, 0) := by unfold readM readErr; rw [hM]; dsimp only; rw [hE1, hE2]
  have HE1 := hide hE1
  have HE2 := hide hE2
  rw [hR]
  clear hlen hst hE1 hE2 hs hR hM hl0 hl1 hx hd0
  have HFS : Hid (fail S (kindErr k) = S) := hide hfs
  clear hfs
  by_cases h1 : E1 = 0
  · subst h1
    rw [if_neg (by simp : ¬ ((0 : Int) ≠ 0))]
    by_cases h2 : E2 = 0
    · subst h2
      rw [if_neg (by simp)]
      go_enter Tryz.func22, Tryz.ntmps22
      go_wp2_with fail
      refine (unhide K0).mono ?_
      rintro e w1 ⟨rfl, hd, hb⟩
      have HY := hide ((unhide HZ0).beside hb (by intro e; have e2 : w.heap.size = w.heap.size + 1 := e; omega))
      have HB1 := hide ((unhide HB).trans (hb.below (unhide HB).size (by intro g e; have e2 : g = w.heap.size + 1 := e; omega)))
      have HD := hide hd
      have HS1 : Hid (w.heap.size + 2 ≤ w1.heap.size) := hide (by have := hb.size; have := unhide HSZ; omega)
      have HZ1 : Hid (VRow (w1.alloc (.cells #[.int .i64 0, .int .i64 0, .int .i64 0, .int .i64 0, .bool false, .string ⟨#[]⟩, .int .u8 0, .int .u8 0, .int .u8 0, .int .u8 0, .int .u8 0, .int .u8 0, .int .u8 0, .int .u8 0, .int .u8 0, .int .u8 0, .int .u8 0, .int .u8 0, .int .u8 0, .int .u8 0, .int .u8 0, .int .u8 0, .int .u8 0, .int .u8 0, .int .u8 0, .int .u8 0, .int .u8 0, .int .u8 0, .int .u8 0, .int .u8 0, .int .u8 0, .int .u8 0, .int .u8 0, .int .u8 0, .int .u8 0, .int .u8 0, .int .u8 0, .int .u8 0, .slice none 0 0, .slice none 0 0, .string ⟨#[]⟩] 28)) w1.heap.size 28 mZ) := hide (by rw [mZ_lit]; exact VRow.new w1 28 [.int .i64 0, .int .i64 0, .int .i64 0, .int .i64 0, .bool false, .string ⟨#[]⟩, .int .u8 0, .int .u8 0, .int .u8 0, .int .u8 0, .int .u8 0, .int .u8 0, .int .u8 0, .int .u8 0, .int .u8 0, .int .u8 0, .int .u8 0, .int .u8 0, .int .u8 0, .int .u8 0, .int .u8 0, .int .u8 0, .int .u8 0, .int .u8 0, .int .u8 0, .int .u8 0, .int .u8 0, .int .u8 0, .int .u8 0, .int .u8 0, .int .u8 0, .int .u8 0, .int .u8 0, .int .u8 0, .int .u8 0, .int .u8 0, .int .u8 0, .int .u8 0, .slice none 0 0, .slice none 0 0, .string ⟨#[]⟩])
      clear hd hb
      go_wp2_with ((with_reducible refine atS27 ?_); (refine store_row (by rfl) 28 (.tmp 5) (.tmp 14) (by rfl) w1.heap.size (mL { zeroM with kind := k } none 0 none 0) (by rfl) (by rw [mK_lit]; rfl) 28 mZ (unhide HZ1) 41 sizeM rfl mZ_len (mL_one _ _ _ _ _) ?_); intro w2 ho2 hr2; have x0 := m0 hr2; dsimp only at x0; have x1 : w2.cell? ⟨w.heap.size + 1, 1, none⟩ = some (.int .i64 S.2) := VRow.cell (VRow.only ((unhide HD).alloc _) ho2 (by have := unhide HS1; omega)) 1 _ rfl; have HO2 := hide ho2; have HR2 := hide hr2; clear ho2 hr2)
      have H0 : Hid (US w.heap.size w1.heap.size w S { zeroM with kind := k } none 0 none 0 w2) := hide ⟨VRow.only ((unhide HY).alloc _) (unhide HO2) (by have := unhide HS1; omega), unhide HR2, VRow.only ((unhide HD).alloc _) (unhide HO2) (by have := unhide HS1; omega), ((unhide HB1).trans ((below_alloc' _).mono (unhide HB1).size)).trans ((unhide HO2).below (by have := unhide HS1; omega)), unhide HS1⟩
      clear HZ1 HO2 HR2 HY HD HB1
      have H1 : Hid (US w.heap.size w1.heap.size w (fail S (kindErr k)) { zeroM with kind := k } none 0 none 0 w2) := hide (by rw [unhide HFS]; exact unhide H0)
      clear x0 x1
      have HLX : Hid ((fail S (kindErr k)).1.length ≤ 50000000) := hide (by rw [fail_len]; exact unhide HL0)
      refine ((unhide H1).call fun hd => refNumberR_any _ _ 63 (by have := unhide HLX; omega) _ hd).mono ?_
      rintro e w11 ⟨rfl, h1⟩
      have G1 := hide h1
      clear h1
      have x0 := (unhide G1).row.cell 1 _ rfl
      have f0 := (unhide G1).row.frozen 1
      have H2 := hide ((unhide G1).set (set1 (unhide G1).row (rNumber (fail S (kindErr k)) 63).1))
      have HL2 : Hid ((rNumber (fail S (kindErr k)) 63).2.1.length ≤ 50000000) := hide (Nat.le_trans (rNumber_len _ _) (unhide HLX))
      go_wp2_with fail
      clear x0 f0
      refine ((unhide H2).call fun hd => refNumberR_any _ _ 63 (by have := unhide HL2; omega) _ hd).mono ?_
      rintro e w12 ⟨rfl, h2⟩
      have G2 := hide h2
      clear h2
      have x0 := (unhide G2).row.cell 2 _ rfl
      have f0 := (unhide G2).row.frozen 2
      have H3 := hide ((unhide G2).set (set2 (unhide G2).row (rNumber (rNumber (fail S (kindErr k)) 63).2 63).1))
      have HL3 : Hid ((rNumber (rNumber (fail S (kindErr k)) 63).2 63).2.1.length ≤ 50000000) := hide (Nat.le_trans (rNumber_len _ _) (unhide HL2))
      go_wp2_with fail
      clear x0 f0
      refine ((unhide H3).call fun hd => refNumberR_any _ _ 1048576 (by have := unhide HL3; omega) _ hd).mono ?_
      rintro e w13 ⟨rfl, h3⟩
      have G3 := hide h3
      clear h3
      have x0 := (unhide G3).row.cell 3 _ rfl
      have f0 := (unhide G3).row.frozen 3
      have H4 := hide ((unhide G3).set (set3 (unhide G3).row (rNumber (rNumber (rNumber (fail S (kindErr k)) 63).2 63).2 1048576).1))
      have HL4 : Hid ((rNumber (rNumber (rNumber (fail S (kindErr k)) 63).2 63).2 1048576).2.1.length ≤ 50000000) := hide (Nat.le_trans (rNumber_len _ _) (unhide HL3))
      have y0 := m0 (unhide H4).row
      dsimp only at y0
      go_wp2_with fail
      clear x0 f0
      have HU := H4
      have KD := hide (refDoneR_any _ ((rHS k S)) _ (unhide HU).doc)
      rw [unhide HE1] at KD
      go_wp2_with fail
      refine (unhide KD).mono ?_
      rintro e w40 ⟨rfl, rfl⟩
      have HL2 := hide (mL_len (unhide HFW).root none 0 none 0)
      have HO2 := hide (mL_one (rH k S) none 0 none 0)
      have KC := hide fun (W : World) h1 h2 => refCheckM_any (rH k S) none none 0 0 W (unhide HFW) h1 h2
      rw [unhide HE2] at KC
      go_wp2_with ((with_reducible refine at27 ?_); (refine load_msg (by rfl) (.tmp 5) (by rfl) _ (by rfl) _ (unhide HU).row (unhide HL2) ?_))
      refine (unhide KC _ (Sl.none _ _) (RL.none _ _)).mono ?_
      rintro e w41 ⟨rfl, hb⟩
      have HU2 := hide ((unhide HU).after hb)
      clear hb
      go_wp2_with (first
        | ((with_reducible refine at27 ?_); (refine load_msg (by rfl) (.tmp 5) (by rfl) _ (by rfl) _ (unhide HU2).row (unhide HL2) ?_))
        | ((with_reducible refine atS27 ?_); (refine store_row (by rfl) 28 (.tmp 2) (.tmp 103) (by rfl) w.heap.size _ (by rfl) (by rfl) 28 mZ (unhide HU2).res 41 sizeM (unhide HL2) mZ_len (unhide HO2) ?_); intro w5 ho5 hr5; have HO5 := hide ho5; have HR5 := hide hr5; clear ho5 hr5))
      refine bodyPost_ret (v := .tuple #[.agg (mL (rH k S) none 0 none 0).toArray, .int .i64 0]) ?_ rfl ⟨none, 0, none, 0, rfl, Fresh.nil _ _, RProv.none _ _ _, ?_, ?_, ?_⟩
      · exact results_msg15 _ _ w.heap.size _ _ rfl rfl (unhide HR5) (unhide HL2)
      · exact Sl.none _ _
      · exact RL.none _ _
      · exact (unhide HU2).below.trans ((unhide HO5).below (Nat.le_refl _))
    · rw [if_pos h2]
      have hne : (E2 != 0) = true := bne_iff_ne.2 h2
      have hne2 : (E2 == 0) = false := beq_eq_false_iff_ne.2 h2
      go_enter Tryz.func22, Tryz.ntmps22
      go_wp2_with fail
      refine (unhide K0).mono ?_
      rintro e w1 ⟨rfl, hd, hb⟩
      have HY := hide ((unhide HZ0).beside hb (by intro e; have e2 : w.heap.size = w.heap.size + 1 := e; omega))
      have HB1 := hide ((unhide HB).trans (hb.below (unhide HB).size (by intro g e; have e2 : g = w.heap.size + 1 := e; omega)))
      have HD := hide hd
      have HS1 : Hid (w.heap.size + 2 ≤ w1.heap.size) := hide (by have := hb.size; have := unhide HSZ; omega)
      have HZ1 : Hid (VRow (w1.alloc (.cells #[.int .i64 0, .int .i64 0, .int .i64 0, .int .i64 0, .bool false, .string ⟨#[]⟩, .int .u8 0, .int .u8 0, .int .u8 0, .int .u8 0, .int .u8 0, .int .u8 0, .int .u8 0, .int .u8 0, .int .u8 0, .int .u8 0, .int .u8 0, .int .u8 0, .int .u8 0, .int .u8 0, .int .u8 0, .int .u8 0, .int .u8 0, .int .u8 0, .int .u8 0, .int .u8 0, .int .u8 0, .int .u8 0, .int .u8 0, .int .u8 0, .int .u8 0, .int .u8 0, .int .u8 0, .int .u8 0, .int .u8 0, .int .u8 0, .int .u8 0, .int .u8 0, .slice none 0 0, .slice none 0 0, .string ⟨#[]⟩] 28)) w1.heap.size 28 mZ) := hide (by rw [mZ_lit]; exact VRow.new w1 28 [.int .i64 0, .int .i64 0, .int .i64 0, .int .i64 0, .bool false, .string ⟨#[]⟩, .int .u8 0, .int .u8 0, .int .u8 0, .int .u8 0, .int .u8 0, .int .u8 0, .int .u8 0, .int .u8 0, .int .u8 0, .int .u8 0, .int .u8 0, .int .u8 0, .int .u8 0, .int .u8 0, .int .u8 0, .int .u8 0, .int .u8 0, .int .u8 0, .int .u8 0, .int .u8 0, .int .u8 0, .int .u8 0, .int .u8 0, .int .u8 0, .int .u8 0, .int .u8 0, .int .u8 0, .int .u8 0, .int .u8 0, .int .u8 0, .int .u8 0, .int .u8 0, .slice none 0 0, .slice none 0 0, .string ⟨#[]⟩])
      clear hd hb
      go_wp2_with ((with_reducible refine atS27 ?_); (refine store_row (by rfl) 28 (.tmp 5) (.tmp 14) (by rfl) w1.heap.size (mL { zeroM with kind := k } none 0 none 0) (by rfl) (by rw [mK_lit]; rfl) 28 mZ (unhide HZ1) 41 sizeM rfl mZ_len (mL_one _ _ _ _ _) ?_); intro w2 ho2 hr2; have x0 := m0 hr2; dsimp only at x0; have x1 : w2.cell? ⟨w.heap.size + 1, 1, none⟩ = some (.int .i64 S.2) := VRow.cell (VRow.only ((unhide HD).alloc _) ho2 (by have := unhide HS1; omega)) 1 _ rfl; have HO2 := hide ho2; have HR2 := hide hr2; clear ho2 hr2)
      have H0 : Hid (US w.heap.size w1.heap.size w S { zeroM with kind := k } none 0 none 0 w2) := hide ⟨VRow.only ((unhide HY).alloc _) (unhide HO2) (by have := unhide HS1; omega), unhide HR2, VRow.only ((unhide HD).alloc _) (unhide HO2) (by have := unhide HS1; omega), ((unhide HB1).trans ((below_alloc' _).mono (unhide HB1).size)).trans ((unhide HO2).below (by have := unhide HS1; omega)), unhide HS1⟩
      clear HZ1 HO2 HR2 HY HD HB1
      have H1 : Hid (US w.heap.size w1.heap.size w (fail S (kindErr k)) { zeroM with kind := k } none 0 none 0 w2) := hide (by rw [unhide HFS]; exact unhide H0)
      clear x0 x1
      have HLX : Hid ((fail S (kindErr k)).1.length ≤ 50000000) := hide (by rw [fail_len]; exact unhide HL0)
      refine ((unhide H1).call fun hd => refNumberR_any _ _ 63 (by have := unhide HLX; omega) _ hd).mono ?_
      rintro e w11 ⟨rfl, h1⟩
      have G1 := hide h1
      clear h1
      have x0 := (unhide G1).row.cell 1 _ rfl
      have f0 := (unhide G1).row.frozen 1
      have H2 := hide ((unhide G1).set (set1 (unhide G1).row (rNumber (fail S (kindErr k)) 63).1))
      have HL2 : Hid ((rNumber (fail S (kindErr k)) 63).2.1.length ≤ 50000000) := hide (Nat.le_trans (rNumber_len _ _) (unhide HLX))
      go_wp2_with fail
      clear x0 f0
      refine ((unhide H2).call fun hd => refNumberR_any _ _ 63 (by have := unhide HL2; omega) _ hd).mono ?_
      rintro e w12 ⟨rfl, h2⟩
      have G2 := hide h2
      clear h2
      have x0 := (unhide G2).row.cell 2 _ rfl
      have f0 := (unhide G2).row.frozen 2
      have H3 := hide ((unhide G2).set (set2 (unhide G2).row (rNumber (rNumber (fail S (kindErr k)) 63).2 63).1))
      have HL3 : Hid ((rNumber (rNumber (fail S (kindErr k)) 63).2 63).2.1.length ≤ 50000000) := hide (Nat.le_trans (rNumber_len _ _) (unhide HL2))
      go_wp2_with fail
      clear x0 f0
      refine ((unhide H3).call fun hd => refNumberR_any _ _ 1048576 (by have := unhide HL3; omega) _ hd).mono ?_
      rintro e w13 ⟨rfl, h3⟩
      have G3 := hide h3
      clear h3
      have x0 := (unhide G3).row.cell 3 _ rfl
      have f0 := (unhide G3).row.frozen 3
      have H4 := hide ((unhide G3).set (set3 (unhide G3).row (rNumber (rNumber (rNumber (fail S (kindErr k)) 63).2 63).2 1048576).1))
      have HL4 : Hid ((rNumber (rNumber (rNumber (fail S (kindErr k)) 63).2 63).2 1048576).2.1.length ≤ 50000000) := hide (Nat.le_trans (rNumber_len _ _) (unhide HL3))
      have y0 := m0 (unhide H4).row
      dsimp only at y0
      go_wp2_with fail
      clear x0 f0
      have HU := H4
      have KD := hide (refDoneR_any _ ((rHS k S)) _ (unhide HU).doc)
      rw [unhide HE1] at KD
      go_wp2_with fail
      refine (unhide KD).mono ?_
      rintro e w40 ⟨rfl, rfl⟩
      have HL2 := hide (mL_len (unhide HFW).root none 0 none 0)
      have HO2 := hide (mL_one (rH k S) none 0 none 0)
      have KC := hide fun (W : World) h1 h2 => refCheckM_any (rH k S) none none 0 0 W (unhide HFW) h1 h2
      rw [unhide HE2] at KC
      go_wp2_with ((with_reducible refine at27 ?_); (refine load_msg (by rfl) (.tmp 5) (by rfl) _ (by rfl) _ (unhide HU).row (unhide HL2) ?_))
      refine (unhide KC _ (Sl.none _ _) (RL.none _ _)).mono ?_
      rintro e w41 ⟨rfl, hb⟩
      have HU2 := hide ((unhide HU).after hb)
      clear hb
      go_wp2_with ((with_reducible refine atS27 ?_); (refine store_row (by rfl) 28 (.tmp 2) (.tmp 101) (by rfl) w.heap.size [.int .i64 0, .int .i64 0, .int .i64 0, .int .i64 0, .bool false, .string ⟨#[]⟩, .int .u8 0, .int .u8 0, .int .u8 0, .int .u8 0, .int .u8 0, .int .u8 0, .int .u8 0, .int .u8 0, .int .u8 0, .int .u8 0, .int .u8 0, .int .u8 0, .int .u8 0, .int .u8 0, .int .u8 0, .int .u8 0, .int .u8 0, .int .u8 0, .int .u8 0, .int .u8 0, .int .u8 0, .int .u8 0, .int .u8 0, .int .u8 0, .int .u8 0, .int .u8 0, .int .u8 0, .int .u8 0, .int .u8 0, .int .u8 0, .int .u8 0, .int .u8 0, .slice none 0 0, .slice none 0 0, .string ⟨#[]⟩] (by rfl) (by rfl) 28 mZ (unhide HU2).res 41 sizeM rfl mZ_len (by rw [← mZ_lit]; exact mZ_one) ?_); intro w5 ho5 hr5; have HO5 := hide ho5; have HR5 := hide hr5; clear ho5 hr5)
      refine bodyPost_ret (v := .tuple #[.agg (mL zeroM none 0 none 0).toArray, .int .i64 E2]) ?_ rfl ⟨none, 0, none, 0, rfl, Fresh.nil _ _, RProv.none _ _ _, Sl.none _ _, RL.none _ _, ?_⟩
      · have h9 := unhide HR5
        rw [← mZ_lit] at h9
        exact results_msg15 _ _ w.heap.size _ _ rfl rfl h9 mZ_len
      · exact (unhide HU2).below.trans ((unhide HO5).below (Nat.le_refl _))
  · rw [if_pos h1, if_pos h1]
    have hne : (E1 != 0) = true := bne_iff_ne.2 h1
    have hne2 : (E1 == 0) = false := beq_eq_false_iff_ne.2 h1
    go_enter Tryz.func22, Tryz.ntmps22
    go_wp2_with fail
    refine (unhide K0).mono ?_
    rintro e w1 ⟨rfl, hd, hb⟩
    have HY := hide ((unhide HZ0).beside hb (by intro e; have e2 : w.heap.size = w.heap.size + 1 := e; omega))
    have HB1 := hide ((unhide HB).trans (hb.below (unhide HB).size (by intro g e; have e2 : g = w.heap.size + 1 := e; omega)))
    have HD := hide hd
    have HS1 : Hid (w.heap.size + 2 ≤ w1.heap.size) := hide (by have := hb.size; have := unhide HSZ; omega)
    have HZ1 : Hid (VRow (w1.alloc (.cells #[.int .i64 0, .int .i64 0, .int .i64 0, .int .i64 0, .bool false, .string ⟨#[]⟩, .int .u8 0, .int .u8 0, .int .u8 0, .int .u8 0, .int .u8 0, .int .u8 0, .int .u8 0, .int .u8 0, .int .u8 0, .int .u8 0, .int .u8 0, .int .u8 0, .int .u8 0, .int .u8 0, .int .u8 0, .int .u8 0, .int .u8 0, .int .u8 0, .int .u8 0, .int .u8 0, .int .u8 0, .int .u8 0, .int .u8 0, .int .u8 0, .int .u8 0, .int .u8 0, .int .u8 0, .int .u8 0, .int .u8 0, .int .u8 0, .int .u8 0, .int .u8 0, .slice none 0 0, .slice none 0 0, .string ⟨#[]⟩] 28)) w1.heap.size 28 mZ) := hide (by rw [mZ_lit]; exact VRow.new w1 28 [.int .i64 0, .int .i64 0, .int .i64 0, .int .i64 0, .bool false, .string ⟨#[]⟩, .int .u8 0, .int .u8 0, .int .u8 0, .int .u8 0, .int .u8 0, .int .u8 0, .int .u8 0, .int .u8 0, .int .u8 0, .int .u8 0, .int .u8 0, .int .u8 0, .int .u8 0, .int .u8 0, .int .u8 0, .int .u8 0, .int .u8 0, .int .u8 0, .int .u8 0, .int .u8 0, .int .u8 0, .int .u8 0, .int .u8 0, .int .u8 0, .int .u8 0, .int .u8 0, .int .u8 0, .int .u8 0, .int .u8 0, .int .u8 0, .int .u8 0, .int .u8 0, .slice none 0 0, .slice none 0 0, .string ⟨#[]⟩])
    clear hd hb
    go_wp2_with ((with_reducible refine atS27 ?_); (refine store_row (by rfl) 28 (.tmp 5) (.tmp 14) (by rfl) w1.heap.size (mL { zeroM with kind := k } none 0 none 0) (by rfl) (by rw [mK_lit]; rfl) 28 mZ (unhide HZ1) 41 sizeM rfl mZ_len (mL_one _ _ _ _ _) ?_); intro w2 ho2 hr2; have x0 := m0 hr2; dsimp only at x0; have x1 : w2.cell? ⟨w.heap.size + 1, 1, none⟩ = some (.int .i64 S.2) := VRow.cell (VRow.only ((unhide HD).alloc _) ho2 (by have := unhide HS1; omega)) 1 _ rfl; have HO2 := hide ho2; have HR2 := hide hr2; clear ho2 hr2)
    have H0 : Hid (US w.heap.size w1.heap.size w S { zeroM with kind := k } none 0 none 0 w2) := hide ⟨VRow.only ((unhide HY).alloc _) (unhide HO2) (by have := unhide HS1; omega), unhide HR2, VRow.only ((unhide HD).alloc _) (unhide HO2) (by have := unhide HS1; omega), ((unhide HB1).trans ((below_alloc' _).mono (unhide HB1).size)).trans ((unhide HO2).below (by have := unhide HS1; omega)), unhide HS1⟩
    clear HZ1 HO2 HR2 HY HD HB1
    have H1 : Hid (US w.heap.size w1.heap.size w (fail S (kindErr k)) { zeroM with kind := k } none 0 none 0 w2) := hide (by rw [unhide HFS]; exact unhide H0)
    clear x0 x1
    have HLX : Hid ((fail S (kindErr k)).1.length ≤ 50000000) := hide (by rw [fail_len]; exact unhide HL0)
    refine ((unhide H1).call fun hd => refNumberR_any _ _ 63 (by have := unhide HLX; omega) _ hd).mono ?_
    rintro e w11 ⟨rfl, h1⟩
    have G1 := hide h1
    clear h1
    have x0 := (unhide G1).row.cell 1 _ rfl
    have f0 := (unhide G1).row.frozen 1
    have H2 := hide ((unhide G1).set (set1 (unhide G1).row (rNumber (fail S (kindErr k)) 63).1))
    have HL2 : Hid ((rNumber (fail S (kindErr k)) 63).2.1.length ≤ 50000000) := hide (Nat.le_trans (rNumber_len _ _) (unhide HLX))
    go_wp2_with fail
    clear x0 f0
    refine ((unhide H2).call fun hd => refNumberR_any _ _ 63 (by have := unhide HL2; omega) _ hd).mono ?_
    rintro e w12 ⟨rfl, h2⟩
    have G2 := hide h2
    clear h2
    have x0 := (unhide G2).row.cell 2 _ rfl
    have f0 := (unhide G2).row.frozen 2
    have H3 := hide ((unhide G2).set (set2 (unhide G2).row (rNumber (rNumber (fail S (kindErr k)) 63).2 63).1))
    have HL3 : Hid ((rNumber (rNumber (fail S (kindErr k)) 63).2 63).2.1.length ≤ 50000000) := hide (Nat.le_trans (rNumber_len _ _) (unhide HL2))
    go_wp2_with fail
    clear x0 f0
    refine ((unhide H3).call fun hd => refNumberR_any _ _ 1048576 (by have := unhide HL3; omega) _ hd).mono ?_
    rintro e w13 ⟨rfl, h3⟩
    have G3 := hide h3
    clear h3
    have x0 := (unhide G3).row.cell 3 _ rfl
    have f0 := (unhide G3).row.frozen 3
    have H4 := hide ((unhide G3).set (set3 (unhide G3).row (rNumber (rNumber (rNumber (fail S (kindErr k)) 63).2 63).2 1048576).1))
    have HL4 : Hid ((rNumber (rNumber (rNumber (fail S (kindErr k)) 63).2 63).2 1048576).2.1.length ≤ 50000000) := hide (Nat.le_trans (rNumber_len _ _) (unhide HL3))
    have y0 := m0 (unhide H4).row
    dsimp only at y0
    go_wp2_with fail
    clear x0 f0
    have HU := H4
    have KD := hide (refDoneR_any _ ((rHS k S)) _ (unhide HU).doc)
    rw [unhide HE1] at KD
    go_wp2_with fail
    refine (unhide KD).mono ?_
    rintro e w40 ⟨rfl, rfl⟩
    go_wp2_with ((with_reducible refine atS27 ?_); (refine store_row (by rfl) 28 (.tmp 2) (.tmp 101) (by rfl) w.heap.size [.int .i64 0, .int .i64 0, .int .i64 0, .int .i64 0, .bool false, .string ⟨#[]⟩, .int .u8 0, .int .u8 0, .int .u8 0, .int .u8 0, .int .u8 0, .int .u8 0, .int .u8 0, .int .u8 0, .int .u8 0, .int .u8 0, .int .u8 0, .int .u8 0, .int .u8 0, .int .u8 0, .int .u8 0, .int .u8 0, .int .u8 0, .int .u8 0, .int .u8 0, .int .u8 0, .int .u8 0, .int .u8 0, .int .u8 0, .int .u8 0, .int .u8 0, .int .u8 0, .int .u8 0, .int .u8 0, .int .u8 0, .int .u8 0, .int .u8 0, .int .u8 0, .slice none 0 0, .slice none 0 0, .string ⟨#[]⟩] (by rfl) (by rfl) 28 mZ (unhide HU).res 41 sizeM rfl mZ_len (by rw [← mZ_lit]; exact mZ_one) ?_); intro w5 ho5 hr5; have HO5 := hide ho5; have HR5 := hide hr5; clear ho5 hr5)
    refine bodyPost_ret (v := .tuple #[.agg (mL zeroM none 0 none 0).toArray, .int .i64 E1]) ?_ rfl ⟨none, 0, none, 0, rfl, Fresh.nil _ _, RProv.none _ _ _, Sl.none _ _, RL.none _ _, ?_⟩
    · have h9 := unhide HR5
      rw [← mZ_lit] at h9
      exact results_msg15 _ _ w.heap.size _ _ rfl rfl h9 mZ_len
    · exact (unhide HU).below.trans ((unhide HO5).below (Nat.le_refl _))
end Go.Proofs.YthecijjmgfempaaGreat
