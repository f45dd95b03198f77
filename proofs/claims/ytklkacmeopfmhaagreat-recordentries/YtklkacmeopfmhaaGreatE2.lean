/-
  Entries that are taken, the program's and the document's. Conditions: those that each theorem names.
-/
import Derived.Test.YtklkacmeopfmhaaGreatE1
namespace Go.Proofs.YtklkacmeopfmhaaGreat
open Go.RowKit

/-! What is taken. -/
def endE (p : List UInt8) (x : List Vc.V × St) : (List UInt8 × List Vc.V) × St := (if x.2.2 ≠ 0 then ([], []) else (p, x.1), x.2)
def rEntry (st : St) : (List UInt8 × List Vc.V) × St := endE (rText st 51).1 (rLeaf (fail (rText st 51).2 (pchk (rText st 51).1)))
theorem rText_most (st : St) (m : Int) (h : 0 ≤ m) : ((rText st m).1.length : Int) ≤ m := by
  have h1 := rNumber_most st m h
  unfold rText
  split
  · exact h
  · split
    · exact h
    · dsimp only
      rw [List.length_take]
      omega
theorem rEntry_less (st : St) : (rEntry st).2.1.length ≤ st.1.length := by
  have h1 := rText_len st 51
  have h2 := rLeaf_less (fail (rText st 51).2 (pchk (rText st 51).1))
  rw [fail_len] at h2
  unfold rEntry endE
  dsimp only
  omega
theorem Only.beside {B : Nat} {w w' : World} (h : Only B w w') : Beside (· = B) w w' := ⟨h.os, h.tape, h.output, Nat.le_of_eq h.size.symm, fun k _ hk => h.block k hk⟩
/-- An entry that is taken, and where its versions lie. -/
def EntMade (q T : Nat) (w : World) (x : (List UInt8 × List Vc.V) × St) (e : Ending) (w' : World) : Prop := ∃ a cap, e = .returned (.agg #[.string (str x.1.1), .slice a x.1.2.length cap]) ∧ SV w' a x.1.2 ∧ Prov (fun g => w.heap.size ≤ g) w' a x.1.2 ∧ DS q T w x.2 w'
def zero34 : List Value := [.string ⟨#[]⟩, .slice none 0 0]
theorem size34 : (Tryz.prog.info? 34).map (·.size) = some 2 := by kernel_rfl
theorem results_row11 (tmps : Array Value) (w : World) (g : Nat) (vs : List Value) (hp : tmps.getD 2 undef = .pointer (some ⟨g, 0, none⟩)) (hr : VRow w g 34 vs) (hn : vs.length = 2) :
    (results Tryz.f11 tmps).run Tryz.prog w = .ok (.agg vs.toArray) w := by
  have hp' : tmps[2]?.getD undef = .pointer (some ⟨g, 0, none⟩) := by simpa using hp
  have hl := run_loadVar_row (P := Tryz.prog) w g 34 34 vs.toArray (0, 0) _ hr Tryz.underlying34 rfl (by rw [size34]; simp [hn])
  simp [results, hp', asAddr, hl]
theorem results_row12 (tmps : Array Value) (w : World) (g : Nat) (vs : List Value) (hp : tmps.getD 2 undef = .pointer (some ⟨g, 0, none⟩)) (hr : VRow w g 34 vs) (hn : vs.length = 2) :
    (results Tryz.f12 tmps).run Tryz.prog w = .ok (.agg vs.toArray) w := by
  have hp' : tmps[2]?.getD undef = .pointer (some ⟨g, 0, none⟩) := by simpa using hp
  have hl := run_loadVar_row (P := Tryz.prog) w g 34 34 vs.toArray (0, 0) _ hr Tryz.underlying34 rfl (by rw [size34]; simp [hn])
  simp [results, hp', asAddr, hl]

set_option maxRecDepth 100000 in
set_option maxHeartbeats 1000000 in
theorem takeEntry_any {w : World} {q : Nat} {st : St} (h : Doc w q 63 st) (hs : st.1.length ≤ 50000000) :
    Calls Tryz.prog 11 #[.pointer (some ⟨q, 0, none⟩)] w (EntMade q 63 w (rEntry st)) := by
  have HB := hide (below_alloc' (w := w) (.cells zero34.toArray 34))
  have hq := h.lt
  have HW := hide (DS.start (h.after (unhide HB)))
  have HR := hide (VRow.new w 34 zero34)
  have K1 := hide ((unhide HW).call3 fun hx => rtext_d hx hs 51)
  have HM := hide (rText_most st 51 (by omega))
  have L1 := hide (Nat.le_trans (rText_len st 51) hs)
  have HRR : Hid (rEntry st = endE (rText st 51).1 (rLeaf (fail (rText st 51).2 (pchk (rText st 51).1)))) := hide rfl
  obtain ⟨R, hR⟩ : ∃ R, rEntry st = R := ⟨_, rfl⟩
  rw [hR] at HRR ⊢
  clear hR
  generalize rText st 51 = X at K1 HM L1 HRR
  obtain ⟨P, S1⟩ := X
  dsimp only at K1 HM L1 HRR
  have KC := hide fun W => Pth.check_any (str P) (by rw [str_size]; have := unhide HM; omega) W
  rw [str_data] at KC
  have HPC : Hid (Pth.Pt.check P = pchk P) := hide rfl
  rw [unhide HPC] at KC
  generalize pchk P = C at KC HRR
  obtain ⟨S2, hS2⟩ : ∃ S2, fail S1 C = S2 := ⟨_, rfl⟩
  have HS2 := hide hS2
  have L2 : Hid (S2.1.length ≤ 50000000) := hide (by rw [← hS2, fail_len]; exact unhide L1)
  rw [hS2] at HRR
  obtain ⟨X3, hX3⟩ : ∃ X3, rLeaf S2 = X3 := ⟨_, rfl⟩
  have HX := hide hX3
  rw [hX3] at HRR
  obtain ⟨L, SB, SE⟩ := X3
  obtain ⟨U, hU⟩ : ∃ U, str P = U := ⟨_, rfl⟩
  have HU := hide hU
  rw [hU] at K1 KC
  clear h hs hS2 hX3 hU HPC HM
  go_enter Tryz.func11, Tryz.ntmps11
  go_wp2_with fail
  refine (unhide K1).mono ?_
  rintro e w1 ⟨rfl, hd, hb⟩
  have HD1 := hide hd
  have HR1 := hide ((unhide HR).beside hb (by omega))
  clear hd hb
  go_wp2_with fail
  refine (unhide KC _).mono ?_
  rintro e w2 ⟨rfl, hb⟩
  have HD2 := hide ((unhide HD1).after hb)
  have HR2 := hide ((unhide HR1).after hb)
  clear hb
  go_wp2_with fail
  refine ((unhide HD2).call3 fun hx => rfail_d hx C).mono ?_
  rw [unhide HS2]
  rintro e w3 ⟨rfl, hd, hb⟩
  have HD3 := hide hd
  have HR3 := hide ((unhide HR2).beside hb (by omega))
  have hlt3 := (unhide HR3).lt
  clear hd hb
  go_wp2_with fail
  have K4 := takeLeaf_any (unhide HD3).1 (unhide L2)
  rw [unhide HX] at K4
  refine K4.mono ?_
  rintro e w4 ⟨a, cap, rfl, hcap, hsl, hpr, hd⟩
  dsimp only at hcap hsl hpr hd ⊢
  have HD4 := hide ((unhide HD3).trans hd)
  have HR4 := hide ((unhide HR3).beside hd.2 (by omega))
  have HSL := hide hsl
  have HPR := hide hpr
  have KE := hide (rerr_at (show RdAt w4 q (SB, SE) from (unhide HD4).1))
  dsimp only at KE
  clear hcap hsl hpr hd K4
  by_cases hE : SE = 0
  · subst hE
    have HE2 : Hid (R = ((P, L), (SB, 0))) := hide (by rw [unhide HRR]; rfl)
    go_wp2_with (first
      | (go_at_call 14; refine (unhide KE).mono ?_; rintro e w5 ⟨rfl, rfl⟩)
      | (refine store_row (by rfl) 34 (.tmp 2) (.tmp 19) (by rfl) w.heap.size [.string U, .slice a L.length cap] (by rfl) (by rfl) 34 zero34 (unhide HR4) 2 size34 rfl rfl (by simp [Value.oneCell']) ?_; intro w6 ho6 hr6; have HR6 := hide hr6; have HO6 := hide ho6; clear ho6 hr6))
    refine bodyPost_ret (v := .agg #[.string U, .slice a L.length cap]) ?_ rfl ?_
    · exact results_row11 _ _ w.heap.size _ rfl (unhide HR6) rfl
    · rw [unhide HE2, ← unhide HU]
      exact ⟨a, cap, rfl, (unhide HSL).beside (unhide HPR) (unhide HO6).beside (by omega), ((unhide HPR).beside (unhide HSL) (unhide HO6).beside (by omega)).weak (fun g hg => by omega), ((unhide HD4).of (unhide HB)).only (unhide HO6) (Nat.le_refl _) (by omega)⟩
  · have HE2 : Hid (R = (([], []), (SB, SE))) := hide (by rw [unhide HRR]; exact congrArg (·, (SB, SE)) (if_pos hE))
    have hne : (SE != 0) = true := bne_iff_ne.2 hE
    go_wp2_with (first
      | (go_at_call 14; refine (unhide KE).mono ?_; rintro e w5 ⟨rfl, rfl⟩)
      | (refine store_row (by rfl) 34 (.tmp 2) (.tmp 16) (by rfl) w.heap.size zero34 (by rfl) (by rfl) 34 zero34 (unhide HR4) 2 size34 rfl rfl (by simp [zero34, Value.oneCell']) ?_; intro w6 ho6 hr6; have HR6 := hide hr6; have HO6 := hide ho6; clear ho6 hr6))
    refine bodyPost_ret (v := .agg #[.string ⟨#[]⟩, .slice none 0 0]) ?_ rfl ?_
    · exact results_row11 _ _ w.heap.size _ rfl (unhide HR6) rfl
    · rw [unhide HE2]
      exact ⟨none, 0, rfl, SV.none _ _, Prov.none _ _ _, ((unhide HD4).of (unhide HB)).only (unhide HO6) (Nat.le_refl _) (by omega)⟩

set_option maxRecDepth 100000 in
set_option maxHeartbeats 2000000 in
theorem refTakeEntry_any {w : World} {q : Nat} {st : St} (h : Doc w q 43 st) (hs : st.1.length ≤ 50000000) :
    Calls Tryz.prog 12 #[.pointer (some ⟨q, 0, none⟩)] w (EntMade q 43 w (rEntry st)) := by
  have HB := hide (below_alloc' (w := w) (.cells zero34.toArray 34))
  have hq := h.lt
  have HW := hide (DS.start (h.after (unhide HB)))
  have HR := hide (VRow.new w 34 zero34)
  have K1 := hide ((unhide HW).call3 fun hx => refTextR_any q st 51 (by omega) _ hx)
  have HM := hide (rText_most st 51 (by omega))
  have L1 := hide (Nat.le_trans (rText_len st 51) hs)
  have HRR : Hid (rEntry st = endE (rText st 51).1 (rLeaf (fail (rText st 51).2 (pchk (rText st 51).1)))) := hide rfl
  obtain ⟨R, hR⟩ : ∃ R, rEntry st = R := ⟨_, rfl⟩
  rw [hR] at HRR ⊢
  clear hR
  generalize rText st 51 = X at K1 HM L1 HRR
  obtain ⟨P, S1⟩ := X
  dsimp only at K1 HM L1 HRR
  have KC := hide fun W => Pth.refCheck_any (str P) (by rw [str_size]; have := unhide HM; omega) W
  rw [str_data] at KC
  have HPC : Hid (Pth.Pt.check P = pchk P) := hide rfl
  rw [unhide HPC] at KC
  generalize pchk P = C at KC HRR
  obtain ⟨S2, hS2⟩ : ∃ S2, fail S1 C = S2 := ⟨_, rfl⟩
  have HS2 := hide hS2
  have L2 : Hid (S2.1.length ≤ 50000000) := hide (by rw [← hS2, fail_len]; exact unhide L1)
  rw [hS2] at HRR
  obtain ⟨X3, hX3⟩ : ∃ X3, rLeaf S2 = X3 := ⟨_, rfl⟩
  have HX := hide hX3
  rw [hX3] at HRR
  obtain ⟨L, SB, SE⟩ := X3
  obtain ⟨U, hU⟩ : ∃ U, str P = U := ⟨_, rfl⟩
  have HU := hide hU
  rw [hU] at K1 KC
  clear h hs hS2 hX3 hU HPC HM
  go_enter Tryz.func12, Tryz.ntmps12
  go_wp2_with fail
  refine (unhide K1).mono ?_
  rintro e w1 ⟨rfl, hd, hb⟩
  have HD1 := hide hd
  have HR1 := hide ((unhide HR).beside hb (by omega))
  have hlt1 := (unhide HR1).lt
  clear hd hb
  obtain ⟨B1, E1⟩ := S1
  by_cases h1 : E1 = 0
  · subst h1
    go_wp2_with (refine store_row (by rfl) 34 _ _ (by rfl) w1.heap.size [.string U, .slice none 0 0] (by rfl) (by rfl) 34 zero34 (VRow.newAt rfl) 2 size34 rfl rfl (by simp [Value.oneCell']) ?_; intro w2 ho hr; have HDb := hide (((unhide HD1).after (below_alloc' (.cells zero34.toArray 34))).only ho (unhide HD1).2.size (by have := (unhide HD1).lt; omega)); have R0b := hide (((unhide HR1).alloc (.cells zero34.toArray 34)).only ho (by omega)); have R1b := hide hr; have c1 := (unhide HDb).1.c1; have y0 := hr.cell 0 _ rfl; dsimp only at c1; clear ho hr)
    refine (unhide KC _).mono ?_
    rintro e w3 ⟨rfl, hb⟩
    have HDc := hide ((unhide HDb).after hb)
    have R0c := hide ((unhide R0b).after hb)
    have R1c := hide ((unhide R1b).after hb)
    clear hb c1 y0
    go_wp2_with fail
    refine ((unhide HDc).call3 fun hx => refFailR_any q (B1, 0) C _ hx).mono ?_
    rw [unhide HS2]
    rintro e w4 ⟨rfl, hd, hb⟩
    have HDd := hide hd
    have R0d := hide ((unhide R0c).beside hb (by omega))
    have R1d := hide ((unhide R1c).beside hb (by have := (unhide HD1).lt; omega))
    clear hd hb
    go_wp2_with fail
    have K4 := refTakeLeaf_any (unhide HDd).1 (unhide L2)
    rw [unhide HX] at K4
    refine K4.mono ?_
    rintro e v1 ⟨a, cap, rfl, hcap, hsl, hpr, hd⟩
    dsimp only at hcap hsl hpr hd ⊢
    clear K4
    have HX1 := hide ((unhide HDd).trans hd)
    have hr0 := (unhide R0d).beside hd.2 (by omega)
    have hr1 := (unhide R1d).beside hd.2 (by omega)
    have hlt1 := (unhide R1d).lt
    have hlt0 := (unhide R0d).lt
    have hqD := (unhide HD1).lt
    have hbD := (unhide HD1).2.size
    have y0 := hr1.cell 0 _ rfl
    have y1 := hr1.cell 1 _ rfl
    have f1 := hr1.frozen 1
    have HX2 := hide (DS.only (unhide HX1) (only_set v1 w1.heap.size 1 (.slice a L.length cap)) (by omega) (by omega))
    have c1 := (unhide HX2).1.c1
    have HS2 := hide (hsl.beside hpr (beside_set w1.heap.size 1 v1 (.slice a L.length cap)) (by omega))
    have HP2 := hide (hpr.beside hsl (beside_set w1.heap.size 1 v1 (.slice a L.length cap)) (by omega))
    have HR0 := hide (hr0.setNe (B := w1.heap.size) (by omega) 1 (.slice a L.length cap))
    have HR1 := hide (show VRow (v1.setCell ⟨w1.heap.size, 1, none⟩ (.slice a L.length cap)) w1.heap.size 34 [.string U, .slice a L.length cap] from hr1.set 1 _)
    clear hcap hd hr0 hr1
    dsimp only at c1
    clear HX1 hsl hpr
    by_cases hE : SE = 0
    · subst hE
      have HE2 : Hid (R = ((P, L), (SB, 0))) := hide (by rw [unhide HRR]; rfl)
      go_wp2_with (refine store_row (by rfl) 34 (.tmp 2) (.tmp 26) (by rfl) w.heap.size [.string U, .slice a L.length cap] (by rfl) (by rfl) 34 zero34 (unhide HR0) 2 size34 rfl rfl (by simp [Value.oneCell']) ?_; intro v2 ho2 hr2; have HR2 := hide hr2; have HO2 := hide ho2; clear ho2 hr2)
      refine bodyPost_ret (v := .agg #[.string U, .slice a L.length cap]) ?_ rfl ?_
      · exact results_row12 _ _ w.heap.size _ rfl (unhide HR2) rfl
      · rw [unhide HE2, ← unhide HU]
        exact ⟨a, cap, rfl, (unhide HS2).beside (unhide HP2) (unhide HO2).beside (by omega), ((unhide HP2).beside (unhide HS2) (unhide HO2).beside (by omega)).weak (fun g hg => by omega), ((unhide HX2).of (unhide HB)).only (unhide HO2) (Nat.le_refl _) (by omega)⟩
    · have HE2 : Hid (R = (([], []), (SB, SE))) := hide (by rw [unhide HRR]; exact congrArg (·, (SB, SE)) (if_pos hE))
      have hne : (SE != 0) = true := bne_iff_ne.2 hE
      go_wp2_with (refine store_row (by rfl) 34 (.tmp 2) (.tmp 25) (by rfl) w.heap.size zero34 (by rfl) (by rfl) 34 zero34 (unhide HR0) 2 size34 rfl rfl (by simp [zero34, Value.oneCell']) ?_; intro v2 ho2 hr2; have HR2 := hide hr2; have HO2 := hide ho2; clear ho2 hr2)
      refine bodyPost_ret (v := .agg #[.string ⟨#[]⟩, .slice none 0 0]) ?_ rfl ?_
      · exact results_row12 _ _ w.heap.size _ rfl (unhide HR2) rfl
      · rw [unhide HE2]
        exact ⟨none, 0, rfl, SV.none _ _, Prov.none _ _ _, ((unhide HX2).of (unhide HB)).only (unhide HO2) (Nat.le_refl _) (by omega)⟩
  · have hne0 : (E1 == 0) = false := by simp [h1]
    have HS12 : Hid (S2 = (B1, E1)) := hide (by rw [← unhide HS2]; exact fail_stays _ h1)
    go_wp2_with (refine store_row (by rfl) 34 _ _ (by rfl) w1.heap.size [.string U, .slice none 0 0] (by rfl) (by rfl) 34 zero34 (VRow.newAt rfl) 2 size34 rfl rfl (by simp [Value.oneCell']) ?_; intro w2 ho hr; have HDb := hide (((unhide HD1).after (below_alloc' (.cells zero34.toArray 34))).only ho (unhide HD1).2.size (by have := (unhide HD1).lt; omega)); have R0b := hide (((unhide HR1).alloc (.cells zero34.toArray 34)).only ho (by omega)); have R1b := hide hr; have c1 := (unhide HDb).1.c1; dsimp only at c1; rw [← unhide HS12] at HDb; clear ho hr)
    clear c1
    have K4 := refTakeLeaf_any (unhide HDb).1 (unhide L2)
    rw [unhide HX] at K4
    refine K4.mono ?_
    rintro e v1 ⟨a, cap, rfl, hcap, hsl, hpr, hd⟩
    dsimp only at hcap hsl hpr hd ⊢
    clear K4
    have HX1 := hide ((unhide HDb).trans hd)
    have hr0 := (unhide R0b).beside hd.2 (by omega)
    have hr1 := (unhide R1b).beside hd.2 (by omega)
    have hlt1 := (unhide R1b).lt
    have hlt0 := (unhide R0b).lt
    have hqD := (unhide HD1).lt
    have hbD := (unhide HD1).2.size
    have y0 := hr1.cell 0 _ rfl
    have y1 := hr1.cell 1 _ rfl
    have f1 := hr1.frozen 1
    have HX2 := hide (DS.only (unhide HX1) (only_set v1 w1.heap.size 1 (.slice a L.length cap)) (by omega) (by omega))
    have c1 := (unhide HX2).1.c1
    have HS2 := hide (hsl.beside hpr (beside_set w1.heap.size 1 v1 (.slice a L.length cap)) (by omega))
    have HP2 := hide (hpr.beside hsl (beside_set w1.heap.size 1 v1 (.slice a L.length cap)) (by omega))
    have HR0 := hide (hr0.setNe (B := w1.heap.size) (by omega) 1 (.slice a L.length cap))
    have HR1 := hide (show VRow (v1.setCell ⟨w1.heap.size, 1, none⟩ (.slice a L.length cap)) w1.heap.size 34 [.string U, .slice a L.length cap] from hr1.set 1 _)
    clear hcap hd hr0 hr1
    dsimp only at c1
    clear HX1 hsl hpr
    by_cases hE : SE = 0
    · subst hE
      have HE2 : Hid (R = ((P, L), (SB, 0))) := hide (by rw [unhide HRR]; rfl)
      go_wp2_with (refine store_row (by rfl) 34 (.tmp 2) (.tmp 26) (by rfl) w.heap.size [.string U, .slice a L.length cap] (by rfl) (by rfl) 34 zero34 (unhide HR0) 2 size34 rfl rfl (by simp [Value.oneCell']) ?_; intro v2 ho2 hr2; have HR2 := hide hr2; have HO2 := hide ho2; clear ho2 hr2)
      refine bodyPost_ret (v := .agg #[.string U, .slice a L.length cap]) ?_ rfl ?_
      · exact results_row12 _ _ w.heap.size _ rfl (unhide HR2) rfl
      · rw [unhide HE2, ← unhide HU]
        exact ⟨a, cap, rfl, (unhide HS2).beside (unhide HP2) (unhide HO2).beside (by omega), ((unhide HP2).beside (unhide HS2) (unhide HO2).beside (by omega)).weak (fun g hg => by omega), ((unhide HX2).of (unhide HB)).only (unhide HO2) (Nat.le_refl _) (by omega)⟩
    · have HE2 : Hid (R = (([], []), (SB, SE))) := hide (by rw [unhide HRR]; exact congrArg (·, (SB, SE)) (if_pos hE))
      have hne : (SE != 0) = true := bne_iff_ne.2 hE
      go_wp2_with (refine store_row (by rfl) 34 (.tmp 2) (.tmp 25) (by rfl) w.heap.size zero34 (by rfl) (by rfl) 34 zero34 (unhide HR0) 2 size34 rfl rfl (by simp [zero34, Value.oneCell']) ?_; intro v2 ho2 hr2; have HR2 := hide hr2; have HO2 := hide ho2; clear ho2 hr2)
      refine bodyPost_ret (v := .agg #[.string ⟨#[]⟩, .slice none 0 0]) ?_ rfl ?_
      · exact results_row12 _ _ w.heap.size _ rfl (unhide HR2) rfl
      · rw [unhide HE2]
        exact ⟨none, 0, rfl, SV.none _ _, Prov.none _ _ _, ((unhide HX2).of (unhide HB)).only (unhide HO2) (Nat.le_refl _) (by omega)⟩
end Go.Proofs.YtklkacmeopfmhaaGreat
