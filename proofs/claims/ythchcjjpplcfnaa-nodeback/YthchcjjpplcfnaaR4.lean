/-
  A version, and a leaf, that the program takes; what a text is. Conditions: those that each theorem names.
-/
import Derived.Test.YthchcjjpplcfnaaR3
namespace Go.Proofs.Ythchcjjpplcfnaa
open Go.RowKit

theorem results_row57 (tmps : Array Value) (w : World) (g : Nat) (vs : List Value) (hp : tmps.getD 2 undef = .pointer (some ⟨g, 0, none⟩)) (hr : VRow w g 65 vs) (hn : vs.length = 5) :
    (results Try.f45 tmps).run Try.prog w = .ok (.agg vs.toArray) w := by
  have hp' : tmps[2]?.getD undef = .pointer (some ⟨g, 0, none⟩) := by simpa using hp
  have hl := run_loadVar_row (P := Try.prog) w g 65 65 vs.toArray (0, 0) _ hr Try.underlying65 rfl (by rw [size65]; simp [hn])
  simp [results, hp', asAddr, hl]
theorem Fresh.ne {n q : Nat} {a : Option Addr} {ds : List Vc.D} (h : Fresh n a ds) (hq : q < n) : ∀ ad, a = some ad → 0 < ds.length → ad.block ≠ q := fun ad e h0 => by
  have := h ad e h0
  omega

set_option maxRecDepth 100000 in
set_option maxHeartbeats 1000000 in
theorem takeVersion_any {w : World} {q : Nat} {st : St} (h : Doc w q 75 st) (hs : st.1.length ≤ 50000000) :
    Calls Try.prog 45 #[.pointer (some ⟨q, 0, none⟩)] w (VerMade q 75 w (rVer st)) := by
  have HB := hide (below_alloc' (w := w) (.cells zero65.toArray 65))
  have hq := h.lt
  have HW := hide (DS.start (h.after (unhide HB)))
  have HR := hide (VRow.new w 65 zero65)
  have K1 := hide ((unhide HW).call3 fun hx => takeDot_any hx hs)
  have L1 := hide (Nat.le_trans (rDot_less st) hs)
  have L2 := hide (Nat.le_trans (rVec_less (rDot st).2) (Nat.le_trans (rDot_less st) hs))
  have L3 := hide (Nat.le_trans (rFlag_len (rVec (rDot st).2).2) (Nat.le_trans (rVec_less (rDot st).2) (Nat.le_trans (rDot_less st) hs)))
  have HV : Hid (rVer st = (⟨(rDot st).1, (rVec (rDot st).2).1, (rFlag (rVec (rDot st).2).2).1, str (rText (rFlag (rVec (rDot st).2).2).2 48).1⟩, (rText (rFlag (rVec (rDot st).2).2).2 48).2)) := hide rfl
  obtain ⟨R, hR⟩ : ∃ R, rVer st = R := ⟨_, rfl⟩
  rw [hR] at HV ⊢
  clear hR
  generalize rDot st = X1 at K1 L1 L2 L3 HV
  obtain ⟨⟨d1, d2⟩, S1⟩ := X1
  dsimp only at K1 L1 L2 L3 HV
  obtain ⟨X2, hX2⟩ : ∃ X2, rVec S1 = X2 := ⟨_, rfl⟩
  rw [hX2] at L2 L3 HV
  have HX2 := hide hX2
  obtain ⟨P, S2⟩ := X2
  dsimp only at L2 L3 HV
  obtain ⟨X3, hX3⟩ : ∃ X3, rFlag S2 = X3 := ⟨_, rfl⟩
  rw [hX3] at L3 HV
  have HX3 := hide hX3
  obtain ⟨B, S3⟩ := X3
  dsimp only at L3 HV
  obtain ⟨X4, hX4⟩ : ∃ X4, rText S3 48 = X4 := ⟨_, rfl⟩
  rw [hX4] at HV
  have HX4 := hide hX4
  obtain ⟨t4, S4⟩ := X4
  dsimp only at HV
  obtain ⟨U, hU⟩ : ∃ U, str t4 = U := ⟨_, rfl⟩
  rw [hU] at HV
  have HU := hide hU
  clear h hs hX2 hX3 hX4 hU
  go_enter Try.func45, Try.ntmps45
  go_wp2_with fail
  refine (unhide K1).mono ?_
  rintro e w1 ⟨rfl, hd, hb⟩
  have HD1 := hide hd
  have HR1 := hide ((unhide HR).beside hb (by omega))
  have hsz1 : w.heap.size < w1.heap.size := (unhide HR1).lt
  clear hd hb
  go_wp2_with fail
  have K2 := takeVec_any (unhide HD1).1 (unhide L1)
  rw [unhide HX2] at K2
  refine K2.mono ?_
  rintro e w2 ⟨a, cap, rfl, hcap, hsl, hfr, hd⟩
  have HCAP := hide hcap
  have HSL := hide hsl
  have HFR := hide hfr
  have HD2 := hide ((unhide HD1).trans hd)
  have HR2 := hide ((unhide HR1).beside hd.2 (by omega))
  clear hcap hsl hfr hd K2
  go_wp2_with fail
  have K3 := (unhide HD2).call3 fun hx => rflag_d hx (unhide L2)
  rw [unhide HX3] at K3
  refine K3.mono ?_
  rintro e w3 ⟨rfl, hd, hb⟩
  have HD3 := hide hd
  have HSL3 := hide ((unhide HSL).besideF hb (unhide HFR) (by omega))
  have HR3 := hide ((unhide HR2).beside hb (by omega))
  clear hd hb K3
  go_wp2_with fail
  have K4 := (unhide HD3).call3 fun hx => rtext_d hx (unhide L3) 48
  rw [unhide HX4] at K4
  dsimp only at K4
  rw [unhide HU] at K4
  refine K4.mono ?_
  rintro e w4 ⟨rfl, hd, hb⟩
  have HD4 := hide hd
  have HSL4 := hide ((unhide HSL3).besideF hb (unhide HFR) (by omega))
  have HR4 := hide ((unhide HR3).beside hb (by omega))
  clear hd hb K4
  go_wp2_with (refine store_row (by rfl) 65 (.tmp 2) (.tmp 11) (by rfl) w.heap.size [.int .i64 d1, .int .i64 d2, .slice a P.length cap, .bool B, .string U] (by rfl) (by rfl) 65 zero65 (unhide HR4) 5 size65 rfl rfl (by simp [Value.oneCell']) ?_; intro w5 ho5 hr5; have HR5 := hide hr5; have HO5 := hide ho5; clear ho5 hr5)
  refine bodyPost_ret (v := .agg #[.int .i64 d1, .int .i64 d2, .slice a P.length cap, .bool B, .string U]) ?_ rfl ?_
  · exact results_row57 _ _ w.heap.size _ rfl (unhide HR5) rfl
  · rw [unhide HV]
    exact ⟨a, cap, rfl, unhide HCAP, (unhide HSL4).onlyNe (unhide HO5) ((unhide HFR).ne hsz1), (unhide HFR).weak (by omega), ((unhide HD4).of (unhide HB)).only (unhide HO5) (Nat.le_refl _) (by omega)⟩

set_option maxRecDepth 100000 in
set_option maxHeartbeats 2000000 in
theorem takeListV_any {w : World} {q : Nat} {st : St} (h : Doc w q 75 st) (hs : st.1.length ≤ 50000000) :
    Calls Try.prog 44 #[.pointer (some ⟨q, 0, none⟩), .func (.func 33) #[] #[], .func (.func 45) #[] #[]] w (VersMade q 75 w (rLeaf st)) := by
  have hq := h.lt
  have HW := hide (DS.start h)
  have K1 := hide ((unhide HW).call3 fun hx => rnumber_d hx hs 64)
  have HLEN := hide (rNumber_len st 64)
  have HL0 := hide hs
  have HN64 := hide (rCount st)
  have HV : Hid (rLeaf st = endV (itV (rNumber st 64).1.toNat (rNumber st 64).2)) := hide rfl
  obtain ⟨N, e1, e2⟩ := count_nat st 64
  rw [e1] at K1
  rw [e2] at HV HN64
  generalize (rNumber st 64).2 = S0 at K1 HLEN HV
  have HLS : Hid (∀ k, (itV k S0).2.1.length ≤ 50000000) := hide fun k => by
    have h1 := itV_less k S0
    have := unhide HLEN
    have := unhide HL0
    omega
  rw [unhide HV]
  have hN := unhide HN64
  clear h hs e1 e2 HLEN HL0
  go_enter Try.func44, Try.ntmps44
  go_wp2_with fail
  refine (unhide K1).mono ?_
  rintro e w1 ⟨rfl, hd, _⟩
  have HD1 := hide hd
  clear hd
  go_wp2_with fail
  go_loopw [7, 10] (fun l i wr => ∃ k : Nat, k ≤ N ∧ i = .int .i64 k ∧ OV (fun g => w.heap.size ≤ g) wr w.heap.size l (itV k S0).1 ∧ DS q 75 w (itV k S0).2 wr) (fun _ i _ => N - (intOf i).toNat)
  case atStart => exact ⟨0, Nat.zero_le _, rfl, OV.nil _ _ _, unhide HD1⟩
  case round =>
    obtain ⟨k, hk, rfl, hown, hd⟩ := hrel
    have HOWN := hide hown
    have HD := hide hd
    have HSZ := hide hd.2.size
    clear hown hd
    by_cases hlt : k < N
    · have K57 := hide (takeVersion_any (unhide HD).1 (unhide HLS k))
      have HX : Hid (itV (k + 1) S0 = ((itV k S0).1 ++ [(rVer (itV k S0).2).1], (rVer (itV k S0).2).2)) := hide rfl
      have HKL := hide (itV_len k S0)
      generalize itV k S0 = X at HOWN HD K57 HX HKL
      generalize rVer X.2 = Y at K57 HX
      obtain ⟨y, SY⟩ := Y
      go_wp2_with fail
      refine (unhide K57).mono ?_
      rintro e w2 ⟨r, c, rfl, hc, hsl, hfr, hd⟩
      dsimp only at hc hsl hfr hd ⊢
      have HD2 := hide ((unhide HD).trans hd)
      have HOWN2 := hide ((unhide HOWN).beside hd.2 hq (by omega))
      have HSZ2 := hide (Nat.le_trans (unhide HSZ) hd.2.size)
      have HC := hide hc
      have HSL := hide hsl
      have HAP : Hid (∀ l, OV (fun g => w.heap.size ≤ g) wr w.heap.size l X.1 → Apart (fun g => w.heap.size ≤ g) l.ownBlock r y.past) := hide fun l hl ad e h0 => by
        have h1 := hfr ad e h0
        have h2 := unhide HSZ
        refine ⟨fun e2 => ?_, by omega⟩
        have := (hl.lt _ e2.symm).2
        omega
      have HAP2 := hide (unhide HAP _ (unhide HOWN))
      unfold verL
      clear hc hsl hfr hd
      go_wp2_with (at_builtin; refine append_sv rfl _ _ rfl w.heap.size _ X.1 rfl ((unhide HOWN2).after (below_alloc' _)) (some ⟨w2.heap.size, 0, none⟩) 1 [y] rfl (one_svn (VRow.new w2 65 (verL y r c)) (unhide HC) ((unhide HSL).after (below_alloc' _)) (unhide HAP2)) (by simp; have := unhide HKL; omega) (by simp; have := unhide HSZ2; omega) ?_; intro v3 w3 hown hb _ _; have HOWN3 := hide hown; have HD3 := hide (((unhide HD2).after (below_alloc' _)).under (Nat.le_refl _) hq hb); clear hown hb)
      go_roundw
      case rel => exact ⟨k + 1, by omega, by go_num, by rw [unhide HX]; exact unhide HOWN3, by rw [unhide HX]; exact unhide HD3⟩
      case measure => simp [intOf]; omega
    · obtain rfl : k = N := by omega
      obtain ⟨a, cap, e, hcap, hsl, hpr⟩ := (unhide HOWN).sv
      have HCAP := hide hcap
      have HSL := hide hsl
      have HPR := hide (hpr fun _ h => h)
      have KL := itV_len k S0
      have KP := itV_past k S0
      obtain ⟨X, hX⟩ : ∃ X, itV k S0 = X := ⟨_, rfl⟩
      have HXE := hide hX
      rw [hX] at e HD HCAP HSL HPR KL KP
      subst e
      have KC := hide fun W h => checkLeaf_any a cap X.1 ⟨by omega, fun v hv => by have := KP v hv; omega⟩ W h
      obtain ⟨C, hC⟩ : ∃ C, Vc.checkLeaf X.1 = C := ⟨_, rfl⟩
      have HE : Hid (endV X = (if (fail X.2 C).2 ≠ 0 then [] else X.1, fail X.2 C)) := hide (by unfold endV; rw [hC])
      rw [hC] at KC
      clear hcap hsl hpr hC HOWN KL KP hX
      obtain ⟨F, hF⟩ : ∃ F, fail X.2 C = F := ⟨_, rfl⟩
      rw [hF] at HE
      go_wp2_with fail
      refine (unhide KC _ (unhide HSL)).mono ?_
      rintro e w2 ⟨rfl, hb⟩
      have HD2 := hide ((unhide HD).after hb)
      have HSL2 := hide ((unhide HSL).after hb)
      have HPR2 := hide ((unhide HPR).after (unhide HSL) hb)
      clear hb
      go_wp2_with fail
      refine ((unhide HD2).call3 fun hx => rfail_d hx C).mono ?_
      rw [hF]
      rintro e w3 ⟨rfl, hd, hb⟩
      have HD3 := hide hd
      have HSL3 := hide ((unhide HSL2).beside (unhide HPR2) hb (by omega))
      have HPR3 := hide ((unhide HPR2).beside (unhide HSL2) hb (by omega))
      have KE := hide (rerr_at (show RdAt w3 q F from hd.1))
      clear hd hb hF
      obtain ⟨FB, FE⟩ := F
      dsimp only at KE
      by_cases he : FE = 0
      · subst he
        have HE2 : Hid (endV X = (X.1, (FB, 0))) := hide (by rw [unhide HE]; rfl)
        go_wp2_with fail
        refine (unhide KE).mono ?_
        rintro e w4 ⟨rfl, rfl⟩
        go_wp2_with fail
        go_ret
        rw [unhide HXE, unhide HE2]
        exact ⟨a, cap, rfl, unhide HCAP, unhide HSL3, unhide HPR3, unhide HD3⟩
      · have HE2 : Hid (endV X = ([], (FB, FE))) := hide (by rw [unhide HE]; rw [if_pos he])
        have hne : (FE != 0) = true := bne_iff_ne.2 he
        go_wp2_with fail
        refine (unhide KE).mono ?_
        rintro e w4 ⟨rfl, rfl⟩
        go_wp2_with fail
        go_ret
        rw [unhide HXE, unhide HE2]
        exact ⟨none, 0, rfl, Nat.le_refl _, SV.none _ _, Prov.none _ _ _, unhide HD3⟩

set_option maxRecDepth 100000 in
set_option maxHeartbeats 400000 in
theorem takeLeaf_any {w : World} {q : Nat} {st : St} (h : Doc w q 75 st) (hs : st.1.length ≤ 50000000) :
    Calls Try.prog 22 #[.pointer (some ⟨q, 0, none⟩)] w (VersMade q 75 w (rLeaf st)) := by
  have K := hide (takeListV_any h hs)
  generalize rLeaf st = X at K ⊢
  clear h hs
  go_enter Try.func22, Try.ntmps22
  go_wp2_with fail
  refine (unhide K).mono ?_
  rintro e w1 ⟨a, cap, rfl, h1, h2, h3, h4⟩
  have HM := hide (show VersMade q 75 w X (.returned (.slice a X.1.length cap)) w1 from ⟨a, cap, rfl, h1, h2, h3, h4⟩)
  clear h1 h2 h3 h4
  go_wp2_with fail
  go_ret
  exact unhide HM

/-- What a text is, where it lies, and what is wrong. -/
def VecOfMade (w : World) (x : List Vc.D × Int) (e : Ending) (w' : World) : Prop := ∃ a cap, e = .returned (.tuple #[.slice a x.1.length cap, .int .i64 x.2]) ∧ x.1.length ≤ cap ∧ Sl w' a x.1 ∧ Below w.heap.size w w'
def LeafOfMade (w : World) (x : List Vc.V × Int) (e : Ending) (w' : World) : Prop := ∃ a cap, e = .returned (.tuple #[.slice a x.1.length cap, .int .i64 x.2]) ∧ x.1.length ≤ cap ∧ SV w' a x.1 ∧ Below w.heap.size w w'

set_option maxRecDepth 100000 in
set_option maxHeartbeats 400000 in
theorem rnew_d (s : ByteArray) (w : World) : Calls Try.prog 21 #[.string s] w fun e w' => e = .returned (.pointer (some ⟨w.heap.size, 0, none⟩)) ∧ Doc w' w.heap.size 75 (s.data.toList, 0) ∧ Below w.heap.size w w' := by
  go_enter Try.func21, Try.ntmps21
  go_wp2_with fail
  go_ret
  refine ⟨rfl, ?_, below_alloc' _⟩
  show VRow _ _ _ [.string (str s.data.toList), .int .i64 0]
  rw [str_of]
  exact VRow.new w 75 [.string s, .int .i64 0]

end Go.Proofs.Ythchcjjpplcfnaa
