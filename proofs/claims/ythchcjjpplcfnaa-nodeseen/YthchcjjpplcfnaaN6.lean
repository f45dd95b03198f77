/-
  The node that bytes are: the program's Read. Conditions: those that each theorem names.
-/
import Derived.Test.YthchcjjpplcfnaaN5
namespace Go.Proofs.Ythchcjjpplcfnaa
open Go.RowKit

/-- What is taken of bytes, whether or not it may be. -/
def rawN (s : List UInt8) : Nd := ⟨(rLeaf (s, 0)).1, (rKids (rLeaf (s, 0)).2).1⟩
def endN (s : List UInt8) : St := (rKids (rLeaf (s, 0)).2).2
theorem readN_first (s : List UInt8) : IsFirst (fun j => if j = 0 then rDone (endN s) else chkN (rawN s)) 2 (readN s).2 := by
  have e : readN s = if rDone (endN s) ≠ 0 then (⟨[], []⟩, rDone (endN s)) else if chkN (rawN s) ≠ 0 then (⟨[], []⟩, chkN (rawN s)) else (rawN s, 0) := rfl
  rw [e]
  by_cases h1 : rDone (endN s) ≠ 0
  · rw [if_pos h1]
    exact .inl ⟨0, by omega, rfl, h1, fun i h => absurd h (Nat.not_lt_zero _)⟩
  · rw [if_neg h1]
    have h1' := Classical.not_not.1 h1
    by_cases h2 : chkN (rawN s) ≠ 0
    · rw [if_pos h2]
      refine .inl ⟨1, by omega, rfl, h2, fun i h => ?_⟩
      rw [show i = 0 by omega]
      exact h1'
    · rw [if_neg h2]
      refine .inr ⟨rfl, fun i h => ?_⟩
      rcases (show i = 0 ∨ i = 1 by omega) with rfl | rfl
      · exact h1'
      · exact Classical.not_not.1 h2
theorem readN_is (s : List UInt8) : readN s = if (readN s).2 = 0 then (rawN s, 0) else (⟨[], []⟩, (readN s).2) := by
  unfold readN
  by_cases h1 : rDone (rKids (rLeaf (s, 0)).2).2 ≠ 0
  · rw [if_pos h1, if_neg h1]
  · rw [if_neg h1]
    by_cases h2 : chkN ⟨(rLeaf (s, 0)).1, (rKids (rLeaf (s, 0)).2).1⟩ ≠ 0
    · rw [if_pos h2, if_neg h2]
    · rw [if_neg h2, if_pos rfl]
      rfl
theorem rawN_ok (s : List UInt8) : Nok (rawN s) where
  few := ⟨Nat.le_trans (rLeaf_len _) (by omega), fun v hv => Nat.le_trans (rLeaf_past _ v hv) (by omega)⟩
  kids := Nat.le_trans (rKids_len _) (by omega)
  digs := rKids_digs _
  names := fun k hk => Nat.le_trans (rKids_names _ k hk) (by omega)
/-- A node that is read, and where it lies. -/
def NodeMade (w : World) (x : Nd × Int) (e : Ending) (w' : World) : Prop := ∃ a c b d, e = .returned (.tuple #[.agg (ndL x.1 a c b d).toArray, .int .i64 x.2]) ∧ NdAt w' x.1 a c b d ∧ Below w.heap.size w w'
theorem Only.beside {B : Nat} {w w' : World} (h : Only B w w') : Beside (· = B) w w' := ⟨h.os, h.tape, h.output, Nat.le_of_eq h.size.symm, fun k _ hn => h.block k hn⟩
theorem results_nodeR (tmps : Array Value) (w : World) (g : Nat) (vs : List Value) (v : Value) (hp : tmps.getD 2 undef = .pointer (some ⟨g, 0, none⟩)) (hq : tmps.getD 3 undef = v) (hr : VRow w g 25 vs) (hn : vs.length = 2) :
    (results Try.f8 tmps).run Try.prog w = .ok (.tuple #[.agg vs.toArray, v]) w := by
  have hp' : tmps[2]?.getD undef = .pointer (some ⟨g, 0, none⟩) := by simpa using hp
  have hq' : tmps[3]?.getD undef = v := by simpa using hq
  have hl := run_loadVar_row (P := Try.prog) w g 25 25 vs.toArray (0, 0) _ hr Try.underlying25 rfl (by rw [sizeNd]; simp [hn])
  simp [results, hp', hq', asAddr, hl]
theorem calls_r0 : ∀ (args : Array Value) (w : World), (callFunc 25 args).run Try.prog w = .ok (.enter 25 args) w := fun _ _ => by kernel_rfl
theorem calls_r1 : ∀ (args : Array Value) (w : World), (callFunc 26 args).run Try.prog w = .ok (.enter 26 args) w := fun _ _ => by kernel_rfl

set_option maxRecDepth 100000 in
set_option maxHeartbeats 400000 in
theorem r1_any (B : Nat) (a : Option Addr) (c : Nat) (b : Option Addr) (d : Nat) (n : Nd) (hn : Nok n) (w : World) (h : NdAt w n a c b d) (hr : VRow w B 25 (ndL n a c b d)) :
    Calls Try.prog 26 #[.pointer (some ⟨B, 0, none⟩)] w fun e w' => e = .returned (.int .i64 (chkN n)) ∧ Below w.heap.size w w' := by
  have K := hide (checkN_any a c b d n hn w h)
  have x0 : w.cell? ⟨B, 0, none⟩ = some (.slice a n.vs.length c) := hr.cell 0 _ rfl
  have x1 : w.cell? ⟨B, 1, none⟩ = some (.slice b n.ks.length d) := hr.cell 1 _ rfl
  clear hr h hn
  generalize chkN n = R at K ⊢
  unfold ndL at *
  go_enter Try.func26, Try.ntmps26
  go_wp2_with fail
  refine (unhide K).mono ?_
  rintro e w1 ⟨rfl, hb⟩
  have HB := hide hb
  clear hb x0 x1
  go_wp2_with fail
  go_ret
  exact ⟨rfl, unhide HB⟩
theorem readF_any (B G q : Nat) (a : Option Addr) (c : Nat) (b : Option Addr) (d : Nat) (s : List UInt8) (w : World) (hG : G = w.heap.size) (h : NdAt w (rawN s) a c b d) (hr : VRow w B 25 (ndL (rawN s) a c b d)) (hd : Doc w q 75 (endN s)) :
    Calls Try.prog 24 #[.slice (some ⟨G, 0, none⟩) 2 2] (w.alloc (.cells #[.func (.func 25) #[.pointer (some ⟨q, 0, none⟩)] #[], .func (.func 26) #[] #[.pointer (some ⟨B, 0, none⟩)]] 57)) fun e w' => e = .returned (.int .i64 (readN s).2) ∧ Below w.heap.size w w' := by
  subst hG
  have hb := below_alloc' (w := w) (.cells #[.func (.func 25) #[.pointer (some ⟨q, 0, none⟩)] #[], .func (.func 26) #[] #[.pointer (some ⟨B, 0, none⟩)]] 57)
  have hv := VRow.new w 57 [.func (.func 25) #[.pointer (some ⟨q, 0, none⟩)] #[], .func (.func 26) #[] #[.pointer (some ⟨B, 0, none⟩)]]
  refine (firstN_any w.heap.size 2 2 (by omega) (fun j => if j = 0 then 25 else 26) (fun j => if j = 0 then #[.pointer (some ⟨q, 0, none⟩)] else #[]) (fun j => if j = 0 then #[] else #[.pointer (some ⟨B, 0, none⟩)]) _ _ (readN_first s) _ (fun j hj => ?_) (by simp) (fun j hj => ?_) (fun j hj _ W hW => ?_)).mono ?_
  · rcases (show j = 0 ∨ j = 1 by omega) with rfl | rfl
    · exact hv.cell 0 _ rfl
    · exact hv.cell 1 _ rfl
  · rcases (show j = 0 ∨ j = 1 by omega) with rfl | rfl
    · exact calls_r0
    · exact calls_r1
  · rcases (show j = 0 ∨ j = 1 by omega) with rfl | rfl
    · refine (rdone_at (st := endN s) (show RdAt W q (endN s) from (hd.after hb).after hW)).mono ?_
      rintro e w' ⟨rfl, rfl⟩
      exact ⟨rfl, Below.refl _ _⟩
    · exact r1_any B a c b d _ (rawN_ok s) W ((h.after hb).after hW) ((hr.after hb).after hW)
  · rintro e w' ⟨rfl, h⟩
    exact ⟨rfl, below_grow hb (Nat.le_refl _) h⟩

set_option maxRecDepth 100000 in
set_option maxHeartbeats 2000000 in
theorem readN_any (s : ByteArray) (hs : s.size ≤ 40000000) (w : World) : Calls Try.prog 8 #[.string s] w (NodeMade w (readN s.data.toList)) := by
  have hmf : ∀ (fn : Fn) (first cap : Array Value) (w : World), (Instr.makeFunc fn first cap).run Try.prog w = .ok (.func fn first cap) w := fun _ _ _ _ => rfl
  have HB0 := hide (below_alloc' (w := w) (.cells zeroN.toArray 25))
  have HR0 := hide (VRow.new w 25 zeroN)
  have HS := hide hs
  have HSD := hide (size_data s)
  have HIS := hide (readN_is s.data.toList)
  have HRF := hide (fun B G q a c b d W hG h hr hd => readF_any B G q a c b d s.data.toList W hG h hr hd)
  have HRAW : Hid (rawN s.data.toList = ⟨(rLeaf (s.data.toList, 0)).1, (rKids (rLeaf (s.data.toList, 0)).2).1⟩) := hide rfl
  have HEND : Hid (endN s.data.toList = (rKids (rLeaf (s.data.toList, 0)).2).2) := hide rfl
  have HLL := hide (rLeaf_less (s.data.toList, 0))
  have KN := hide (rnew_d s (w.alloc (.cells zeroN.toArray 25)))
  obtain ⟨X, hX⟩ : ∃ X, readN s.data.toList = X := ⟨_, rfl⟩
  rw [hX] at HIS HRF ⊢
  generalize rawN s.data.toList = N at HIS HRF HRAW
  generalize endN s.data.toList = Z at HRF HEND
  clear hs hX
  unfold zeroN at *
  go_enter Try.func8, Try.ntmps8
  go_wp2_with fail
  refine (unhide KN).mono ?_
  rintro e w1 ⟨rfl, hd, hb⟩
  have HD1 := hide hd
  have HB1 := hide (below_grow (unhide HB0) (Nat.le_refl _) hb)
  have HR1 := hide ((unhide HR0).after hb)
  have hsz : w.heap.size < (w.alloc (.cells #[.slice none 0 0, .slice none 0 0] 25)).heap.size := by simp
  obtain ⟨q, hq⟩ : ∃ q, (w.alloc (.cells #[.slice none 0 0, .slice none 0 0] 25)).heap.size = q := ⟨_, rfl⟩
  rw [hq] at hsz HD1
  clear hd hb
  have HSZ0 := hide hsz
  have HBE := hide (unhide HB1).size
  have K1 := hide (takeLeaf_any (unhide HD1) (by show s.data.toList.length ≤ 50000000; have := unhide HS; have := unhide HSD; omega))
  have hqlt := (unhide HD1).lt
  obtain ⟨L, hL⟩ : ∃ L, rLeaf (s.data.toList, 0) = L := ⟨_, rfl⟩
  rw [hL] at K1 HRAW HEND HLL
  have HL2 : Hid (L.2.1.length ≤ 50000000) := hide (by have h1 : L.2.1.length ≤ s.data.toList.length := unhide HLL; have h2 := unhide HS; have h3 := unhide HSD; omega)
  clear hL
  go_wp2_with fail
  refine (unhide K1).mono ?_
  rintro e w2 ⟨a, c, rfl, hc, hsv, hpr, hd2⟩
  have HC := hide hc
  have HSV := hide hsv
  have HPR := hide hpr
  have HD2 := hide hd2
  have K2 := hide (takeKids_any hd2.1 (unhide HL2))
  obtain ⟨KK, hKK⟩ : ∃ KK, rKids L.2 = KK := ⟨_, rfl⟩
  rw [hKK] at K2 HRAW HEND
  have hN := unhide HRAW
  have hZ := unhide HEND
  subst hN
  subst hZ
  clear hc hsv hpr hd2 hKK K1 HRAW HEND
  go_wp2_with fail
  refine (unhide K2).mono ?_
  rintro e w3 ⟨b, d, rfl, hcd, hsk, hfr, hd3⟩
  have hnq : ¬ (fun g => w1.heap.size ≤ g) q := fun h => by have h' : w1.heap.size ≤ q := h; omega
  have HAT3 : Hid (NdAt w3 ⟨L.1, KK.1⟩ a c b d) := hide ⟨unhide HC, hcd, (unhide HSV).beside (unhide HPR) hd3.2 hnq, hsk⟩
  have HPR3 := hide ((unhide HPR).beside (unhide HSV) hd3.2 hnq)
  have HFR3 := hide (hfr.weak (unhide HD2).2.size)
  have HD3 := hide ((unhide HD2).trans hd3)
  have HB3 := hide ((unhide HB1).trans ((unhide HD3).below (unhide HBE) (by omega)))
  have HR3 := hide ((unhide HR1).beside (unhide HD3).2 (by omega))
  have HQ : Hid (q < w1.heap.size) := hide hqlt
  have HSZ3 := hide (unhide HD3).2.size
  clear hcd hsk hfr hd3 K2 hnq HSV HPR HC
  go_wp2_with (refine store_row (by rfl) 25 (.tmp 5) (.tmp 13) (by rfl) w3.heap.size (ndL ⟨L.1, KK.1⟩ a c b d) (by rfl) (by rfl) 25 zeroN (VRow.newAt rfl) 2 sizeNd rfl rfl (ndL_one _ _ _ _ _) ?_; intro w4 ho4 hr4; have HB4 := hide ((below_alloc' (w := w3) (.cells zeroN.toArray 25)).trans (ho4.below (Nat.le_refl _))); have HR4 := hide hr4; clear ho4 hr4)
  have HAT4 := hide ((unhide HAT3).after (unhide HB4))
  have HPR4 := hide ((unhide HPR3).after (unhide HAT3).sv (unhide HB4))
  have HR04 := hide ((unhide HR3).after (unhide HB4))
  have HD4 := hide ((unhide HD3).after (unhide HB4))
  have HB04 := hide (below_grow (unhide HB3) (Nat.le_refl _) (unhide HB4))
  refine (unhide HRF w3.heap.size w4.heap.size q a c b d w4 rfl (unhide HAT4) (unhide HR4) (unhide HD4).1).mono ?_
  rintro e w5 ⟨rfl, hb5⟩
  have HAT5 := hide ((unhide HAT4).after hb5)
  have HPR5 := hide ((unhide HPR4).after (unhide HAT4).sv hb5)
  have HR05 := hide ((unhide HR04).after hb5)
  have HR5 := hide ((unhide HR4).after hb5)
  have HB5 := hide (below_grow (unhide HB04) (Nat.le_refl _) hb5)
  clear hb5 HRF
  by_cases hz : X.2 = 0
  · have HX := hide (unhide HIS)
    rw [if_pos hz] at HX
    have e2 : (X.2 != 0) = false := by rw [hz]; rfl
    clear HIS
    go_wp2_with (first
      | (refine load_node (by rfl) (.tmp 5) (by rfl) w3.heap.size (by rfl) (ndL ⟨L.1, KK.1⟩ a c b d) (unhide HR5) rfl ?_)
      | (refine store_row (by rfl) 25 (.tmp 2) (.tmp 23) (by rfl) w.heap.size (ndL ⟨L.1, KK.1⟩ a c b d) (by rfl) (by rfl) 25 zeroN (unhide HR05) 2 sizeNd rfl rfl (ndL_one _ _ _ _ _) ?_; intro w9 ho9 hr9; have HO9 := hide ho9; have HR9 := hide hr9; clear ho9 hr9))
    refine bodyPost_ret (v := .tuple #[.agg (ndL ⟨L.1, KK.1⟩ a c b d).toArray, .int .i64 0]) ?_ rfl ?_
    · exact results_nodeR _ _ w.heap.size _ _ rfl rfl (unhide HR9) rfl
    · rw [unhide HX]
      have hnw : ¬ (fun g => w1.heap.size ≤ g) w.heap.size := fun h => by have h' : w1.heap.size ≤ w.heap.size := h; have := unhide HSZ0; omega
      exact ⟨a, c, b, d, rfl, ⟨(unhide HAT5).vc, (unhide HAT5).kc, (unhide HAT5).sv.beside (unhide HPR5) (unhide HO9).beside hnw, (unhide HAT5).sk.only (unhide HO9) (fun ad e h0 => by have h1 := unhide HFR3 ad e h0; have := unhide HSZ0; omega)⟩, (unhide HB5).trans ((unhide HO9).below (Nat.le_refl _))⟩
  · have HX := hide (unhide HIS)
    rw [if_neg hz] at HX
    have e2 : (X.2 != 0) = true := bne_iff_ne.2 hz
    clear HIS
    go_wp2_with (first
      | (refine store_row (by rfl) 25 (.tmp 2) (.tmp 21) (by rfl) w.heap.size zeroN (by rfl) (by rfl) 25 zeroN (unhide HR05) 2 sizeNd rfl rfl (ndL_one ⟨[], []⟩ none 0 none 0) ?_; intro w9 ho9 hr9; have HO9 := hide ho9; have HR9 := hide hr9; clear ho9 hr9))
    refine bodyPost_ret (v := .tuple #[.agg zeroN.toArray, .int .i64 X.2]) ?_ rfl ?_
    · exact results_nodeR _ _ w.heap.size _ _ rfl rfl (unhide HR9) rfl
    · rw [unhide HX]
      exact ⟨none, 0, none, 0, rfl, ⟨Nat.le_refl _, Nat.le_refl _, SV.none _ _, SK.none _ _⟩, (unhide HB5).trans ((unhide HO9).below (Nat.le_refl _))⟩
end Go.Proofs.Ythchcjjpplcfnaa
