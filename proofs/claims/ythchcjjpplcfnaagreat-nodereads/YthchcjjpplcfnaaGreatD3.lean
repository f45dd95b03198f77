/-
  The node that bytes are: the document's Read. Conditions: those that each theorem names.
-/
import Derived.Test.YthchcjjpplcfnaaGreatD1
import Derived.Test.YthchcjjpplcfnaaGreatN6
import Derived.Test.YthchcjjpplcfnaaGreatK2
import Derived.Test.YthchcjjpplcfnaaGreatR6
namespace Go.Proofs.YthchcjjpplcfnaaGreat
open Go.RowKit

theorem readN_eq (s : List UInt8) : readN s = if rDone (endN s) ≠ 0 then (⟨[], []⟩, rDone (endN s)) else if chkN (rawN s) ≠ 0 then (⟨[], []⟩, chkN (rawN s)) else (rawN s, 0) := rfl
theorem own_lt {w : World} {base e size n : Nat} {v : Value} {xs : List Value} (h : w.ownsRow base e size v n xs) : ∀ g, v.ownBlock = some g → base ≤ g ∧ g < w.heap.size := fun g eg => by
  rcases h.2 with ⟨rfl, _⟩ | ⟨g', cap, cur, rfl, e2, e3, _⟩
  · cases eg
  · injection eg with eg
    subst eg
    exact ⟨e2, (Array.getElem?_eq_some_iff.1 e3).1⟩
theorem results_nodeD (tmps : Array Value) (w : World) (g : Nat) (vs : List Value) (v : Value) (hp : tmps.getD 2 undef = .pointer (some ⟨g, 0, none⟩)) (hq : tmps.getD 3 undef = v) (hr : VRow w g 26 vs) (hn : vs.length = 2) :
    (results Tryz.f6 tmps).run Tryz.prog w = .ok (.tuple #[.agg vs.toArray, v]) w := by
  have hp' : tmps[2]?.getD undef = .pointer (some ⟨g, 0, none⟩) := by simpa using hp
  have hq' : tmps[3]?.getD undef = v := by simpa using hq
  have hl := run_loadVar_row (P := Tryz.prog) w g 26 26 vs.toArray (0, 0) _ hr Tryz.underlying26 rfl (by rw [sizeNd]; simp [hn])
  simp [results, hp', hq', asAddr, hl]

set_option maxRecDepth 100000 in
set_option maxHeartbeats 8000000 in
theorem refReadN_any (s : ByteArray) (hs : s.size ≤ 40000000) (w : World) : Calls Tryz.prog 6 #[.string s] w (NodeMade w (readN s.data.toList)) := by
  have HB0 := hide (below_alloc' (w := w) (.cells zeroN.toArray 26))
  have HS := hide hs
  have HSD := hide (size_data s)
  have hsz : (w.alloc (.cells zeroN.toArray 26)).heap.size = w.heap.size + 1 := by simp
  have hdoc := doc_text (w.alloc (.cells zeroN.toArray 26)) s
  rw [hsz] at hdoc
  have HR1 := hide ((VRow.new w 26 zeroN).alloc (.cells #[.string s, .int .i64 0] 44))
  have HB1 := hide ((unhide HB0).alloc (by simp) (.cells #[.string s, .int .i64 0] 44))
  have K1 := hide (refTakeLeaf_any hdoc (by show s.data.toList.length ≤ 50000000; have := unhide HS; have := unhide HSD; omega))
  have HQ1 := hide hdoc.lt
  have HIS := hide (readN_eq s.data.toList)
  have HRAW : Hid (rawN s.data.toList = ⟨(rLeaf (s.data.toList, 0)).1, (rKids (rLeaf (s.data.toList, 0)).2).1⟩) := hide rfl
  have HEND : Hid (endN s.data.toList = (rKids (rLeaf (s.data.toList, 0)).2).2) := hide rfl
  have HNOK := hide (rawN_ok s.data.toList)
  have HLL := hide (rLeaf_less (s.data.toList, 0))
  obtain ⟨X, hX⟩ : ∃ X, readN s.data.toList = X := ⟨_, rfl⟩
  rw [hX] at HIS ⊢
  generalize rawN s.data.toList = NN at HIS HRAW HNOK
  generalize endN s.data.toList = ZZ at HIS HEND
  obtain ⟨L, hL⟩ : ∃ L, rLeaf (s.data.toList, 0) = L := ⟨_, rfl⟩
  rw [hL] at K1 HRAW HEND HLL
  have HL2 : Hid (L.2.1.length ≤ 50000000) := hide (by have h1 : L.2.1.length ≤ s.data.toList.length := unhide HLL; have h2 := unhide HS; have h3 := unhide HSD; omega)
  have HN64 := hide (kCount L.2)
  have HLEN := hide (rNumber_len L.2 128)
  have HKK : Hid (rKids L.2 = itK (rNumber L.2 128).1.toNat (rNumber L.2 128).2) := hide rfl
  have HEARLY := hide fun k hk h => readN_early (st := L.2) (k := k) hk h
  obtain ⟨N, e1, e2⟩ := count_nat L.2 128
  rw [e2] at HKK HN64 HEARLY
  have HNUM := hide e1
  obtain ⟨S0, hS0⟩ : ∃ S0, (rNumber L.2 128).2 = S0 := ⟨_, rfl⟩
  have HS0 := hide hS0
  rw [hS0] at HKK HLEN HEARLY
  generalize rKids L.2 = KK at HRAW HEND HKK HEARLY
  have HLS : Hid (∀ k, (itK k S0).2.1.length ≤ 50000000) := hide fun k => by
    have h1 := itK_less k S0
    have := unhide HLEN
    have := unhide HL2
    omega
  have hN := unhide HN64
  clear hs hX hL e1 e2 hS0 hdoc hsz HLL
  unfold zeroN at *
  go_enter Tryz.func6, Tryz.ntmps6
  go_wp2_with fail
  generalize (w.alloc (.cells _ 26)).alloc (.cells _ 44) = w1 at HR1 HB1 K1 HQ1 ⊢
  refine (unhide K1).mono ?_
  rintro e w2 ⟨a, c, rfl, hc, hsv, hpr, hd2⟩
  have HC := hide hc
  have HSV := hide hsv
  have HPR := hide hpr
  have HB2 := hide ((unhide HB1).trans (hd2.below (unhide HB1).size (by omega)))
  have HR2 := hide ((unhide HR1).beside hd2.2 (by omega))
  have HQ2 : Hid (w.heap.size + 1 < w2.heap.size) := hide (Nat.lt_of_lt_of_le (unhide HQ1) hd2.2.size)
  have HD2 := hide (DS.start hd2.1)
  have HNQ : Hid (¬ (fun g => w1.heap.size ≤ g) (w.heap.size + 1)) := hide fun h => by have h' : w1.heap.size ≤ w.heap.size + 1 := h; have := unhide HQ1; omega
  have HNW : Hid (¬ (fun g => w1.heap.size ≤ g) w.heap.size) := hide fun h => by have h' : w1.heap.size ≤ w.heap.size := h; have := unhide HQ1; omega
  clear hc hsv hpr hd2 K1 HR1
  go_wp2_with (refine store_row (by rfl) 26 (.tmp 5) (.tmp 15) (by rfl) w2.heap.size [.slice a L.1.length c, .slice none 0 0] (by rfl) (by rfl) 26 zeroN (VRow.newAt rfl) 2 sizeNd rfl rfl (by simp [Value.oneCell']) ?_; intro w3 ho3 hr3; have HB3 := hide ((below_alloc' (w := w2) (.cells zeroN.toArray 26)).trans (ho3.below (Nat.le_refl _))); have HR53 := hide hr3; have HSZ3 := hide ho3.size; clear ho3 hr3)
  have K2 := ((unhide HD2).after (unhide HB3)).call3 fun hx => refNumberR_any (w.heap.size + 1) L.2 128 (by have := unhide HL2; omega) _ hx
  rw [unhide HNUM, unhide HS0] at K2
  refine K2.mono ?_
  rintro e w4 ⟨rfl, hd4, hb4⟩
  have HD4 := hide hd4
  have HR54 := hide ((unhide HR53).beside hb4 (by have := unhide HQ2; omega))
  have HSZ4 := hide hb4.size
  clear hd4 hb4 K2
  have HSZ := hide (show w2.heap.size + 1 ≤ w4.heap.size by have h := unhide HSZ3; simp at h; have := unhide HSZ4; omega)
  clear HR53 HSZ3 HSZ4 HB3
  go_wp2_with fail
  go_loopw [7] (fun i wr => ∃ (k : Nat) (l : Value), k ≤ N ∧ i = .int .i64 k ∧ VRow wr w2.heap.size 26 [.slice a L.1.length c, l] ∧ wr.ownsRow (w2.heap.size + 1) 51 33 l (itK k S0).1.length (flatK (itK k S0).1) ∧ DS (w.heap.size + 1) 44 w2 (itK k S0).2 wr ∧ w2.heap.size + 1 ≤ wr.heap.size) (fun i _ => N - (intOf i).toNat)
  case atStart => exact ⟨0, .slice none 0 0, Nat.zero_le _, rfl, unhide HR54, World.ownsRow_nil _ _ _ _, unhide HD4, unhide HSZ⟩
  case round =>
    obtain ⟨k, l, hk, rfl, hr5, hown, hd, hszr⟩ := hrel
    have HR5 := hide hr5
    have HOWN := hide hown
    have HD := hide hd
    have HSZR := hide hszr
    have HX : Hid (itK (k + 1) S0 = ((itK k S0).1 ++ [(rKid (itK k S0).2).1], (rKid (itK k S0).2).2)) := hide rfl
    have HKL := hide (itK_len k S0)
    have HKD := hide (itK_digs k S0)
    have HLK := hide (unhide HLS k)
    have HEA := hide (unhide HEARLY k hk)
    have HKKk : Hid (k = N → KK = itK k S0) := hide fun e => by rw [e]; exact unhide HKK
    obtain ⟨Xk, hXk⟩ : ∃ Xk, itK k S0 = Xk := ⟨_, rfl⟩
    rw [hXk] at HOWN HD HX HKL HKD HLK HEA HKKk
    clear hr5 hown hd hszr hXk HD4 HR54
    obtain ⟨XK, SB, SE⟩ := Xk
    have c1 := (unhide HD).1.c1
    dsimp only at c1 HLK HKL
    by_cases he : SE = 0
    · subst he
      by_cases hlt : k < N
      · have HL2 := hide (rText_len (SB, 0) 12)
        have HRK : Hid (rKid (SB, 0) = ((str (rText (SB, 0) 12).1, (rDigest (rText (SB, 0) 12).2).1), (rDigest (rText (SB, 0) 12).2).2)) := hide rfl
        have K3 := (unhide HD).call3 fun hx => refTextR_any (w.heap.size + 1) (SB, 0) 12 (by have := unhide HLK; show SB.length ≤ 100000000; omega) _ hx
        obtain ⟨Y, hY⟩ : ∃ Y, rText (SB, 0) 12 = Y := ⟨_, rfl⟩
        rw [hY] at K3 HL2 HRK
        obtain ⟨Z, hZ⟩ : ∃ Z, rDigest Y.2 = Z := ⟨_, rfl⟩
        have HZ := hide hZ
        have HZD := hide (rDigest_dig Y.2)
        rw [hZ] at HRK HZD
        have HX2 : Hid (itK (k + 1) S0 = (XK ++ [(str Y.1, Z.1)], Z.2)) := hide (by rw [unhide HX]; dsimp only; rw [unhide HRK])
        have K3H := hide K3
        clear hY hZ HRK HX K3
        go_wp2_with fail
        refine (unhide K3H).mono ?_
        rintro e w5 ⟨rfl, hd5, hb5⟩
        have HD5 := hide hd5
        have HOWN5 := hide (row_beside (unhide HOWN) hb5 (by have := unhide HQ2; omega))
        have HR55 := hide ((unhide HR5).beside hb5 (by have := unhide HQ2; omega))
        have HSZ5 := hide (Nat.le_trans (unhide HSZR) hb5.size)
        clear hd5 hb5 c1
        go_wp2_with (first
          | ((with_reducible refine at_buildK0 ?_); refine step_buildK0 (by rfl) (.tmp 31) (by rfl) (str Y.1) (by rfl) ?_)
          | (refine store_row (by rfl) 51 (.tmp 8) (.tmp 32) (by rfl) w5.heap.size (kL (str Y.1, zero32)) (by rfl) (by rfl) 51 (kL zeroK) (VRow.newAt rfl) 33 sizeK (kL_len rfl) rfl (kL_one _) ?_; intro w6 ho6 hr6; have HB6 := hide ((below_alloc' (w := w5) (.cells (kL zeroK).toArray 51)).trans (ho6.below (Nat.le_refl _))); have HR86 := hide hr6; clear ho6 hr6))
        have K4 := ((unhide HD5).after (unhide HB6)).call3 fun hx => refDigestR_any (w.heap.size + 1) Y.2 (by have h1 : Y.2.1.length ≤ SB.length := unhide HL2; have := unhide HLK; omega) _ hx
        rw [unhide HZ] at K4
        refine K4.mono ?_
        rintro e w7 ⟨rfl, hd7, hb7⟩
        have HD7 := hide hd7
        have HOWN7 := hide (row_beside (own_after (unhide HOWN5) (unhide HB6)) hb7 (by have := unhide HQ2; omega))
        have HR57 := hide (((unhide HR55).after (unhide HB6)).beside hb7 (by have := unhide HQ2; omega))
        have HR87 := hide ((unhide HR86).beside hb7 (by have := unhide HSZ5; have := unhide HQ2; omega))
        have HLT7 : Hid (∀ g, l.ownBlock = some g → g < w5.heap.size) := hide fun g hg => (own_lt (unhide HOWN5) g hg).2
        have HSZ7 := hide (Nat.le_trans (unhide HSZ5) (Nat.le_trans (unhide HB6).size hb7.size))
        clear hd7 hb7 K4 HR86 HR55 HB6
        have HDX : Hid (Digs [(str Y.1, Z.1)]) := hide fun x hx => by rw [List.mem_singleton.1 hx]; exact unhide HZD
        have HDD : Hid (Digs (XK ++ [(str Y.1, Z.1)])) := hide fun x hx => by
          rcases List.mem_append.1 hx with h | h
          · exact unhide HKD x h
          · exact unhide HDX x h
        go_wp2_with (first
          | ((with_reducible refine atS_dig ?_); refine store_dig (by rfl) (.tmp 35) (.tmp 34) (by rfl) w5.heap.size (by rfl) Z.1 (by rfl) (unhide HZD) (unhide HR87) rfl ?_; intro w8 hr8 ho8; have HR88 := hide hr8; have HO8 := hide ho8; have HR58 := hide ((unhide HR57).only ho8 (by have := unhide HSZ5; omega)); have x1 := (unhide HR58).cell 1 _ rfl; have HOWN8 := hide (own_kept (unhide HOWN7) fun g hg => ho8.block g (by have := unhide HLT7 g hg; omega)); have HD8 := hide ((unhide HD7).only ho8 (by have := unhide HSZ5; omega) (by have := unhide HSZ5; have := unhide HQ2; omega)); have HSZ8 := hide ho8.size; clear hr8 ho8)
          | (refine load_kid (by rfl) (.tmp 8) (by rfl) w5.heap.size 0 (by rfl) (str Y.1, Z.1) (unhide HR88).range (unhide HZD) ?_)
          | ((with_reducible refine at_sliceK ?_); refine step_sliceK (by rfl) (.tmp 38) (by rfl) (str Y.1, Z.1) (by rfl) (unhide HZD) ?_)
          | (at_builtin; refine append_kids rfl _ _ rfl (w2.heap.size + 1) _ XK rfl (own_after (unhide HOWN8) (below_alloc' _)) w8.heap.size 1 [(str Y.1, Z.1)] (unhide HDX) 0 rfl (kid_row (VRow.new w8 51 (kL (str Y.1, Z.1)))) (by simp; have := unhide HKL; omega) (by simp; have := unhide HSZ8; have := unhide HSZ7; omega) ?_; intro v9 w9 hown9 hb9 _; obtain ⟨b9, cap9, rfl, _, _, _⟩ := own_sk (unhide HDD) hown9; have HOWN9 := hide hown9; have HR59 := hide (((unhide HR58).after (below_alloc' _)).below hb9 (Nat.lt_succ_self _)); have HD9 := hide (((unhide HD8).after (below_alloc' _)).under (Nat.le_succ _) (by have := unhide HQ2; omega) hb9); have HSZ9 : Hid (w2.heap.size + 1 ≤ w9.heap.size) := hide (Nat.le_trans (by simp; have := unhide HSZ8; have := unhide HSZ7; omega) hb9.size); have x19 := (unhide HR59).cell 1 _ rfl; have f19 := (unhide HR59).frozen 1; clear hown9 hb9 x1))
        go_roundw
        case rel => exact ⟨k + 1, _, by omega, by go_num, (unhide HR59).set 1 _, by rw [unhide HX2]; have h9 := own_set (unhide HOWN9) (Nat.lt_succ_self _) 1 (.slice b9 (XK.length + 1) cap9); have el : (XK ++ [(str Y.1, Z.1)]).length = XK.length + 1 := (by simp); dsimp only; rw [el] at h9 ⊢; exact h9, by rw [unhide HX2]; exact (unhide HD9).only (only_set w9 w2.heap.size 1 _) (Nat.le_refl _) (by have := unhide HQ2; omega), by rw [(only_set w9 w2.heap.size 1 _).size]; exact unhide HSZ9⟩
        case measure => simp [intOf]; omega
      · obtain rfl : k = N := by omega
        have HKE := hide (unhide HKKk rfl)
        have HN1 : Hid (NN = ⟨L.1, XK⟩) := hide (by rw [unhide HRAW, unhide HKE])
        have HZ1 : Hid (ZZ = (SB, 0)) := hide (by rw [unhide HEND, unhide HKE])
        have KD := hide (refDoneR_any (w.heap.size + 1) (SB, 0) wr (unhide HD).1)
        rw [unhide HZ1] at HIS
        rw [unhide HN1] at HIS HNOK
        obtain ⟨b, d, e, hcd, hsk, hfr⟩ := own_sk (unhide HKD) (unhide HOWN)
        subst e
        have HAT : Hid (NdAt wr ⟨L.1, XK⟩ a c b d) := hide ⟨unhide HC, hcd, (unhide HSV).beside (unhide HPR) (unhide HD).2 (unhide HNQ), hsk⟩
        have HPRw := hide ((unhide HPR).beside (unhide HSV) (unhide HD).2 (unhide HNQ))
        have HFR := hide hfr
        have HRw := hide ((unhide HR2).beside (unhide HD).2 (by omega))
        have HBw := hide ((unhide HB2).trans ((unhide HD).below (unhide HB2).size (by omega)))
        generalize rDone (SB, 0) = ED at HIS KD
        clear hcd hsk hfr c1 HEARLY HLS HKKk HEA HX HKE
        go_wp2_with fail
        refine (unhide KD).mono ?_
        rintro e w5 ⟨rfl, rfl⟩
        by_cases hed : ED = 0
        · subst hed
          have HIS2 := hide (unhide HIS)
          rw [if_neg (by simp)] at HIS2
          have KC := hide (refCheckN_any a c b d ⟨L.1, XK⟩ (unhide HNOK) _ (unhide HAT))
          generalize chkN ⟨L.1, XK⟩ = EC at HIS2 KC
          clear HIS
          go_wp2_with (refine load_node (by rfl) (.tmp 5) (by rfl) w2.heap.size (by rfl) (ndL ⟨L.1, XK⟩ a c b d) (unhide HR5) rfl ?_)
          refine (unhide KC).mono ?_
          rintro e w6 ⟨rfl, hb6⟩
          have HAT6 := hide ((unhide HAT).after hb6)
          have HPR6 := hide ((unhide HPRw).after (unhide HAT).sv hb6)
          have HR56 := hide ((unhide HR5).after hb6)
          have HR6 := hide ((unhide HRw).after hb6)
          have HB6 := hide (below_grow (unhide HBw) (Nat.le_refl _) hb6)
          clear hb6
          by_cases hec : EC = 0
          · subst hec
            have HX := hide (unhide HIS2)
            rw [if_neg (by simp)] at HX
            clear HIS2
            go_wp2_with (first
              | (refine load_node (by rfl) (.tmp 5) (by rfl) w2.heap.size (by rfl) (ndL ⟨L.1, XK⟩ a c b d) (unhide HR56) rfl ?_)
              | (refine store_row (by rfl) 26 (.tmp 2) (.tmp 52) (by rfl) w.heap.size (ndL ⟨L.1, XK⟩ a c b d) (by rfl) (by rfl) 26 zeroN (unhide HR6) 2 sizeNd rfl rfl (ndL_one _ _ _ _ _) ?_; intro w9 ho9 hr9; have HO9 := hide ho9; have HR9 := hide hr9; clear ho9 hr9))
            refine bodyPost_ret (v := .tuple #[.agg (ndL ⟨L.1, XK⟩ a c b d).toArray, .int .i64 0]) ?_ rfl ?_
            · exact results_nodeD _ _ w.heap.size _ _ rfl rfl (unhide HR9) rfl
            · rw [unhide HX]
              exact ⟨a, c, b, d, rfl, ⟨(unhide HAT6).vc, (unhide HAT6).kc, (unhide HAT6).sv.beside (unhide HPR6) (unhide HO9).beside (unhide HNW), (unhide HAT6).sk.only (unhide HO9) (fun ad e h0 => by have h1 := unhide HFR ad e h0; have := unhide HQ2; omega)⟩, (unhide HB6).trans ((unhide HO9).below (Nat.le_refl _))⟩
          · have HX := hide (unhide HIS2)
            rw [if_pos hec] at HX
            have e2 : (EC != 0) = true := bne_iff_ne.2 hec
            clear HIS2
            go_wp2_with (refine store_row (by rfl) 26 (.tmp 2) (.tmp 50) (by rfl) w.heap.size zeroN (by rfl) (by rfl) 26 zeroN (unhide HR6) 2 sizeNd rfl rfl (ndL_one ⟨[], []⟩ none 0 none 0) ?_; intro w9 ho9 hr9; have HO9 := hide ho9; have HR9 := hide hr9; clear ho9 hr9)
            refine bodyPost_ret (v := .tuple #[.agg zeroN.toArray, .int .i64 EC]) ?_ rfl ?_
            · exact results_nodeD _ _ w.heap.size _ _ rfl rfl (unhide HR9) rfl
            · rw [unhide HX]
              exact ⟨none, 0, none, 0, rfl, ⟨Nat.le_refl _, Nat.le_refl _, SV.none _ _, SK.none _ _⟩, (unhide HB6).trans ((unhide HO9).below (Nat.le_refl _))⟩
        · have HX := hide (unhide HIS)
          rw [if_pos hed] at HX
          have e1 : (ED == 0) = false := by simp [hed]
          have e2 : (ED != 0) = true := bne_iff_ne.2 hed
          clear HIS
          go_wp2_with (refine store_row (by rfl) 26 (.tmp 2) (.tmp 50) (by rfl) w.heap.size zeroN (by rfl) (by rfl) 26 zeroN (unhide HRw) 2 sizeNd rfl rfl (ndL_one ⟨[], []⟩ none 0 none 0) ?_; intro w9 ho9 hr9; have HO9 := hide ho9; have HR9 := hide hr9; clear ho9 hr9)
          refine bodyPost_ret (v := .tuple #[.agg zeroN.toArray, .int .i64 ED]) ?_ rfl ?_
          · exact results_nodeD _ _ w.heap.size _ _ rfl rfl (unhide HR9) rfl
          · rw [unhide HX]
            exact ⟨none, 0, none, 0, rfl, ⟨Nat.le_refl _, Nat.le_refl _, SV.none _ _, SK.none _ _⟩, (unhide HBw).trans ((unhide HO9).below (Nat.le_refl _))⟩
    · have HZ1 : Hid (ZZ = (SB, SE)) := hide (by rw [unhide HEND, unhide HEA he])
      have KD := hide (refDoneR_any (w.heap.size + 1) (SB, SE) wr (unhide HD).1)
      rw [rDone_bad (st := (SB, SE)) he] at KD
      have HX : Hid (X = (⟨[], []⟩, SE)) := hide (by
        have h := unhide HIS
        rw [unhide HZ1, rDone_bad (st := (SB, SE)) he, if_pos he] at h
        exact h)
      have HRw := hide ((unhide HR2).beside (unhide HD).2 (by omega))
      have HBw := hide ((unhide HB2).trans ((unhide HD).below (unhide HB2).size (by omega)))
      have e1 : (SE == 0) = false := by simp [he]
      have e2 : (SE != 0) = true := bne_iff_ne.2 he
      dsimp only at KD
      clear HIS HEARLY HLS HKKk HEA HZ1
      by_cases hlt : k < N
      · go_wp2_with fail
        refine (unhide KD).mono ?_
        rintro e w5 ⟨rfl, rfl⟩
        go_wp2_with (refine store_row (by rfl) 26 (.tmp 2) (.tmp 50) (by rfl) w.heap.size zeroN (by rfl) (by rfl) 26 zeroN (unhide HRw) 2 sizeNd rfl rfl (ndL_one ⟨[], []⟩ none 0 none 0) ?_; intro w9 ho9 hr9; have HO9 := hide ho9; have HR9 := hide hr9; clear ho9 hr9)
        refine bodyPost_ret (v := .tuple #[.agg zeroN.toArray, .int .i64 SE]) ?_ rfl ?_
        · exact results_nodeD _ _ w.heap.size _ _ rfl rfl (unhide HR9) rfl
        · rw [unhide HX]
          exact ⟨none, 0, none, 0, rfl, ⟨Nat.le_refl _, Nat.le_refl _, SV.none _ _, SK.none _ _⟩, (unhide HBw).trans ((unhide HO9).below (Nat.le_refl _))⟩
      · go_wp2_with fail
        refine (unhide KD).mono ?_
        rintro e w5 ⟨rfl, rfl⟩
        go_wp2_with (refine store_row (by rfl) 26 (.tmp 2) (.tmp 50) (by rfl) w.heap.size zeroN (by rfl) (by rfl) 26 zeroN (unhide HRw) 2 sizeNd rfl rfl (ndL_one ⟨[], []⟩ none 0 none 0) ?_; intro w9 ho9 hr9; have HO9 := hide ho9; have HR9 := hide hr9; clear ho9 hr9)
        refine bodyPost_ret (v := .tuple #[.agg zeroN.toArray, .int .i64 SE]) ?_ rfl ?_
        · exact results_nodeD _ _ w.heap.size _ _ rfl rfl (unhide HR9) rfl
        · rw [unhide HX]
          exact ⟨none, 0, none, 0, rfl, ⟨Nat.le_refl _, Nat.le_refl _, SV.none _ _, SK.none _ _⟩, (unhide HBw).trans ((unhide HO9).below (Nat.le_refl _))⟩
end Go.Proofs.YthchcjjpplcfnaaGreat
