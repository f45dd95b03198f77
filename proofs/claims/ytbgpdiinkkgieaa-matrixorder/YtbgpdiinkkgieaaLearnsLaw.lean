/-
  What any facts come to, one behind the other: the law's walk.
-/
import Derived.Test.YtbgpdiinkkgieaaUno
import Derived.Deep.RegionHeld3
namespace Go.Proofs.Ytbgpdiinkkgieaa
open Go.RowKit

theorem make_rows (n : Nat) (hn : n ≤ 64) (w : World) : ∃ wm, (Instr.makeSlice 30 (.int .i64 n) (.int .i64 n)).run Try.prog w = .ok (.slice (some ⟨w.heap.size, 0, none⟩) n n) wm ∧ RL wm (some ⟨w.heap.size, 0, none⟩) (List.replicate n []) ∧ Below w.heap.size w wm := by
  obtain ⟨i0, hi, hz0, hz1, hz2⟩ := info_parts info32
  have hr := run_make (P := Try.prog) w 30 32 i0 (.slice none 0 0) Try.underlying30 hi hz0 .i64 .i64 n n (by omega) (by omega) (by rw [hz2]; omega) (by omega)
  rw [hz1] at hr
  simp only [Int.toNat_natCast, Nat.mul_one] at hr
  refine ⟨_, hr, fun h0 => ⟨w.heap.size, 0, rfl, by simp, fun j ds hj => ?_⟩, below_alloc' _⟩
  have hjn : j < n := by have := (List.getElem?_eq_some_iff.1 hj).1; simpa using this
  obtain rfl : ds = [] := (List.mem_replicate.1 (List.mem_of_getElem? hj)).2
  refine ⟨none, 0, ?_, Nat.le_refl _, Sl.none _ _⟩
  rw [Nat.zero_add, cell_of_row _ w.heap.size j (madeCells (Value.slice none 0 0).cells n) 32 (0, 0) (heap_alloc_new w _)]
  simp [madeCells, hjn, Value.cells, Nat.mod_one]

set_option maxRecDepth 100000 in
set_option maxHeartbeats 4000000 in
theorem learnsLaw_any {M} (P : Prg M) (peers : Int) (a : Option Addr) (cap : Nat) (fs : List Fc) (ap ac : Int) (w : World) (h : FL w a fs) :
    Calls Try.prog 3 #[.int .i64 peers, .slice a fs.length cap, .agg #[.int .i64 ap, .int .i64 ac]] w fun e w' => e = .returned (.bool true) ∧ Below w.heap.size w w' := by
  have PP := hide P
  obtain ⟨wb, hwb⟩ : ∃ W, W = w.alloc (.cells #[.int .i64 ap, .int .i64 ac] 24) := ⟨_, rfl⟩
  have HB0 : Hid (Below w.heap.size w wb) := hide (by rw [hwb]; exact below_alloc' _)
  have HS : Hid (FL wb a fs) := hide (h.after (unhide HB0))
  have HBX : Hid (wb.cell? ⟨w.heap.size, 0, none⟩ = some (.int .i64 ap) ∧ wb.cell? ⟨w.heap.size, 1, none⟩ = some (.int .i64 ac) ∧ w.heap.size < wb.heap.size) := hide (by
    have hr := VRow.new w 24 [.int .i64 ap, .int .i64 ac]
    rw [hwb]
    exact ⟨hr.cell 0 _ rfl, hr.cell 1 _ rfl, hr.lt⟩)
  have KG := hide (great_any a cap fs wb (unhide HS))
  clear P h
  go_enter Try.func3, Try.ntmps3
  go_wp2_with fail
  rw [← hwb]
  clear hwb
  refine (unhide KG).mono ?_
  rintro e w1 ⟨B, rfl, rfl, hB⟩
  clear KG
  cases B with
  | true =>
    clear hB
    go_wp2_with fail
    refine (awake_any (unhide PP) _).mono ?_
    rintro e w8 ⟨rfl, hb⟩
    have HB := hide (below_grow (unhide HB0) (Nat.le_refl _) hb)
    clear hb
    go_wp2_with fail
    go_ret
    exact ⟨rfl, unhide HB⟩
  | false =>
    have HSM := hide (hB rfl)
    clear hB
    by_cases hrange : peers < 1 ∨ 64 < peers
    · have K1 := hide ((unhide PP).newNil peers w1 hrange)
      have HD : (decide (peers < 1) = true) ∨ (decide (peers < 1) = false ∧ decide (64 < peers) = true) := by
        by_cases h1 : peers < 1
        · exact .inl (decide_eq_true h1)
        · exact .inr ⟨decide_eq_false h1, decide_eq_true (by omega)⟩
      clear hrange
      go_wp2_with fail
      refine (unhide K1).mono ?_
      rintro e w2 ⟨rfl, hb⟩
      replace HB0 := hide (below_grow (unhide HB0) (Nat.le_refl _) hb)
      clear hb K1
      rcases HD with h1 | ⟨h1, h2⟩
      all_goals
        go_wp2_with fail
        refine (awake_any (unhide PP) _).mono ?_
        rintro e w8 ⟨rfl, hb⟩
        replace HB0 := hide (below_grow (unhide HB0) (Nat.le_refl _) hb)
        clear hb
        go_wp2_with fail
        go_ret
        exact ⟨rfl, unhide HB0⟩
    · obtain ⟨n, rfl⟩ : ∃ n : Nat, peers = n := ⟨peers.toNat, by omega⟩
      have hn1 : 0 < n := by omega
      have hn64 : n ≤ 64 := by omega
      have h1 : decide ((n : Int) < 1) = false := decide_eq_false (by omega)
      have h2 : decide (64 < (n : Int)) = false := decide_eq_false (by omega)
      clear hrange
      have K1 := hide ((unhide PP).new n w1 hn1 hn64)
      go_wp2_with fail
      refine (unhide K1).mono ?_
      rintro e w2 ⟨p, own, rfl, hm, ho, hb⟩
      have K2 := hide ((unhide PP).peers hm)
      have HM := hide hm
      have HO := hide ho
      have HB := hide hb
      clear K1 hm ho hb
      go_wp2_with fail
      refine (unhide K2).mono ?_
      rintro e w3 ⟨rfl, hb⟩
      rw [List.length_replicate]
      replace HM := hide ((unhide PP).after (unhide HM) hb)
      replace HB := hide (below_grow (unhide HB) (Nat.le_refl _) hb)
      clear hb K2
      obtain ⟨wm, hmk, hrm, hbm⟩ := make_rows n hn64 w3
      have HU : Hid (Uno M w1 p (List.replicate n []) (some ⟨w3.heap.size, 0, none⟩) (List.replicate n []) wm) := hide ⟨own, (unhide PP).after (unhide HM) hbm, unhide HO, below_grow (unhide HB) (Nat.le_refl _) hbm, hrm, fun _ g o e => by
        injection e with e
        injection e with e1 e2
        subst e1
        refine ⟨fun h => Nat.lt_irrefl _ ((unhide PP).lt (unhide HM) _ h), fun j ds r c hj _ ad _ h0 => ?_⟩
        rw [(List.mem_replicate.1 (List.mem_of_getElem? hj)).2] at h0
        exact absurd h0 (Nat.lt_irrefl _)⟩
      clear hrm hbm HM HO HB
      obtain ⟨m, hm⟩ : ∃ m, fs.length = m := ⟨_, rfl⟩
      have HL := hide hm
      have hm40 : m ≤ 40 := by rw [← hm]; exact (unhide HSM).1
      rw [hm]
      clear hm
      generalize some (⟨w3.heap.size, 0, none⟩ : Addr) = r0 at HU hmk
      go_wp2_with fail
      clear hmk
      go_loopw [8, 9, 10, 11] (fun s i _ _ wr => ∃ (k : Nat) (r : Option Addr) (c : Nat) (cur : List (List Vc.D)), k ≤ m ∧ i = .int .i64 k ∧ s = .slice r n c ∧ Hid (cur.length = n ∧ n ≤ c ∧ Uno M w1 p cur r cur wr)) (fun _ i _ _ _ => m - (intOf i).toNat)
      case atStart => exact ⟨0, r0, n, List.replicate n [], Nat.zero_le _, rfl, rfl, hide ⟨List.length_replicate, Nat.le_refl _, unhide HU⟩⟩
      case round =>
        clear HU
        obtain ⟨k, r, c, cur, hk, rfl, rfl, HR⟩ := hrel
        by_cases hlt : k < m
        · obtain ⟨f, hf⟩ : ∃ f, fs[k]? = some f := ⟨_, List.getElem?_eq_getElem (by have := unhide HL; omega)⟩
          obtain ⟨g, o, rfl, hg, hcell⟩ := unhide HS (by have := unhide HL; omega)
          obtain ⟨q1, c1, q2, c2, x0, x1, x2, x3, hc1, hc2, s1, s2⟩ := hcell k f hf
          have HSM1 := hide ((unhide HSM).2 f (List.mem_of_getElem? hf))
          have hkz : decide ((k : Int) < (m : Int)) = true := decide_eq_true (by omega)
          have HN0 := hide (unhide HR).1
          have HU0 := hide (unhide HR).2.2
          have HC0 : Hid (cur.length ≤ c) := hide (by rw [(unhide HR).1]; exact (unhide HR).2.1)
          have HF0 := hide ((unhide HU0).few (unhide PP))
          have y2 : wr.cell? ⟨g, o + k * 4 + 2, none⟩ = some (.bool f.all) := ((unhide HU0).below.cell (p := ⟨g, o + k * 4 + 2, none⟩) hg).trans x2
          have H5 := hide ((unhide HU0).below.cell (p := ⟨g, o + k * 4 + 3, none⟩) hg)
          have C0 : Hid (∀ W, Below w1.heap.size w1 W → W.cell? ⟨g, o + k * 4, none⟩ = some (.int .i64 f.peer) ∧ W.cell? ⟨g, o + k * 4 + 1, none⟩ = some (.slice q1 f.v.length c1)) := hide (fun W hW => ⟨(hW.cell (p := ⟨g, o + k * 4, none⟩) hg).trans x0, (hW.cell (p := ⟨g, o + k * 4 + 1, none⟩) hg).trans x1⟩)
          have C3 : Hid (∀ W, Below w1.heap.size w1 W → W.cell? ⟨g, o + k * 4 + 3, none⟩ = some (.slice q2 f.rows.length c2)) := hide (fun W hW => (hW.cell (p := ⟨g, o + k * 4 + 3, none⟩) hg).trans x3)
          have S1 := hide s1
          have S2 := hide s2
          have HC1 := hide hc1
          have HC2 := hide hc2
          clear hcell hf hg x0 x1 x2 x3 hc1 hc2 s1 s2 H5 HR
          cases hall : f.all with
          | true =>
            rw [hall] at y2
            have HFM : Hid (FewR f.rows) := hide ⟨by have := (unhide HSM1).2.1; omega, fun ds hds => by have := (unhide HSM1).2.2 ds hds; omega⟩
            have y3 := unhide C3 wr (unhide HU0).below
            have K1 := hide (uno_merge (unhide PP) (unhide HU0) q2 c2 f.rows (unhide HFM) (unhide HC2) (unhide S2))
            have K2 := hide fun (R : List (List Vc.D)) W (h : Uno M w1 p R r cur W) => uno_refMerge (unhide PP) h c (unhide HC0) (unhide HF0) q2 c2 f.rows (unhide HFM) (unhide S2)
            have HN : Hid ((mergeL cur f.rows).1.length = n) := hide ((mergeL_len _ _).trans (unhide HN0))
            rw [unhide HN0] at K2
            generalize mergeL cur f.rows = X at K1 K2 HN
            obtain ⟨xr, xe⟩ := X
            go_wp2_with fail
            refine (unhide K1).mono ?_
            rintro e w4 ⟨rfl, hU⟩
            replace HU0 := hide hU
            clear y3 hU K1 y2
            have y3 := unhide C3 w4 (unhide HU0).below
            go_wp2_with fail
            refine (unhide K2 xr _ (unhide HU0)).mono ?_
            rintro e w5 ⟨r5, c5, rfl, hc5, hU⟩
            have HU := hide hU
            have HC5 := hide hc5
            clear y3 hU K2 hc5
            have HF := hide ((unhide HU).few (unhide PP))
            have KR := hide (uno_rows (unhide PP) (unhide HU))
            go_wp2_with fail
            refine (unhide KR).mono ?_
            rintro e w6 ⟨r6, c6, rfl, hs6, hb⟩
            replace HU := hide ((unhide HU).after (unhide PP) hb)
            have KS := hide (refSameR_any r6 r5 c6 c5 xr xr (unhide HF) (unhide HF) w6 hs6 (unhide HU).rl true (by simp))
            clear hs6 hb KR
            go_wp2_with fail
            refine (unhide KS).mono ?_
            rintro e w7 ⟨rfl, hb⟩
            replace HU := hide ((unhide HU).after (unhide PP) hb)
            have KT := hide (uno_stable (unhide PP) (unhide HU))
            have HSL : Hid ((stableL xr).length ≤ 64) := hide (stable_is xr).is
            have KX := hide fun W (h : RL W r5 xr) => refStable_any r5 c5 xr (unhide HF) W h
            generalize stableL xr = S at KT KX HSL
            clear hb KS
            go_wp2_with fail
            refine (unhide KT).mono ?_
            rintro e w8 ⟨r8, c8, rfl, hs8, hb⟩
            replace HU := hide ((unhide HU).after (unhide PP) hb)
            have H8 := hide hs8
            clear hs8 hb KT
            go_wp2_with fail
            refine (unhide KX _ (unhide HU).rl).mono ?_
            rintro e w9 ⟨r9, c9, rfl, _, hs9, hb⟩
            replace HU := hide ((unhide HU).after (unhide PP) hb)
            have KY := hide (refSame_any r8 r9 c8 c9 S S (by have := unhide HSL; omega) w9 ((unhide H8).after hb) hs9 true (by simp))
            clear hs9 hb KX H8
            go_wp2_with fail
            refine (unhide KY).mono ?_
            rintro e w10 ⟨rfl, hb⟩
            replace HU := hide ((unhide HU).after (unhide PP) hb)
            clear hb KY
            go_wp2_with fail
            go_roundw
            case rel => exact ⟨k + 1, r5, c5, xr, by omega, by go_num, by rw [unhide HN], hide ⟨unhide HN, by rw [← unhide HN]; exact unhide HC5, unhide HU⟩⟩
            case measure => simp [intOf]; omega
          | false =>
            rw [hall] at y2
            have KL := hide fun W (h : UnoX M w1 p cur r cur f.peer f.v W) => unoX_learn (unhide PP) h q1 c1 (by have := (unhide HSM1).1; omega) (unhide HC1) (unhide S1)
            have SB : Hid (∀ w', UnoX M w1 p cur r cur f.peer f.v w' → w'.cell? ⟨g, o + k * 4, none⟩ = some (.int .i64 f.peer) ∧ w'.cell? ⟨g, o + k * 4 + 1, none⟩ = some (.slice q1 f.v.length c1) ∧ UnoX M w1 p cur r cur f.peer f.v w') := hide (fun w' hw => ⟨(unhide C0 _ hw.below).1, (unhide C0 _ hw.below).2, hw⟩)
            have K2 := hide fun (R : List (List Vc.D)) W (h : Uno M w1 p R r cur W) => uno_refLearn (unhide PP) h c (unhide HC0) (unhide HF0) f.peer q1 c1 f.v (by have := (unhide HSM1).1; omega) (unhide S1)
            have HN : Hid ((learnL cur f.peer f.v).1.length = n) := hide ((learnL_len _ _ _).trans (unhide HN0))
            have HV := hide ((unhide HU0).vecs (unhide PP)).1
            rw [unhide HN0] at K2
            go_wp2_with fail
            clear y2
            go_region_held3 (fun w' => w'.cell? ⟨g, o + k * 4, none⟩ = some (.int .i64 f.peer) ∧ w'.cell? ⟨g, o + k * 4 + 1, none⟩ = some (.slice q1 f.v.length c1) ∧ UnoX M w1 p cur r cur f.peer f.v w')
              (first
                | exact unhide SB _ (UnoX.start (unhide PP) (unhide HU0) (below_drew (Below.refl _ _)) _ _)
                | exact unhide SB _ (UnoX.done (unhide HV) (by assumption)))
              (first
                | (go_at_call 12; refine (unhide KL _ (And.right (And.right (by assumption)))).mono ?_; rintro e w4 ⟨rfl, hU⟩))
            rename_i hHeld
            clear hHeld KL SB
            generalize learnL cur f.peer f.v = X at hU K2 HN ⊢
            obtain ⟨xr, xe⟩ := X
            replace HU0 := hide hU
            clear hU
            replace K2 := hide (unhide K2 xr)
            have SB2 : Hid (∀ w', Uno M w1 p xr r cur w' → w'.cell? ⟨g, o + k * 4, none⟩ = some (.int .i64 f.peer) ∧ w'.cell? ⟨g, o + k * 4 + 1, none⟩ = some (.slice q1 f.v.length c1) ∧ Uno M w1 p xr r cur w') := hide (fun w' hw => ⟨(unhide C0 _ hw.below).1, (unhide C0 _ hw.below).2, hw⟩)
            go_wp2_with fail
            go_region_held3 (fun w' => w'.cell? ⟨g, o + k * 4, none⟩ = some (.int .i64 f.peer) ∧ w'.cell? ⟨g, o + k * 4 + 1, none⟩ = some (.slice q1 f.v.length c1) ∧ Uno M w1 p xr r cur w')
              (first
                | exact unhide SB2 _ ((unhide HU0).after (unhide PP) (below_drew (Below.refl _ _)))
                | exact unhide SB2 _ (by assumption))
              (first
                | (go_at_call 13; refine (unhide K2 _ (And.right (And.right (by assumption)))).mono ?_; rintro e w5 ⟨r5, c5, rfl, hc5, hU, hU2⟩))
            rename_i hHeld
            clear hHeld K2 SB2 hU2
            have HU := hide hU
            have HC5 := hide hc5
            clear hU hc5 HU0
            have HF := hide ((unhide HU).few (unhide PP))
            have KR := hide (uno_rows (unhide PP) (unhide HU))
            go_wp2_with fail
            refine (unhide KR).mono ?_
            rintro e w6 ⟨r6, c6, rfl, hs6, hb⟩
            replace HU := hide ((unhide HU).after (unhide PP) hb)
            have KS := hide (refSameR_any r6 r5 c6 c5 xr xr (unhide HF) (unhide HF) w6 hs6 (unhide HU).rl true (by simp))
            clear hs6 hb KR
            go_wp2_with fail
            refine (unhide KS).mono ?_
            rintro e w7 ⟨rfl, hb⟩
            replace HU := hide ((unhide HU).after (unhide PP) hb)
            have KT := hide (uno_stable (unhide PP) (unhide HU))
            have HSL : Hid ((stableL xr).length ≤ 64) := hide (stable_is xr).is
            have KX := hide fun W (h : RL W r5 xr) => refStable_any r5 c5 xr (unhide HF) W h
            generalize stableL xr = S at KT KX HSL
            clear hb KS
            go_wp2_with fail
            refine (unhide KT).mono ?_
            rintro e w8 ⟨r8, c8, rfl, hs8, hb⟩
            replace HU := hide ((unhide HU).after (unhide PP) hb)
            have H8 := hide hs8
            clear hs8 hb KT
            go_wp2_with fail
            refine (unhide KX _ (unhide HU).rl).mono ?_
            rintro e w9 ⟨r9, c9, rfl, _, hs9, hb⟩
            replace HU := hide ((unhide HU).after (unhide PP) hb)
            have KY := hide (refSame_any r8 r9 c8 c9 S S (by have := unhide HSL; omega) w9 ((unhide H8).after hb) hs9 true (by simp))
            clear hs9 hb KX H8
            go_wp2_with fail
            refine (unhide KY).mono ?_
            rintro e w10 ⟨rfl, hb⟩
            replace HU := hide ((unhide HU).after (unhide PP) hb)
            clear hb KY
            go_wp2_with fail
            go_roundw
            case rel => exact ⟨k + 1, r5, c5, xr, by omega, by go_num, by rw [unhide HN], hide ⟨unhide HN, by rw [← unhide HN]; exact unhide HC5, unhide HU⟩⟩
            case measure => simp [intOf]; omega
        · obtain rfl : k = m := by omega
          have hkz : decide ((k : Int) < (k : Int)) = false := decide_eq_false (by omega)
          have HU := hide (unhide HR).2.2
          have HN := hide (unhide HR).1
          have SB : Hid (∀ w', Uno M w1 p cur r cur w' → w'.cell? ⟨w.heap.size, 0, none⟩ = some (.int .i64 ap) ∧ w'.cell? ⟨w.heap.size, 1, none⟩ = some (.int .i64 ac) ∧ Uno M w1 p cur r cur w') := hide (fun w' hw => by
            obtain ⟨h1, h2, h3⟩ := unhide HBX
            exact ⟨(hw.below.cell (p := ⟨w.heap.size, 0, none⟩) h3).trans h1, (hw.below.cell (p := ⟨w.heap.size, 1, none⟩) h3).trans h2, hw⟩)
          have K1 := hide fun W (h : Uno M w1 p cur r cur W) => uno_steady (unhide PP) h ap ac
          have K2 := hide fun W (h : Uno M w1 p cur r cur W) => refStable_any r c cur (h.few (unhide PP)) W h.rl
          rw [unhide HN] at K2
          have HSL : Hid ((stableL cur).length ≤ 64) := hide (stable_is cur).is
          have K3 := hide fun r' c' W h => refHas_any r' c' (stableL cur) (by have := unhide HSL; omega) ap ac W h
          generalize has (stableL cur) (ap, ac) = b at K1 K3
          generalize stableL cur = S at K2 K3 HSL
          clear HR
          go_wp2_with fail
          go_region_held3 (fun w' => w'.cell? ⟨w.heap.size, 0, none⟩ = some (.int .i64 ap) ∧ w'.cell? ⟨w.heap.size, 1, none⟩ = some (.int .i64 ac) ∧ Uno M w1 p cur r cur w')
            (first
              | exact unhide SB _ ((unhide HU).after (unhide PP) (below_drew (Below.refl _ _)))
              | exact unhide SB _ (uno_keep (unhide PP) (by assumption) (by assumption)))
            (first
              | (go_at_call 19; refine (unhide K1 _ (And.right (And.right (by assumption)))).mono ?_; rintro e w2 ⟨rfl, hb2⟩)
              | (go_at_call 18; refine (unhide K2 _ (And.right (And.right (by assumption)))).mono ?_; rintro e w3 ⟨r3, c3, rfl, _, hs3, hb3⟩)
              | (go_at_call 20; refine (unhide K3 r3 c3 _ hs3).mono ?_; rintro e w4 ⟨rfl, hb4⟩)
              | (go_at_call 7; refine (awake_any (unhide PP) _).mono ?_; rintro e w5 ⟨rfl, hb5⟩))
          go_wp2_with fail
          go_ret
          rename_i hHeld
          exact ⟨rfl, below_grow (unhide HB0) (Nat.le_refl _) hHeld.2.2.below⟩
end Go.Proofs.Ytbgpdiinkkgieaa
