/-
  What Add answers, the document's.
-/
import Derived.Test.YtpcfblpenealbaaAppSl
import Derived.Test.YtpcfblpenealbaaFill
namespace Go.Proofs.Ytpcfblpenealbaa
open Go.RowKit

theorem keep_alloc' {w w' : World} (h : Below w.heap.size w w') (o : Obj) : Below w.heap.size w (w'.alloc o) := h.alloc h.size o

/-- What the document's Add keeps while it goes on: the dot, the result, the set that is made. -/
structure Kept (w : World) (bO : Nat) (p c : Int) (rB : Option Addr) (cB : Nat) (B : List Vc.D) (rX : Option Addr) (cX : Nat) (X : List Vc.D) (W : World) : Prop where
  dot : VRow W (w.heap.size + 1) 26 [.int .i64 p, .int .i64 c]
  res : VRow W (w.heap.size + 1 + 1) 24 [.slice none 0 0, .slice none 0 0]
  out : VRow W bO 24 [.slice rB B.length cB, .slice rX X.length cX]
  lB : B.length ≤ cB
  lX : X.length ≤ cX
  sB : Sl W rB B
  sX : Sl W rX X
  bel : Below w.heap.size w W
  gt : w.heap.size + 1 + 1 < bO
theorem Kept.after {w W W' : World} {bO cB cX : Nat} {p c : Int} {rB rX : Option Addr} {B X : List Vc.D} (h : Kept w bO p c rB cB B rX cX X W) (hb : Below W.heap.size W W') : Kept w bO p c rB cB B rX cX X W' :=
  ⟨h.dot.after hb, h.res.after hb, h.out.after hb, h.lB, h.lX, h.sB.after hb, h.sX.after hb, below_grow h.bel (Nat.le_refl _) hb, h.gt⟩

set_option maxRecDepth 100000 in
set_option maxHeartbeats 16000000 in
theorem refAdd_any (r1 r2 : Option Addr) (c1 c2 : Nat) (B E : List Vc.D) (hB : B.length ≤ 90000) (hE : E.length ≤ 90000) (hc1 : B.length ≤ c1) (hc2 : E.length ≤ c2) (p c : Int) (w : World) (s1 : Sl w r1 B) (s2 : Sl w r2 E) :
    Calls Try.prog 21 #[.agg #[.slice r1 B.length c1, .slice r2 E.length c2], .agg #[.int .i64 p, .int .i64 c]] w (AddMade B E (p, c) w) := by
  have HB0 := hide (((below_alloc' (w := w) (.cells #[.slice r1 B.length c1, .slice r2 E.length c2] 24)).alloc (by simp) (.cells #[.int .i64 p, .int .i64 c] 26)).alloc (by simp; omega) (.cells #[.slice none 0 0, .slice none 0 0] 24))
  have RS := hide (((VRow.new w 24 [.slice r1 B.length c1, .slice r2 E.length c2]).alloc (.cells #[.int .i64 p, .int .i64 c] 26)).alloc (.cells #[.slice none 0 0, .slice none 0 0] 24))
  have RT := hide ((VRow.newAt (W := w.alloc (.cells #[.slice r1 B.length c1, .slice r2 E.length c2] 24)) (T := 26) (n := w.heap.size + 1) (vs := [.int .i64 p, .int .i64 c]) (by simp)).alloc (.cells #[.slice none 0 0, .slice none 0 0] 24))
  have RV := hide (VRow.newAt (W := (w.alloc (.cells #[.slice r1 B.length c1, .slice r2 E.length c2] 24)).alloc (.cells #[.int .i64 p, .int .i64 c] 26)) (T := 24) (n := w.heap.size + 1 + 1) (vs := [.slice none 0 0, .slice none 0 0]) (by simp))
  have S1 := hide (s1.after (unhide HB0))
  have S2 := hide (s2.after (unhide HB0))
  have KC := hide fun W h h' => refSetCheck_any r1 r2 c1 c2 B E (by omega) (by omega) W h h'
  have KD := hide fun W => refDot_any p c W
  have KH := hide fun W h h' => refSetHas_any r1 r2 c1 c2 B E (by omega) (by omega) p c W h h'
  have rs0 := (unhide RS).cell 0 _ rfl
  have rs1 := (unhide RS).cell 1 _ rfl
  clear s1 s2
  by_cases hgood : Vc.checkS B E = 0 ∧ Vc.dotErr (p, c) = 0 ∧ ¬ Vc.In B E (p, c)
  · obtain ⟨hz, he, hni⟩ := hgood
    have hs := (Vc.checkS_zero B E).1 hz
    have hok := (Vc.dotErr_zero (p, c)).1 he
    rw [hz] at KC
    rw [he] at KD
    rw [show hasS B E (p, c) = false by unfold hasS; exact decide_eq_false fun h => hni h.2] at KH
    have HGOOD := hide (show Vc.checkS B E = 0 ∧ Vc.dotErr (p, c) = 0 ∧ ¬ Vc.In B E (p, c) from ⟨hz, he, hni⟩)
    have HS := hide hs
    have HOK := hide hok
    clear hz he hni hs hok
    go_enter Try.func21, Try.ntmps21
    go_wp2_with fail
    generalize ((w.alloc (.cells #[.slice r1 B.length c1, .slice r2 E.length c2] 24)).alloc (.cells #[.int .i64 p, .int .i64 c] 26)).alloc (.cells #[.slice none 0 0, .slice none 0 0] 24) = w0 at HB0 RS RT RV S1 S2 rs0 rs1 ⊢
    refine (unhide KC _ (unhide S1) (unhide S2)).mono ?_
    rintro e w1 ⟨rfl, hb⟩
    replace HB0 := hide (below_grow (unhide HB0) (Nat.le_refl _) hb)
    replace RS := hide ((unhide RS).after hb)
    replace RT := hide ((unhide RT).after hb)
    replace RV := hide ((unhide RV).after hb)
    replace S1 := hide ((unhide S1).after hb)
    replace S2 := hide ((unhide S2).after hb)
    clear hb rs0 rs1
    have rt0 := (unhide RT).cell 0 _ rfl
    have rt1 := (unhide RT).cell 1 _ rfl
    go_wp2_with fail
    refine (unhide KD _).mono ?_
    rintro e w2 ⟨rfl, hb⟩
    replace HB0 := hide (below_grow (unhide HB0) (Nat.le_refl _) hb)
    replace RS := hide ((unhide RS).after hb)
    replace RT := hide ((unhide RT).after hb)
    replace RV := hide ((unhide RV).after hb)
    replace S1 := hide ((unhide S1).after hb)
    replace S2 := hide ((unhide S2).after hb)
    clear hb rt0 rt1
    have rs0 := (unhide RS).cell 0 _ rfl
    have rs1 := (unhide RS).cell 1 _ rfl
    have rt0 := (unhide RT).cell 0 _ rfl
    have rt1 := (unhide RT).cell 1 _ rfl
    go_wp2_with fail
    refine (unhide KH _ (unhide S1) (unhide S2)).mono ?_
    rintro e w3 ⟨rfl, hb⟩
    replace HB0 := hide (below_grow (unhide HB0) (Nat.le_refl _) hb)
    replace RS := hide ((unhide RS).after hb)
    replace RT := hide ((unhide RT).after hb)
    replace RV := hide ((unhide RV).after hb)
    replace S1 := hide ((unhide S1).after hb)
    replace S2 := hide ((unhide S2).after hb)
    clear hb rs0 rs1 rt0 rt1
    have HBe := hide (below_alloc' (w := w3) (.cells #[] 26))
    have HOe := hide (World.ownsRow_lit (base := w3.heap.size) (e := 26) (size := 2) w3 #[] 0 (Nat.le_refl _) (by unfold maxLen; omega) rfl)
    have rs0 : (w3.alloc (.cells #[] 26)).cell? ⟨w.heap.size, 0, none⟩ = some (.slice r1 B.length c1) := ((unhide RS).after (unhide HBe)).cell 0 _ rfl
    have hw3 : w.heap.size + 1 + 1 < w3.heap.size := (unhide RV).lt
    go_wp2_with (first
      | (at_builtin; refine append_sl (by rfl) _ _ (by rfl) w3.heap.size _ [] (by rfl) (unhide HOe) _ _ B (by rfl) ((unhide S1).after (unhide HBe)) (by simp; omega) (by simp) ?_; intro v' w4 hown' hb2; rw [List.nil_append] at hown'; obtain ⟨rB, cB, rfl, hcB4, hslB⟩ := own_sl rfl hown'; have SB := hide hslB; have hb4 := (unhide HBe).trans hb2; replace HB0 := hide (below_grow (unhide HB0) (Nat.le_refl _) hb4); replace RS := hide ((unhide RS).after hb4); replace RT := hide ((unhide RT).after hb4); replace RV := hide ((unhide RV).after hb4); replace S2 := hide ((unhide S2).after hb4); have hw4 := hb4.size; clear hb2 hb4 hown' hslB rs0)
      | (refine store_row (by rfl) 24 _ _ (by rfl) w4.heap.size [.slice rB B.length cB, .slice none 0 0] (by rfl) (by rfl) 24 [.slice none 0 0, .slice none 0 0] (VRow.newAt rfl) 2 size24 rfl rfl (two_one _ _ _ _ _ _) ?_; intro w5 ho hr; have hb5 := (below_alloc' (w := w4) (.cells #[.slice none 0 0, .slice none 0 0] 24)).trans (ho.below (Nat.le_refl _)); replace HB0 := hide (below_grow (unhide HB0) (Nat.le_refl _) hb5); replace RS := hide ((unhide RS).after hb5); replace RT := hide ((unhide RT).after hb5); replace RV := hide ((unhide RV).after hb5); replace S2 := hide ((unhide S2).after hb5); replace SB := hide ((unhide SB).after hb5); have RO := hide hr; clear ho hr hb5))
    have hKept : Hid (Kept w w4.heap.size p c rB cB B none 0 [] w5) := hide ⟨unhide RT, unhide RV, unhide RO, hcB4, Nat.le_refl _, unhide SB, Sl.none _ _, unhide HB0, by omega⟩
    have SB5 : Hid (∀ w', Below w5.heap.size w5 w' → w'.cell? ⟨w.heap.size, 1, none⟩ = some (.slice r2 E.length c2) ∧ w'.cell? ⟨w.heap.size + 1, 0, none⟩ = some (.int .i64 p) ∧ w'.cell? ⟨w.heap.size + 1, 1, none⟩ = some (.int .i64 c) ∧ Below w5.heap.size w5 w') :=
      hide (fun w' hb => ⟨((unhide RS).after hb).cell 1 _ rfl, ((unhide RT).after hb).cell 0 _ rfl, ((unhide RT).after hb).cell 1 _ rfl, hb⟩)
    have e1 : (w5.alloc (.cells #[] 26)).ownsRow w5.heap.size 26 2 (.slice (some ⟨w5.heap.size, 0, none⟩) 0 0) ([] : List Vc.D).length (flat []) := World.ownsRow_lit (base := w5.heap.size) (e := 26) (size := 2) w5 #[] 0 (Nat.le_refl _) (by unfold maxLen; omega) rfl
    have e2 := e1.alloc (.cells #[.int .i64 p, .int .i64 c] 26)
    have e3 : ((w5.alloc (.cells #[.int .i64 p, .int .i64 c] 26)).alloc (.cells #[] 26)).ownsRow w5.heap.size 26 2 (.slice (some ⟨w5.heap.size + 1, 0, none⟩) 0 0) ([] : List Vc.D).length (flat []) := by
      have h := World.ownsRow_lit (base := w5.heap.size) (e := 26) (size := 2) (w5.alloc (.cells #[.int .i64 p, .int .i64 c] 26)) #[] 0 (by simp) (by unfold maxLen; omega) rfl
      rw [World.size_alloc] at h
      exact h
    have g2 : VRow ((w5.alloc (.cells #[] 26)).alloc (.cells #[.int .i64 p, .int .i64 c] 26)) (w5.heap.size + 1) 26 [.int .i64 p, .int .i64 c] := VRow.newAt (by simp)
    have g3 : VRow ((w5.alloc (.cells #[.int .i64 p, .int .i64 c] 26)).alloc (.cells #[] 26)) w5.heap.size 26 [.int .i64 p, .int .i64 c] := (VRow.new w5 26 _).alloc _
    have E1 := hide e1
    have E2 := hide e2
    have E3 := hide e3
    have G2 := hide g2
    have G3 := hide g3
    clear e1 e2 e3 g2 g3
    go_wp2_with fail
    go_region_held3 (fun w' => w'.cell? ⟨w.heap.size, 1, none⟩ = some (.slice r2 E.length c2) ∧ w'.cell? ⟨w.heap.size + 1, 0, none⟩ = some (.int .i64 p) ∧ w'.cell? ⟨w.heap.size + 1, 1, none⟩ = some (.int .i64 c) ∧ Below w5.heap.size w5 w')
      (first
        | exact unhide SB5 _ (below_drew (Below.refl _ _))
        | exact unhide SB5 _ (keep_alloc' (And.right (And.right (And.right (by assumption)))) _)
        | exact unhide SB5 _ (Below.trans (And.right (And.right (And.right (by assumption)))) (by assumption)))
      (first
        | ((refine step_append_sl (by rfl) _ _ (by rfl) w5.heap.size _ [] (by rfl) (by first | exact unhide E1 | exact unhide E2 | exact unhide E3) _ _ E (by rfl) ((unhide S2).after (And.right (And.right (And.right (by assumption))))) (by simp; omega) (Below.size (And.right (And.right (And.right (by assumption))))) ?_; intro v7 w7 hown7 hb7 hk7; rw [List.nil_append] at hown7; have d7 : True ∨ VRow w7 (w5.heap.size + 1) 26 [.int .i64 p, .int .i64 c] ∨ VRow w7 w5.heap.size 26 [.int .i64 p, .int .i64 c] := .inl trivial; first | (replace d7 : VRow w7 (w5.heap.size + 1) 26 [.int .i64 p, .int .i64 c] := (hk7 _ (unhide G2).lt (show some (w5.heap.size + 1) ≠ some w5.heap.size by simp)).trans (unhide G2)) | (replace d7 : VRow w7 w5.heap.size 26 [.int .i64 p, .int .i64 c] := (by refine Eq.trans (hk7 w5.heap.size (unhide G3).lt ?_) (unhide G3); intro h; injection h with h; exact absurd (show w5.heap.size = w5.heap.size + 1 from h) (by omega))) | skip))
        | ((refine step_append_sl (by rfl) _ _ (by rfl) w5.heap.size _ E (by rfl) (by first | exact hown7 | exact hown7.alloc _) _ _ [(p, c)] (by rfl) (by first | exact sl_row (by assumption) | exact one_sl1 _ _ _) (by simp; omega) (Below.size (And.right (And.right (And.right (by assumption))))) ?_; intro v8 w8 hown8 hb8 hk8; clear hk8)))
    all_goals rename_i hHeld
    all_goals have hb58 := hHeld.2.2.2
    all_goals clear hHeld
    all_goals obtain ⟨rA, cA, rfl, hcA, hslA⟩ := own_sl rfl hown8
    all_goals have SA := hide hslA
    all_goals have HK := hide ((unhide hKept).after hb58)
    all_goals clear hslA hown8 hb8 hown7 hb7 hk7 hb58 hKept E1 E2 E3 G2 G3 SB5
    all_goals clear d7
    all_goals clear RS RT RV RO S1 S2 SB HB0 HBe HOe KC KD KH
    all_goals go_wp2_with fail
    all_goals
      obtain ⟨A, hA⟩ : ∃ A, E ++ [(p, c)] = A := ⟨_, rfl⟩
      have hAl : A.length ≤ 90001 := by rw [← hA]; simp; omega
      have HAL2 : Hid (A.length = E.length + 1) := hide (by rw [← hA]; simp)
      have HND : Hid (∀ k d, A[k]? = some d → d ∉ A.take k ∧ Vc.Ah Vc.d0 d) := hide (by
        intro k d hd
        have hnin : (p, c) ∉ E := fun h => (unhide HGOOD).2.2 (.inr h)
        rw [← hA] at hd ⊢
        rcases Nat.lt_or_ge k E.length with hk | hk
        · rw [List.getElem?_append_left hk] at hd
          rw [List.take_append_of_le_length (by omega)]
          exact ⟨Vc.ris_take (unhide HS).ris hd, Vc.d0_ok ((unhide HS).ok _ (List.mem_of_getElem? hd))⟩
        · have hk2 := (List.getElem?_eq_some_iff.1 hd).1
          simp at hk2
          obtain rfl : k = E.length := by omega
          rw [List.getElem?_append_right (Nat.le_refl _), Nat.sub_self] at hd
          simp at hd
          subst hd
          rw [List.take_append_of_le_length (Nat.le_refl _), List.take_length]
          exact ⟨hnin, Vc.d0_ok (unhide HOK)⟩)
      have HAM : Hid (∀ x, x ∈ A ↔ x ∈ E ∨ x = (p, c)) := hide (fun x => by rw [← hA]; simp)
      rw [hA] at SA hcA ⊢
      clear hA
      generalize w4.heap.size = bO at HK ⊢
      go_loopw [8] (fun i wr => ∃ (k : Nat) (rX : Option Addr) (cX : Nat) (X : List Vc.D), k ≤ A.length ∧ i = .int .i64 k ∧ Kept w bO p c rB cB B rX cX X wr ∧ Vc.Ris Vc.d0 X ∧ (∀ x, x ∈ X ↔ x ∈ A.take k) ∧ X.length ≤ k ∧ Sl wr rA A) (fun i _ => A.length - (intOf i).toNat)
      case atStart => exact ⟨0, none, 0, [], Nat.zero_le _, rfl, unhide HK, trivial, fun x => by simp, Nat.le_refl _, unhide SA⟩
      case round =>
        clear HK SA
        obtain ⟨k, rX, cX, X, hk, rfl, hkept, hxr, hxm, hxl, hsa⟩ := hrel
        have HXR := hide hxr
        have HXM := hide hxm
        have hlX := hkept.lX
        have HKa := hide hkept
        have SAa := hide hsa
        clear hxr hxm hkept
        by_cases hlt : k < A.length
        · obtain ⟨⟨pd, cd⟩, hx⟩ : ∃ d, A[k]? = some d := ⟨_, List.getElem?_eq_getElem hlt⟩
          obtain ⟨gA, oA, rfl, _, _⟩ := id hsa (by omega)
          have HX := hide hx
          clear hx hsa
          generalize wr = wa at HKa SAa ⊢
          go_wp2_with fail
          go_loopw [9] (fun i wv => ∃ (m : Nat), m ≤ X.length ∧ i = .int .i64 m ∧ (∀ t x, t < m → X[t]? = some x → Vc.Ah x (pd, cd)) ∧ Below wa.heap.size wa wv) (fun i _ => X.length - (intOf i).toNat)
          case atStart => exact ⟨0, Nat.zero_le _, rfl, fun t x h => absurd h (Nat.not_lt_zero _), Below.refl _ _⟩
          case round =>
            obtain ⟨m, hm, rfl, hah, hb⟩ := hrel
            have HAH := hide hah
            have HB := hide hb
            have HKb := hide ((unhide HKa).after hb)
            have SAb := hide ((unhide SAa).after hb)
            have y1 := (unhide HKb).out.cell 1 _ rfl
            have fa0 : wr.cell? ⟨gA, oA + k * 2, none⟩ = some (.int .i64 pd) := by obtain ⟨_, _, e, _, hc⟩ := unhide SAb (by omega); cases e; exact (hc k _ (unhide HX)).1
            have fa1 : wr.cell? ⟨gA, oA + k * 2 + 1, none⟩ = some (.int .i64 cd) := by obtain ⟨_, _, e, _, hc⟩ := unhide SAb (by omega); cases e; exact (hc k _ (unhide HX)).2
            clear hah hb
            by_cases hml : m < X.length
            · obtain ⟨⟨px, cx⟩, hxx⟩ : ∃ x, X[m]? = some x := ⟨_, List.getElem?_eq_getElem hml⟩
              obtain ⟨gX, oX, rfl, _, hcX⟩ := id (unhide HKb).sX (by omega)
              have x0 : wr.cell? ⟨gX, oX + m * 2, none⟩ = some (.int .i64 px) := (hcX m _ hxx).1
              have x1 : wr.cell? ⟨gX, oX + m * 2 + 1, none⟩ = some (.int .i64 cx) := (hcX m _ hxx).2
              have u0 := cell_regrown x0
              have u1 := cell_regrown x1
              have u2 := cell_regrown fa0
              have u3 := cell_regrown fa1
              have u4 := cell_regrown y1
              have hmi : decide ((m : Int) < (X.length : Int)) = true := decide_eq_true (by omega)
              have KP := hide (ahead_any px cx pd cd)
              by_cases hR : Vc.Ah (px, cx) (pd, cd)
              · rw [decide_eq_true hR] at KP
                have HAH2 : Hid (∀ t x, t < m + 1 → X[t]? = some x → Vc.Ah x (pd, cd)) := hide (fun t x ht htx => by
                  by_cases e : t = m
                  · subst e
                    rw [hxx] at htx
                    cases htx
                    exact hR
                  · exact unhide HAH t x (by omega) htx)
                clear hxx hcX hR x0 x1
                go_wp2_with fail
                refine wp_region_quiet_below (by kernel_rfl) (by kernel_rfl) ?_
                repeat (quiet_step (first | (go_at_call 33; exact Calls.regrown_of (unhide KP _))))
                refine wpQuiet_nil ?_
                intro _ hw'
                obtain ⟨⟨dq, osq⟩, hw''⟩ := hw'
                subst hw''
                go_wp2_with fail
                go_roundw
                case rel => exact ⟨m + 1, by omega, by go_num, unhide HAH2, (unhide HB).trans ((below_regrown _ _ _).mono (unhide HB).size)⟩
                case measure => simp [intOf]; omega
              · rw [decide_eq_false hR] at KP
                have HAHm : Hid (∀ x ∈ X.take m, Vc.Ah x (pd, cd)) := hide (fun x hx => by
                  obtain ⟨t, ht⟩ := List.getElem?_of_mem hx
                  have htl := (List.getElem?_eq_some_iff.1 ht).1
                  rw [List.length_take] at htl
                  rw [List.getElem?_take_of_lt (by omega)] at ht
                  exact unhide HAH t x (by omega) ht)
                have HNAm : Hid (∀ e, X[m]? = some e → ¬ Vc.Ah e (pd, cd)) := hide (fun e he => by rw [hxx] at he; cases he; exact hR)
                clear hxx hcX hR x0 x1
                go_wp2_with fail
                refine wp_region_quiet_below (by kernel_rfl) (by kernel_rfl) ?_
                repeat (quiet_step (first | (go_at_call 33; exact Calls.regrown_of (unhide KP _))))
                refine wpQuiet_nil ?_
                intro _ hw'
                obtain ⟨⟨dq, osq⟩, hw''⟩ := hw'
                subst hw''
                have HKv := hide ((unhide HKb).after (below_regrown wr dq osq))
                have SAv := hide ((unhide SAb).after (below_regrown wr dq osq))
                have f0 := cell_regrown fa0 dq osq
                have f1 := cell_regrown fa1 dq osq
                clear u0 u1 u2 u3 u4 y1 fa0 fa1 HKb SAb HB
                generalize Go.Sort.grow (redrawn wr dq) osq = wv at HKv SAv f0 f1 ⊢
                obtain ⟨A1, a1, hst, hst2⟩ := slice_to (some ⟨gX, oX, none⟩) X cX m (by omega) hlX
                obtain ⟨A2, a2, hsf, hsf2⟩ := slice_from (some ⟨gX, oX, none⟩) X cX m (by omega) hlX
                have hyz : (X.take m).length + (X.drop m).length = X.length := by simp; omega
                have hnd := unhide HND k (pd, cd) (unhide HX)
                have HP1 := hide (Vc.put_ris (unhide HXR) hnd.2 (fun h => hnd.1 ((unhide HXM _).1 h)) (unhide HAHm) (unhide HNAm))
                have HP2 := hide (fun x => Vc.put_mem (X := X) (k := m) (d := (pd, cd)) x)
                obtain ⟨Y, hY⟩ : ∃ Y, X.take m = Y := ⟨_, rfl⟩
                obtain ⟨Z, hZ⟩ : ∃ Z, X.drop m = Z := ⟨_, rfl⟩
                rw [hY] at hst hst2 hyz HP1 HP2
                rw [hZ] at hsf hsf2 hyz HP1 HP2
                have HT1 := hide (hst2 _ (unhide HKv).sX)
                have HT2 := hide (hsf2 _ (unhide HKv).sX)
                have hO0 := hide (World.ownsRow_lit (base := wv.heap.size) (e := 26) (size := 2) wv #[] 0 (Nat.le_refl _) (by unfold maxLen; omega) rfl)
                have HBv := hide (below_alloc' (w := wv) (.cells #[] 26))
                have x1 : (wv.alloc (.cells #[] 26)).cell? ⟨bO, 1, none⟩ = some (.slice (some ⟨gX, oX, none⟩) X.length cX) := ((unhide HKv).out.after (unhide HBv)).cell 1 _ rfl
                have hbO : bO < wv.heap.size := (unhide HKv).out.lt
                clear hst2 hsf2 hY hZ hnd
                go_wp2_with (first
                  | (at_builtin; refine append_sl (by rfl) _ _ (by rfl) wv.heap.size _ [] (by rfl) (unhide hO0) _ _ Y (by rfl) ((unhide HT1).after (unhide HBv)) (by simp; omega) (by simp) ?_; intro v11 w11 hown11 hb11; rw [List.nil_append] at hown11; have HO11 := hide hown11; have HB11 := hide ((unhide HBv).trans hb11); have z0 : w11.cell? ⟨gA, oA + k * 2, none⟩ = some (.int .i64 pd) := ((unhide HB11).cell (block_lt_of_cell f0)).trans f0; have z1 : w11.cell? ⟨gA, oA + k * 2 + 1, none⟩ = some (.int .i64 cd) := ((unhide HB11).cell (block_lt_of_cell f1)).trans f1; have hs11 := (unhide HB11).size; clear hown11 hb11 x1)
                  | (at_builtin; refine append_sl (by rfl) _ _ (by rfl) wv.heap.size _ Y (by rfl) ((unhide HO11).alloc _) _ _ [(pd, cd)] (by rfl) (one_sl1 _ _ _) (by simp; omega) (by simp; omega) ?_; intro v12 w12 hown12 hb12; have HO12 := hide hown12; have HB12 := hide (((unhide HB11).alloc hs11 _).trans hb12); have x2 : w12.cell? ⟨bO, 1, none⟩ = some (.slice (some ⟨gX, oX, none⟩) X.length cX) := ((unhide HKv).out.after (unhide HB12)).cell 1 _ rfl; have hs12 := (unhide HB12).size; clear hown12 hb12 z0 z1)
                  | (at_builtin; refine append_sl (by rfl) _ _ (by rfl) wv.heap.size _ (Y ++ [(pd, cd)]) (by rfl) (unhide HO12) _ _ Z (by rfl) ((unhide HT2).after (unhide HB12)) (by simp; omega) hs12 ?_; intro v13 w13 hown13 hb13; obtain ⟨XN, hXN⟩ : ∃ XN, Y ++ [(pd, cd)] ++ Z = XN := ⟨_, rfl⟩; rw [hXN] at hown13; have HXN := hide hXN; obtain ⟨r13, c13, rfl, hc13, hs13⟩ := own_sl rfl hown13; have S13 := hide hs13; have HB13 := hide ((unhide HB12).trans hb13); have hrow13 := (unhide HKv).out.after (unhide HB13); have x3 := hrow13.cell 1 _ rfl; have x4 := hrow13.frozen 1; have C13 := hide hc13; clear hown13 hb13 hs13 hc13 x2 hrow13 hXN))
                go_roundw
                case rel =>
                  have hO := only_set w13 bO 1 (.slice r13 XN.length c13)
                  have hK13 := (unhide HKv).after (unhide HB13)
                  have hXN : Y ++ (pd, cd) :: Z = XN := by rw [← unhide HXN, List.append_assoc]; rfl
                  have hp1 := unhide HP1
                  have hp2 := unhide HP2
                  rw [hXN] at hp1
                  refine ⟨k + 1, r13, c13, XN, by omega, by go_num, ⟨hK13.dot.only hO (by have := hK13.gt; omega), hK13.res.only hO (by have := hK13.gt; omega), hK13.out.set 1 _, hK13.lB, unhide C13, hK13.sB.only hK13.out (two_slices _ _ _ _ _ _) hO, (unhide S13).only hK13.out (two_slices _ _ _ _ _ _) hO, hK13.bel.trans (hO.below (by have := hK13.gt; omega)), hK13.gt⟩, hp1, fun x => ?_, ?_, ((unhide SAv).after (unhide HB13)).only hK13.out (two_slices _ _ _ _ _ _) hO⟩
                  · rw [← hXN, hp2 x, unhide HXM x, take_snoc (unhide HX), List.mem_append, List.mem_singleton]
                  · rw [← hXN, List.length_append, List.length_cons]
                    omega
                case measure => simp [intOf]; omega
            · have hmi : decide ((m : Int) < (X.length : Int)) = false := decide_eq_false (by omega)
              have HAHm : Hid (∀ x ∈ X.take m, Vc.Ah x (pd, cd)) := hide (fun x hx => by
                obtain ⟨t, ht⟩ := List.getElem?_of_mem hx
                have htl := (List.getElem?_eq_some_iff.1 ht).1
                rw [List.length_take] at htl
                rw [List.getElem?_take_of_lt (by omega)] at ht
                exact unhide HAH t x (by omega) ht)
              have HNAm : Hid (∀ e, X[m]? = some e → ¬ Vc.Ah e (pd, cd)) := hide (fun e he => by rw [List.getElem?_eq_none (by omega)] at he; cases he)
              go_wp2_with fail
              go_quiet (fail)
              have HKv := hide ((unhide HKb).after (below_drewN (Below.refl _ _) nq))
              have SAv := hide ((unhide SAb).after (below_drewN (Below.refl _ _) nq))
              have f0 : (wr.drewN nq).cell? ⟨gA, oA + k * 2, none⟩ = some (.int .i64 pd) := fa0
              have f1 : (wr.drewN nq).cell? ⟨gA, oA + k * 2 + 1, none⟩ = some (.int .i64 cd) := fa1
              clear y1 fa0 fa1 HKb SAb HB
              generalize wr.drewN nq = wv at HKv SAv f0 f1 ⊢
              obtain ⟨A1, a1, hst, hst2⟩ := slice_to rX X cX m (by omega) hlX
              obtain ⟨A2, a2, hsf, hsf2⟩ := slice_from rX X cX m (by omega) hlX
              have hyz : (X.take m).length + (X.drop m).length = X.length := by simp; omega
              have hnd := unhide HND k (pd, cd) (unhide HX)
              have HP1 := hide (Vc.put_ris (unhide HXR) hnd.2 (fun h => hnd.1 ((unhide HXM _).1 h)) (unhide HAHm) (unhide HNAm))
              have HP2 := hide (fun x => Vc.put_mem (X := X) (k := m) (d := (pd, cd)) x)
              obtain ⟨Y, hY⟩ : ∃ Y, X.take m = Y := ⟨_, rfl⟩
              obtain ⟨Z, hZ⟩ : ∃ Z, X.drop m = Z := ⟨_, rfl⟩
              rw [hY] at hst hst2 hyz HP1 HP2
              rw [hZ] at hsf hsf2 hyz HP1 HP2
              have HT1 := hide (hst2 _ (unhide HKv).sX)
              have HT2 := hide (hsf2 _ (unhide HKv).sX)
              have hO0 := hide (World.ownsRow_lit (base := wv.heap.size) (e := 26) (size := 2) wv #[] 0 (Nat.le_refl _) (by unfold maxLen; omega) rfl)
              have HBv := hide (below_alloc' (w := wv) (.cells #[] 26))
              have x1 : (wv.alloc (.cells #[] 26)).cell? ⟨bO, 1, none⟩ = some (.slice rX X.length cX) := ((unhide HKv).out.after (unhide HBv)).cell 1 _ rfl
              have hbO : bO < wv.heap.size := (unhide HKv).out.lt
              clear hst2 hsf2 hY hZ hnd
              go_wp2_with (first
                | (at_builtin; refine append_sl (by rfl) _ _ (by rfl) wv.heap.size _ [] (by rfl) (unhide hO0) _ _ Y (by rfl) ((unhide HT1).after (unhide HBv)) (by simp; omega) (by simp) ?_; intro v11 w11 hown11 hb11; rw [List.nil_append] at hown11; have HO11 := hide hown11; have HB11 := hide ((unhide HBv).trans hb11); have z0 : w11.cell? ⟨gA, oA + k * 2, none⟩ = some (.int .i64 pd) := ((unhide HB11).cell (block_lt_of_cell f0)).trans f0; have z1 : w11.cell? ⟨gA, oA + k * 2 + 1, none⟩ = some (.int .i64 cd) := ((unhide HB11).cell (block_lt_of_cell f1)).trans f1; have hs11 := (unhide HB11).size; clear hown11 hb11 x1)
                | (at_builtin; refine append_sl (by rfl) _ _ (by rfl) wv.heap.size _ Y (by rfl) ((unhide HO11).alloc _) _ _ [(pd, cd)] (by rfl) (one_sl1 _ _ _) (by simp; omega) (by simp; omega) ?_; intro v12 w12 hown12 hb12; have HO12 := hide hown12; have HB12 := hide (((unhide HB11).alloc hs11 _).trans hb12); have x2 : w12.cell? ⟨bO, 1, none⟩ = some (.slice rX X.length cX) := ((unhide HKv).out.after (unhide HB12)).cell 1 _ rfl; have hs12 := (unhide HB12).size; clear hown12 hb12 z0 z1)
                | (at_builtin; refine append_sl (by rfl) _ _ (by rfl) wv.heap.size _ (Y ++ [(pd, cd)]) (by rfl) (unhide HO12) _ _ Z (by rfl) ((unhide HT2).after (unhide HB12)) (by simp; omega) hs12 ?_; intro v13 w13 hown13 hb13; obtain ⟨XN, hXN⟩ : ∃ XN, Y ++ [(pd, cd)] ++ Z = XN := ⟨_, rfl⟩; rw [hXN] at hown13; have HXN := hide hXN; obtain ⟨r13, c13, rfl, hc13, hs13⟩ := own_sl rfl hown13; have S13 := hide hs13; have HB13 := hide ((unhide HB12).trans hb13); have hrow13 := (unhide HKv).out.after (unhide HB13); have x3 := hrow13.cell 1 _ rfl; have x4 := hrow13.frozen 1; have C13 := hide hc13; clear hown13 hb13 hs13 hc13 x2 hrow13 hXN))
              go_roundw
              case rel =>
                have hO := only_set w13 bO 1 (.slice r13 XN.length c13)
                have hK13 := (unhide HKv).after (unhide HB13)
                have hXN : Y ++ (pd, cd) :: Z = XN := by rw [← unhide HXN, List.append_assoc]; rfl
                have hp1 := unhide HP1
                have hp2 := unhide HP2
                rw [hXN] at hp1
                refine ⟨k + 1, r13, c13, XN, by omega, by go_num, ⟨hK13.dot.only hO (by have := hK13.gt; omega), hK13.res.only hO (by have := hK13.gt; omega), hK13.out.set 1 _, hK13.lB, unhide C13, hK13.sB.only hK13.out (two_slices _ _ _ _ _ _) hO, (unhide S13).only hK13.out (two_slices _ _ _ _ _ _) hO, hK13.bel.trans (hO.below (by have := hK13.gt; omega)), hK13.gt⟩, hp1, fun x => ?_, ?_, ((unhide SAv).after (unhide HB13)).only hK13.out (two_slices _ _ _ _ _ _) hO⟩
                · rw [← hXN, hp2 x, unhide HXM x, take_snoc (unhide HX), List.mem_append, List.mem_singleton]
                · rw [← hXN, List.length_append, List.length_cons]
                  omega
              case measure => simp [intOf]; omega
        · obtain rfl : k = A.length := by omega
          rw [List.take_length] at HXM
          have hNear : Hid (Vc.Near (fun x => Vc.In B E x ∨ x = (p, c)) p B X) := hide (Vc.Near.of_set (d := (p, c)) (unhide HS) (unhide HOK) (unhide HGOOD).2.2 (unhide HXR) fun x => (unhide HXM x).trans (unhide HAM x))
          clear hsa SAa
          have hX0 : X.length ≤ 90001 := by omega
          have HK3 := HKa
          clear HKa HXM HXR HND HAM
          go_wp2_with fail
          go_loopw [13] (fun _ wr => ∃ (rB : Option Addr) (cB : Nat) (B2 : List Vc.D) (rX : Option Addr) (cX : Nat) (X : List Vc.D), Kept w bO p c rB cB B2 rX cX X wr ∧ Vc.Near (fun x => Vc.In B E x ∨ x = (p, c)) p B2 X ∧ X.length ≤ E.length + 1) (fun _ wr => lenOf ((wr.cell? ⟨bO, 1, none⟩).getD undef))
          case atStart => exact ⟨rB, cB, B, rX, cX, X, unhide HK3, unhide hNear, by have := hxl; have := unhide HAL2; omega⟩
          case round =>
            clear HK3 hNear hX0
            obtain ⟨rB2, cB2, B2, rX2, cX2, X2, hkept, hnear, hX2⟩ := hrel
            generalize wr = wo at hkept ⊢
            have HM0 := hide (hkept.out.cell 1 _ rfl)
            have HK := hide hkept
            have HNR := hide hnear
            have hBl := Vc.vec_len hnear.base
            have KG := hide fun W h => refGet_any rB2 cB2 B2 (by omega) p W h
            rw [Vc.get_vec hnear.base] at KG
            have hF := Vc.look_bd p hnear.base
            obtain ⟨F, hFe⟩ : ∃ F, Vc.look B2 p = F := ⟨_, rfl⟩
            rw [hFe] at KG hF
            have HF := hide hFe
            have hw1 : IntKind.i64.wrap (F + 1) = F + 1 := wrap_small (by omega) (by omega)
            have hbO : bO < wo.heap.size := hkept.out.lt
            have hgt := hkept.gt
            have SB : Hid (∀ w', Below wo.heap.size wo w' → w'.cell? ⟨w.heap.size + 1, 0, none⟩ = some (.int .i64 p) ∧ w'.cell? ⟨bO, 0, none⟩ = some (.slice rB2 B2.length cB2) ∧ Below wo.heap.size wo w') :=
              hide (fun w' hb => ⟨(hkept.dot.after hb).cell 0 _ rfl, (hkept.out.after hb).cell 0 _ rfl, hb⟩)
            clear hkept hnear hFe
            go_wp2_with fail
            go_region_held3 (fun w' => w'.cell? ⟨w.heap.size + 1, 0, none⟩ = some (.int .i64 p) ∧ w'.cell? ⟨bO, 0, none⟩ = some (.slice rB2 B2.length cB2) ∧ Below wo.heap.size wo w')
              (first
                | exact unhide SB _ (below_drew (Below.refl _ _))
                | exact unhide SB _ (below_grow (And.right (And.right (by assumption))) (Nat.le_refl _) (by assumption))
                | exact unhide SB _ (keep_alloc' (And.right (And.right (by assumption))) _)
                | exact unhide SB _ (keep_alloc' (by assumption) _)
                | exact unhide SB _ (below_set (below_set (And.right (And.right (by assumption))) (by omega) 0 _) (by omega) 1 _))
              (first
                | (go_at_call 34; refine (unhide KG _ ((unhide HK).sB.after (And.right (And.right (by assumption))))).mono ?_; rintro e wg ⟨rfl, hbg⟩; have HBg : Below wo.heap.size wo wg := below_grow (And.right (And.right (by assumption))) (Nat.le_refl _) hbg; try (have hn1 : VRow wg wo.heap.size 26 [.int .i64 0, .int .i64 0] := (by refine VRow.after ?_ hbg; exact VRow.new wo 26 [.int .i64 0, .int .i64 0])); try (have kk0 := hn1.cell 0 _ rfl); try (have kk1 := hn1.cell 1 _ rfl); try (have kk2 := hn1.frozen 0); try (have kk3 := hn1.frozen 1)))
            · have RN := hide (VRow.new wg 26 [.int .i64 p, .int .i64 (F + 1)])
              have HW := hide (HBg.alloc HBg.size (.cells #[.int .i64 p, .int .i64 (F + 1)] 26))
              clear hbg HBg SB KG
              generalize wg.heap.size = pt at RN ⊢
              generalize wg.alloc (.cells #[.int .i64 p, .int .i64 (F + 1)] 26) = wn at RN HW ⊢
              have HKn := hide ((unhide HK).after (unhide HW))
              clear HK HW
              have l1 := (unhide HKn).out.cell 1 _ rfl
              have n0 := (unhide RN).cell 0 _ rfl
              have n1 := (unhide RN).cell 1 _ rfl
              by_cases hD : (p, F + 1) ∈ X2
              · have KI := hide fun W h => in_any rX2 cX2 X2 (by omega) p (F + 1) W h true (by simp [hD])
                have HSTEP := hide ((unhide HNR).step (p, F + 1) rfl (show F + 1 = Vc.look B2 p + 1 by rw [unhide HF]) hD)
                have hless := Vc.filter_less hD
                have hokn : F + 1 ≤ 1048576 := ((unhide HNR).ok _ hD).2.2.2
                have KW := hide fun W h => refWith_any rB2 cB2 B2 (by omega) p (F + 1) W h
                have hJl : (Vc.joins B2 [(p, F + 1)]).length ≤ 64 := Vc.joins_len _ _
                generalize Vc.joins B2 [(p, F + 1)] = J at KW HSTEP hJl
                clear hD
                go_wp2_with fail
                refine (unhide KI _ (unhide HKn).sX).mono ?_
                rintro e wi ⟨rfl, hb⟩
                have HKi := hide ((unhide HKn).after hb)
                have RNi := hide ((unhide RN).after hb)
                clear hb l1 n0 n1
                have o0 := (unhide HKi).out.cell 0 _ rfl
                have n0 := (unhide RNi).cell 0 _ rfl
                have n1 := (unhide RNi).cell 1 _ rfl
                go_wp2_with fail
                refine (unhide KW _ (unhide HKi).sB).mono ?_
                rintro e wj ⟨rj, cj, rfl, hcj, hsj, hb⟩
                have HKj := hide ((unhide HKi).after hb)
                have RNj := hide ((unhide RNi).after hb)
                have hpt : pt ≠ bO := by
                  rintro rfl
                  have h1 : wj.heap[pt]? = _ := unhide RNj
                  have h2 : wj.heap[pt]? = _ := (unhide HKj).out
                  rw [h1] at h2
                  simp at h2
                have hO := only_set wj bO 0 (.slice rj J.length cj)
                have hKj := unhide HKj
                have HKs : Hid (Kept w bO p c rj cj J rX2 cX2 X2 (wj.setCell ⟨bO, 0, none⟩ (.slice rj J.length cj))) := hide ⟨hKj.dot.only hO (by omega), hKj.res.only hO (by omega), hKj.out.set 0 _, hcj, hKj.lX, hsj.only hKj.out (two_slices _ _ _ _ _ _) hO, hKj.sX.only hKj.out (two_slices _ _ _ _ _ _) hO, hKj.bel.trans (hO.below (by omega)), hKj.gt⟩
                have RNs := hide ((unhide RNj).only hO hpt)
                have k0 := hKj.out.cell 0 _ rfl
                have k1 := hKj.out.frozen 0
                clear hb o0 n0 n1 hcj hsj hO hKj
                go_wp2_with fail
                generalize wj.setCell ⟨bO, 0, none⟩ (.slice rj J.length cj) = ws at HKs RNs ⊢
                clear k0 k1
                have hsbO : bO < ws.heap.size := (unhide HKs).out.lt
                go_loopw [12, 13] (fun l i wr => ∃ (j : Nat), j ≤ X2.length ∧ i = .int .i64 j ∧ wr.ownsRow ws.heap.size 26 2 l ((X2.take j).filter fun x => decide (x ≠ (p, F + 1))).length (flat ((X2.take j).filter fun x => decide (x ≠ (p, F + 1)))) ∧ Below ws.heap.size ws wr) (fun _ i _ => X2.length - (intOf i).toNat)
                case atStart => exact ⟨0, Nat.zero_le _, rfl, World.ownsRow_nil _ _ _ _, Below.refl _ _⟩
                case round =>
                  obtain ⟨j, hj, rfl, hown, hb⟩ := hrel
                  have HO := hide hown
                  have HB := hide hb
                  have HKr := hide ((unhide HKs).after hb)
                  have RNr := hide ((unhide RNs).after hb)
                  have l1 := (unhide HKr).out.cell 1 _ rfl
                  have n0 := (unhide RNr).cell 0 _ rfl
                  have n1 := (unhide RNr).cell 1 _ rfl
                  have hsz := hb.size
                  have hfl : ((X2.take j).filter fun x => decide (x ≠ (p, F + 1))).length ≤ 90001 := Nat.le_trans (List.length_filter_le _ _) (by rw [List.length_take]; omega)
                  clear hown hb
                  by_cases hjl : j < X2.length
                  · obtain ⟨⟨px, cx⟩, hxx⟩ : ∃ x, X2[j]? = some x := ⟨_, List.getElem?_eq_getElem hjl⟩
                    obtain ⟨gX, oX, rfl, _, hcX⟩ := id (unhide HKr).sX (by omega)
                    have x0 : wr.cell? ⟨gX, oX + j * 2, none⟩ = some (.int .i64 px) := (hcX j _ hxx).1
                    have x1 : wr.cell? ⟨gX, oX + j * 2 + 1, none⟩ = some (.int .i64 cx) := (hcX j _ hxx).2
                    have HFL := hide (show (X2.take (j + 1)).filter (fun x => decide (x ≠ (p, F + 1))) = ((X2.take j).filter fun x => decide (x ≠ (p, F + 1))) ++ ([(px, cx)].filter fun x => decide (x ≠ (p, F + 1))) by rw [take_snoc hxx, List.filter_append])
                    generalize ((X2.take j).filter fun x => decide (x ≠ (p, F + 1))) = L at HO HFL hfl
                    clear hxx hcX
                    by_cases heq : px = p ∧ cx = F + 1
                    · obtain ⟨rfl, rfl⟩ := heq
                      rw [show [(px, F + 1)].filter (fun x => decide (x ≠ (px, F + 1))) = [] by simp, List.append_nil] at HFL
                      go_wp2_with fail
                      go_quiet (fail)
                      go_wp2_with fail
                      go_roundw
                      case rel => exact ⟨j + 1, by omega, by go_num, by rw [unhide HFL]; exact unhide HO, below_drewN (unhide HB) _⟩
                      case measure => simp [intOf]; omega
                    · rw [show [(px, cx)].filter (fun x => decide (x ≠ (p, F + 1))) = [(px, cx)] by simp; exact fun e => by intro e'; exact heq ⟨e, e'⟩] at HFL
                      have HOd : Hid (∀ n, (wr.drewN n).ownsRow ws.heap.size 26 2 u12 L.length (flat L)) := hide (fun n => unhide HO)
                      by_cases hpe : px = p
                      · have hce : cx ≠ F + 1 := fun e => heq ⟨hpe, e⟩
                        subst hpe
                        clear heq
                        go_wp2_with fail
                        go_quiet (fail)
                        have m0 : (wr.drewN nq).cell? ⟨gX, oX + j * 2, none⟩ = some (.int .i64 px) := x0
                        have m1 : (wr.drewN nq).cell? ⟨gX, oX + j * 2 + 1, none⟩ = some (.int .i64 cx) := x1
                        have m2 : (wr.drewN nq).cell? ⟨bO, 1, none⟩ = some (.slice (some ⟨gX, oX, none⟩) X2.length cX2) := l1
                        have HBq := hide (below_drewN (unhide HB) nq)
                        have HOq := hide (unhide HOd nq)
                        have hszq : ws.heap.size ≤ (wr.drewN nq).heap.size := hsz
                        clear x0 x1 l1 n0 n1 HB HO HOd
                        generalize wr.drewN nq = wq at m0 m1 m2 HBq HOq hszq ⊢
                        go_wp2_with (at_builtin; refine append_sl (by rfl) _ _ (by rfl) ws.heap.size _ L (by rfl) ((unhide HOq).alloc _) _ _ [(px, cx)] (by rfl) (one_sl1 _ _ _) (by simp; omega) (by simp; omega) ?_; intro v9 w9 hown9 hb9; have HO9 := hide hown9; have HB9 := hide (((unhide HBq).alloc hszq _).trans hb9); clear hown9 hb9)
                        go_roundw
                        case rel => exact ⟨j + 1, by omega, by go_num, by rw [unhide HFL]; exact unhide HO9, unhide HB9⟩
                        case measure => simp [intOf]; omega
                      · clear heq
                        go_wp2_with fail
                        go_quiet (fail)
                        have m0 : (wr.drewN nq).cell? ⟨gX, oX + j * 2, none⟩ = some (.int .i64 px) := x0
                        have m1 : (wr.drewN nq).cell? ⟨gX, oX + j * 2 + 1, none⟩ = some (.int .i64 cx) := x1
                        have m2 : (wr.drewN nq).cell? ⟨bO, 1, none⟩ = some (.slice (some ⟨gX, oX, none⟩) X2.length cX2) := l1
                        have HBq := hide (below_drewN (unhide HB) nq)
                        have HOq := hide (unhide HOd nq)
                        have hszq : ws.heap.size ≤ (wr.drewN nq).heap.size := hsz
                        clear x0 x1 l1 n0 n1 HB HO HOd
                        generalize wr.drewN nq = wq at m0 m1 m2 HBq HOq hszq ⊢
                        go_wp2_with (at_builtin; refine append_sl (by rfl) _ _ (by rfl) ws.heap.size _ L (by rfl) ((unhide HOq).alloc _) _ _ [(px, cx)] (by rfl) (one_sl1 _ _ _) (by simp; omega) (by simp; omega) ?_; intro v9 w9 hown9 hb9; have HO9 := hide hown9; have HB9 := hide (((unhide HBq).alloc hszq _).trans hb9); clear hown9 hb9)
                        go_roundw
                        case rel => exact ⟨j + 1, by omega, by go_num, by rw [unhide HFL]; exact unhide HO9, unhide HB9⟩
                        case measure => simp [intOf]; omega
                  · obtain rfl : j = X2.length := by omega
                    rw [List.take_length] at HO hfl
                    obtain ⟨XN, hXN⟩ : ∃ XN, (X2.filter fun x => decide (x ≠ (p, F + 1))) = XN := ⟨_, rfl⟩
                    rw [hXN] at HO HSTEP hless hfl
                    obtain ⟨rl, cl, rfl, hcl, hsl⟩ := own_sl rfl (unhide HO)
                    have l2 := (unhide HKr).out.frozen 1
                    have hO := only_set wr bO 1 (.slice rl XN.length cl)
                    have hKr := unhide HKr
                    have HKz : Hid (Kept w bO p c rj cj J rl cl XN (wr.setCell ⟨bO, 1, none⟩ (.slice rl XN.length cl))) := hide ⟨hKr.dot.only hO (by omega), hKr.res.only hO (by omega), hKr.out.set 1 _, hKr.lB, hcl, hKr.sB.only hKr.out (two_slices _ _ _ _ _ _) hO, hsl.only hKr.out (two_slices _ _ _ _ _ _) hO, hKr.bel.trans (hO.below (by omega)), hKr.gt⟩
                    clear hXN hcl hsl hO hKr n0 n1
                    go_wp2_with fail
                    go_roundw
                    case rel => exact ⟨rj, cj, J, rl, cl, XN, unhide HKz, unhide HSTEP, by omega⟩
                    case measure =>
                      rw [(unhide HKz).out.cell 1 _ rfl, unhide HM0]
                      exact hless
              · have KI := hide fun W h => in_any rX2 cX2 X2 (by omega) p (F + 1) W h false (by simp [hD])
                have HDN := hide ((unhide HNR).done (by rw [unhide HF]; exact hD))
                clear hD
                go_wp2_with fail
                refine (unhide KI _ (unhide HKn).sX).mono ?_
                rintro e wi ⟨rfl, hb⟩
                have HKi := hide ((unhide HKn).after hb)
                clear hb l1 n0 n1
                have o0 := (unhide HKi).out.cell 0 _ rfl
                have o1 := (unhide HKi).out.cell 1 _ rfl
                go_wp2_with (refine store_row (by rfl) 24 _ _ (by rfl) (w.heap.size + 1 + 1) [.slice rB2 B2.length cB2, .slice rX2 X2.length cX2] (by rfl) (by rfl) 24 [.slice none 0 0, .slice none 0 0] (unhide HKi).res 2 size24 rfl rfl (two_one _ _ _ _ _ _) ?_; intro wz ho hr; have HO := hide ho; have HR := hide hr; clear ho hr)
                refine bodyPost_ret (v := .tuple #[.agg #[.slice rB2 B2.length cB2, .slice rX2 X2.length cX2], .bool true]) (results_set (.inr rfl) rfl _ _ _ _ _ rfl rfl (unhide HR)) rfl ?_
                have hKi := unhide HKi
                exact ⟨_, B2, X2, true, rfl, ⟨rB2, cB2, rX2, cX2, rfl, hKi.lB, hKi.lX, hKi.sB.only hKi.res (two_slices _ _ _ _ _ _) (unhide HO), hKi.sX.only hKi.res (two_slices _ _ _ _ _ _) (unhide HO)⟩, hKi.bel.trans ((unhide HO).below (by omega)), hX2, fun _ => ⟨(unhide HDN).1, (unhide HDN).2, by simp [(unhide HGOOD).2.2]⟩, fun h => absurd ⟨(unhide HGOOD).1, (unhide HGOOD).2.1⟩ h⟩
            · have RN := hide ((hn1.set 0 (.int .i64 p)).set 1 (.int .i64 (F + 1)))
              have HW := hide (below_set (below_set HBg (Nat.le_refl _) 0 (.int .i64 p)) (Nat.le_refl _) 1 (.int .i64 (F + 1)))
              clear hbg HBg SB KG kk0 kk1 kk2 kk3 hn1
              generalize (wg.setCell ⟨wo.heap.size, 0, none⟩ (.int .i64 p)).setCell ⟨wo.heap.size, 1, none⟩ (.int .i64 (F + 1)) = wn at RN HW ⊢
              generalize wo.heap.size = pt at RN ⊢
              have HKn := hide ((unhide HK).after (unhide HW))
              clear HK HW
              have l1 := (unhide HKn).out.cell 1 _ rfl
              have n0 := (unhide RN).cell 0 _ rfl
              have n1 := (unhide RN).cell 1 _ rfl
              by_cases hD : (p, F + 1) ∈ X2
              · have KI := hide fun W h => in_any rX2 cX2 X2 (by omega) p (F + 1) W h true (by simp [hD])
                have HSTEP := hide ((unhide HNR).step (p, F + 1) rfl (show F + 1 = Vc.look B2 p + 1 by rw [unhide HF]) hD)
                have hless := Vc.filter_less hD
                have hokn : F + 1 ≤ 1048576 := ((unhide HNR).ok _ hD).2.2.2
                have KW := hide fun W h => refWith_any rB2 cB2 B2 (by omega) p (F + 1) W h
                have hJl : (Vc.joins B2 [(p, F + 1)]).length ≤ 64 := Vc.joins_len _ _
                generalize Vc.joins B2 [(p, F + 1)] = J at KW HSTEP hJl
                clear hD
                go_wp2_with fail
                refine (unhide KI _ (unhide HKn).sX).mono ?_
                rintro e wi ⟨rfl, hb⟩
                have HKi := hide ((unhide HKn).after hb)
                have RNi := hide ((unhide RN).after hb)
                clear hb l1 n0 n1
                have o0 := (unhide HKi).out.cell 0 _ rfl
                have n0 := (unhide RNi).cell 0 _ rfl
                have n1 := (unhide RNi).cell 1 _ rfl
                go_wp2_with fail
                refine (unhide KW _ (unhide HKi).sB).mono ?_
                rintro e wj ⟨rj, cj, rfl, hcj, hsj, hb⟩
                have HKj := hide ((unhide HKi).after hb)
                have RNj := hide ((unhide RNi).after hb)
                have hpt : pt ≠ bO := by
                  rintro rfl
                  have h1 : wj.heap[pt]? = _ := unhide RNj
                  have h2 : wj.heap[pt]? = _ := (unhide HKj).out
                  rw [h1] at h2
                  simp at h2
                have hO := only_set wj bO 0 (.slice rj J.length cj)
                have hKj := unhide HKj
                have HKs : Hid (Kept w bO p c rj cj J rX2 cX2 X2 (wj.setCell ⟨bO, 0, none⟩ (.slice rj J.length cj))) := hide ⟨hKj.dot.only hO (by omega), hKj.res.only hO (by omega), hKj.out.set 0 _, hcj, hKj.lX, hsj.only hKj.out (two_slices _ _ _ _ _ _) hO, hKj.sX.only hKj.out (two_slices _ _ _ _ _ _) hO, hKj.bel.trans (hO.below (by omega)), hKj.gt⟩
                have RNs := hide ((unhide RNj).only hO hpt)
                have k0 := hKj.out.cell 0 _ rfl
                have k1 := hKj.out.frozen 0
                clear hb o0 n0 n1 hcj hsj hO hKj
                go_wp2_with fail
                generalize wj.setCell ⟨bO, 0, none⟩ (.slice rj J.length cj) = ws at HKs RNs ⊢
                clear k0 k1
                have hsbO : bO < ws.heap.size := (unhide HKs).out.lt
                go_loopw [12, 13] (fun l i wr => ∃ (j : Nat), j ≤ X2.length ∧ i = .int .i64 j ∧ wr.ownsRow ws.heap.size 26 2 l ((X2.take j).filter fun x => decide (x ≠ (p, F + 1))).length (flat ((X2.take j).filter fun x => decide (x ≠ (p, F + 1)))) ∧ Below ws.heap.size ws wr) (fun _ i _ => X2.length - (intOf i).toNat)
                case atStart => exact ⟨0, Nat.zero_le _, rfl, World.ownsRow_nil _ _ _ _, Below.refl _ _⟩
                case round =>
                  obtain ⟨j, hj, rfl, hown, hb⟩ := hrel
                  have HO := hide hown
                  have HB := hide hb
                  have HKr := hide ((unhide HKs).after hb)
                  have RNr := hide ((unhide RNs).after hb)
                  have l1 := (unhide HKr).out.cell 1 _ rfl
                  have n0 := (unhide RNr).cell 0 _ rfl
                  have n1 := (unhide RNr).cell 1 _ rfl
                  have hsz := hb.size
                  have hfl : ((X2.take j).filter fun x => decide (x ≠ (p, F + 1))).length ≤ 90001 := Nat.le_trans (List.length_filter_le _ _) (by rw [List.length_take]; omega)
                  clear hown hb
                  by_cases hjl : j < X2.length
                  · obtain ⟨⟨px, cx⟩, hxx⟩ : ∃ x, X2[j]? = some x := ⟨_, List.getElem?_eq_getElem hjl⟩
                    obtain ⟨gX, oX, rfl, _, hcX⟩ := id (unhide HKr).sX (by omega)
                    have x0 : wr.cell? ⟨gX, oX + j * 2, none⟩ = some (.int .i64 px) := (hcX j _ hxx).1
                    have x1 : wr.cell? ⟨gX, oX + j * 2 + 1, none⟩ = some (.int .i64 cx) := (hcX j _ hxx).2
                    have HFL := hide (show (X2.take (j + 1)).filter (fun x => decide (x ≠ (p, F + 1))) = ((X2.take j).filter fun x => decide (x ≠ (p, F + 1))) ++ ([(px, cx)].filter fun x => decide (x ≠ (p, F + 1))) by rw [take_snoc hxx, List.filter_append])
                    generalize ((X2.take j).filter fun x => decide (x ≠ (p, F + 1))) = L at HO HFL hfl
                    clear hxx hcX
                    by_cases heq : px = p ∧ cx = F + 1
                    · obtain ⟨rfl, rfl⟩ := heq
                      rw [show [(px, F + 1)].filter (fun x => decide (x ≠ (px, F + 1))) = [] by simp, List.append_nil] at HFL
                      go_wp2_with fail
                      go_quiet (fail)
                      go_wp2_with fail
                      go_roundw
                      case rel => exact ⟨j + 1, by omega, by go_num, by rw [unhide HFL]; exact unhide HO, below_drewN (unhide HB) _⟩
                      case measure => simp [intOf]; omega
                    · rw [show [(px, cx)].filter (fun x => decide (x ≠ (p, F + 1))) = [(px, cx)] by simp; exact fun e => by intro e'; exact heq ⟨e, e'⟩] at HFL
                      have HOd : Hid (∀ n, (wr.drewN n).ownsRow ws.heap.size 26 2 u12 L.length (flat L)) := hide (fun n => unhide HO)
                      by_cases hpe : px = p
                      · have hce : cx ≠ F + 1 := fun e => heq ⟨hpe, e⟩
                        subst hpe
                        clear heq
                        go_wp2_with fail
                        go_quiet (fail)
                        have m0 : (wr.drewN nq).cell? ⟨gX, oX + j * 2, none⟩ = some (.int .i64 px) := x0
                        have m1 : (wr.drewN nq).cell? ⟨gX, oX + j * 2 + 1, none⟩ = some (.int .i64 cx) := x1
                        have m2 : (wr.drewN nq).cell? ⟨bO, 1, none⟩ = some (.slice (some ⟨gX, oX, none⟩) X2.length cX2) := l1
                        have HBq := hide (below_drewN (unhide HB) nq)
                        have HOq := hide (unhide HOd nq)
                        have hszq : ws.heap.size ≤ (wr.drewN nq).heap.size := hsz
                        clear x0 x1 l1 n0 n1 HB HO HOd
                        generalize wr.drewN nq = wq at m0 m1 m2 HBq HOq hszq ⊢
                        go_wp2_with (at_builtin; refine append_sl (by rfl) _ _ (by rfl) ws.heap.size _ L (by rfl) ((unhide HOq).alloc _) _ _ [(px, cx)] (by rfl) (one_sl1 _ _ _) (by simp; omega) (by simp; omega) ?_; intro v9 w9 hown9 hb9; have HO9 := hide hown9; have HB9 := hide (((unhide HBq).alloc hszq _).trans hb9); clear hown9 hb9)
                        go_roundw
                        case rel => exact ⟨j + 1, by omega, by go_num, by rw [unhide HFL]; exact unhide HO9, unhide HB9⟩
                        case measure => simp [intOf]; omega
                      · clear heq
                        go_wp2_with fail
                        go_quiet (fail)
                        have m0 : (wr.drewN nq).cell? ⟨gX, oX + j * 2, none⟩ = some (.int .i64 px) := x0
                        have m1 : (wr.drewN nq).cell? ⟨gX, oX + j * 2 + 1, none⟩ = some (.int .i64 cx) := x1
                        have m2 : (wr.drewN nq).cell? ⟨bO, 1, none⟩ = some (.slice (some ⟨gX, oX, none⟩) X2.length cX2) := l1
                        have HBq := hide (below_drewN (unhide HB) nq)
                        have HOq := hide (unhide HOd nq)
                        have hszq : ws.heap.size ≤ (wr.drewN nq).heap.size := hsz
                        clear x0 x1 l1 n0 n1 HB HO HOd
                        generalize wr.drewN nq = wq at m0 m1 m2 HBq HOq hszq ⊢
                        go_wp2_with (at_builtin; refine append_sl (by rfl) _ _ (by rfl) ws.heap.size _ L (by rfl) ((unhide HOq).alloc _) _ _ [(px, cx)] (by rfl) (one_sl1 _ _ _) (by simp; omega) (by simp; omega) ?_; intro v9 w9 hown9 hb9; have HO9 := hide hown9; have HB9 := hide (((unhide HBq).alloc hszq _).trans hb9); clear hown9 hb9)
                        go_roundw
                        case rel => exact ⟨j + 1, by omega, by go_num, by rw [unhide HFL]; exact unhide HO9, unhide HB9⟩
                        case measure => simp [intOf]; omega
                  · obtain rfl : j = X2.length := by omega
                    rw [List.take_length] at HO hfl
                    obtain ⟨XN, hXN⟩ : ∃ XN, (X2.filter fun x => decide (x ≠ (p, F + 1))) = XN := ⟨_, rfl⟩
                    rw [hXN] at HO HSTEP hless hfl
                    obtain ⟨rl, cl, rfl, hcl, hsl⟩ := own_sl rfl (unhide HO)
                    have l2 := (unhide HKr).out.frozen 1
                    have hO := only_set wr bO 1 (.slice rl XN.length cl)
                    have hKr := unhide HKr
                    have HKz : Hid (Kept w bO p c rj cj J rl cl XN (wr.setCell ⟨bO, 1, none⟩ (.slice rl XN.length cl))) := hide ⟨hKr.dot.only hO (by omega), hKr.res.only hO (by omega), hKr.out.set 1 _, hKr.lB, hcl, hKr.sB.only hKr.out (two_slices _ _ _ _ _ _) hO, hsl.only hKr.out (two_slices _ _ _ _ _ _) hO, hKr.bel.trans (hO.below (by omega)), hKr.gt⟩
                    clear hXN hcl hsl hO hKr n0 n1
                    go_wp2_with fail
                    go_roundw
                    case rel => exact ⟨rj, cj, J, rl, cl, XN, unhide HKz, unhide HSTEP, by omega⟩
                    case measure =>
                      rw [(unhide HKz).out.cell 1 _ rfl, unhide HM0]
                      exact hless
              · have KI := hide fun W h => in_any rX2 cX2 X2 (by omega) p (F + 1) W h false (by simp [hD])
                have HDN := hide ((unhide HNR).done (by rw [unhide HF]; exact hD))
                clear hD
                go_wp2_with fail
                refine (unhide KI _ (unhide HKn).sX).mono ?_
                rintro e wi ⟨rfl, hb⟩
                have HKi := hide ((unhide HKn).after hb)
                clear hb l1 n0 n1
                have o0 := (unhide HKi).out.cell 0 _ rfl
                have o1 := (unhide HKi).out.cell 1 _ rfl
                go_wp2_with (refine store_row (by rfl) 24 _ _ (by rfl) (w.heap.size + 1 + 1) [.slice rB2 B2.length cB2, .slice rX2 X2.length cX2] (by rfl) (by rfl) 24 [.slice none 0 0, .slice none 0 0] (unhide HKi).res 2 size24 rfl rfl (two_one _ _ _ _ _ _) ?_; intro wz ho hr; have HO := hide ho; have HR := hide hr; clear ho hr)
                refine bodyPost_ret (v := .tuple #[.agg #[.slice rB2 B2.length cB2, .slice rX2 X2.length cX2], .bool true]) (results_set (.inr rfl) rfl _ _ _ _ _ rfl rfl (unhide HR)) rfl ?_
                have hKi := unhide HKi
                exact ⟨_, B2, X2, true, rfl, ⟨rB2, cB2, rX2, cX2, rfl, hKi.lB, hKi.lX, hKi.sB.only hKi.res (two_slices _ _ _ _ _ _) (unhide HO), hKi.sX.only hKi.res (two_slices _ _ _ _ _ _) (unhide HO)⟩, hKi.bel.trans ((unhide HO).below (by omega)), hX2, fun _ => ⟨(unhide HDN).1, (unhide HDN).2, by simp [(unhide HGOOD).2.2]⟩, fun h => absurd ⟨(unhide HGOOD).1, (unhide HGOOD).2.1⟩ h⟩
  · by_cases hz : Vc.checkS B E = 0
    · rw [hz] at KC
      by_cases he : Vc.dotErr (p, c) = 0
      · rw [he] at KD
        have hin : Vc.In B E (p, c) := by
          by_cases h : Vc.In B E (p, c)
          · exact h
          · exact absurd ⟨hz, he, h⟩ hgood
        rw [show hasS B E (p, c) = true by unfold hasS; exact decide_eq_true ⟨hz, hin⟩] at KH
        have HBAD : Hid (Vc.checkS B E = 0 ∧ Vc.dotErr (p, c) = 0 → Vc.SetOk B E ∧ (∀ x, Vc.In B E x ↔ Vc.In B E x ∨ x = (p, c)) ∧ (false = true ↔ ¬ Vc.In B E (p, c))) := hide (fun _ => ⟨(Vc.checkS_zero B E).1 hz, fun x => ⟨.inl, fun h => h.elim id fun e => by rw [e]; exact hin⟩, by simp [hin]⟩)
        clear hz he hin hgood
        go_enter Try.func21, Try.ntmps21
        go_wp2_with fail
        generalize ((w.alloc (.cells #[.slice r1 B.length c1, .slice r2 E.length c2] 24)).alloc (.cells #[.int .i64 p, .int .i64 c] 26)).alloc (.cells #[.slice none 0 0, .slice none 0 0] 24) = w0 at HB0 RS RT RV S1 S2 rs0 rs1 ⊢
        refine (unhide KC _ (unhide S1) (unhide S2)).mono ?_
        rintro e w1 ⟨rfl, hb⟩
        replace HB0 := hide (below_grow (unhide HB0) (Nat.le_refl _) hb)
        replace RS := hide ((unhide RS).after hb)
        replace RT := hide ((unhide RT).after hb)
        replace RV := hide ((unhide RV).after hb)
        replace S1 := hide ((unhide S1).after hb)
        replace S2 := hide ((unhide S2).after hb)
        clear hb
        try clear rs0 rs1
        try clear rt0 rt1
        have rs0 := (unhide RS).cell 0 _ rfl
        have rs1 := (unhide RS).cell 1 _ rfl
        have rt0 := (unhide RT).cell 0 _ rfl
        have rt1 := (unhide RT).cell 1 _ rfl
        go_wp2_with fail
        refine (unhide KD _).mono ?_
        rintro e w2 ⟨rfl, hb⟩
        replace HB0 := hide (below_grow (unhide HB0) (Nat.le_refl _) hb)
        replace RS := hide ((unhide RS).after hb)
        replace RT := hide ((unhide RT).after hb)
        replace RV := hide ((unhide RV).after hb)
        replace S1 := hide ((unhide S1).after hb)
        replace S2 := hide ((unhide S2).after hb)
        clear hb
        try clear rs0 rs1
        try clear rt0 rt1
        have rs0 := (unhide RS).cell 0 _ rfl
        have rs1 := (unhide RS).cell 1 _ rfl
        have rt0 := (unhide RT).cell 0 _ rfl
        have rt1 := (unhide RT).cell 1 _ rfl
        go_wp2_with fail
        refine (unhide KH _ (unhide S1) (unhide S2)).mono ?_
        rintro e w3 ⟨rfl, hb⟩
        replace HB0 := hide (below_grow (unhide HB0) (Nat.le_refl _) hb)
        replace RS := hide ((unhide RS).after hb)
        replace RT := hide ((unhide RT).after hb)
        replace RV := hide ((unhide RV).after hb)
        replace S1 := hide ((unhide S1).after hb)
        replace S2 := hide ((unhide S2).after hb)
        clear hb
        try clear rs0 rs1
        try clear rt0 rt1
        have rs0 := (unhide RS).cell 0 _ rfl
        have rs1 := (unhide RS).cell 1 _ rfl
        have rt0 := (unhide RT).cell 0 _ rfl
        have rt1 := (unhide RT).cell 1 _ rfl
        go_wp2_with (refine store_row (by rfl) 24 _ _ (by rfl) (w.heap.size + 1 + 1) [.slice r1 B.length c1, .slice r2 E.length c2] (by rfl) (by rfl) 24 [.slice none 0 0, .slice none 0 0] (unhide RV) 2 size24 rfl rfl (two_one _ _ _ _ _ _) ?_; intro w9 ho hr; have HO := hide ho; have HR := hide hr; clear ho hr)
        refine bodyPost_ret (v := .tuple #[.agg #[.slice r1 B.length c1, .slice r2 E.length c2], .bool false]) (results_set (.inr rfl) rfl _ _ _ _ _ rfl rfl (unhide HR)) rfl ?_
        exact ⟨_, B, E, false, rfl, ⟨r1, c1, r2, c2, rfl, hc1, hc2, (unhide S1).only (unhide RV) (two_slices _ _ _ _ _ _) (unhide HO), (unhide S2).only (unhide RV) (two_slices _ _ _ _ _ _) (unhide HO)⟩, (unhide HB0).trans ((unhide HO).below (by omega)), by omega, fun h => unhide HBAD h, fun _ => ⟨rfl, rfl, rfl⟩⟩
      · have HBAD : Hid (Vc.checkS B E = 0 ∧ Vc.dotErr (p, c) = 0 → Vc.SetOk B E ∧ (∀ x, Vc.In B E x ↔ Vc.In B E x ∨ x = (p, c)) ∧ (false = true ↔ ¬ Vc.In B E (p, c))) := hide (fun h => absurd h.2 he)
        have hzb : (Vc.dotErr (p, c) != 0) = true := bne_iff_ne.2 he
        have KD' : Hid (∀ W, Calls Try.prog 32 #[.agg #[.int .i64 p, .int .i64 c]] W fun e w' => e = .returned (.int .i64 (Vc.dotErr (p, c))) ∧ Below W.heap.size W w') := KD
        obtain ⟨X, hX⟩ : ∃ X, Vc.dotErr (p, c) = X := ⟨_, rfl⟩
        rw [hX] at KD' hzb
        clear KD hX he hz hgood
        have KD := KD'
        clear KD'
        go_enter Try.func21, Try.ntmps21
        go_wp2_with fail
        generalize ((w.alloc (.cells #[.slice r1 B.length c1, .slice r2 E.length c2] 24)).alloc (.cells #[.int .i64 p, .int .i64 c] 26)).alloc (.cells #[.slice none 0 0, .slice none 0 0] 24) = w0 at HB0 RS RT RV S1 S2 rs0 rs1 ⊢
        refine (unhide KC _ (unhide S1) (unhide S2)).mono ?_
        rintro e w1 ⟨rfl, hb⟩
        replace HB0 := hide (below_grow (unhide HB0) (Nat.le_refl _) hb)
        replace RS := hide ((unhide RS).after hb)
        replace RT := hide ((unhide RT).after hb)
        replace RV := hide ((unhide RV).after hb)
        replace S1 := hide ((unhide S1).after hb)
        replace S2 := hide ((unhide S2).after hb)
        clear hb
        try clear rs0 rs1
        try clear rt0 rt1
        have rs0 := (unhide RS).cell 0 _ rfl
        have rs1 := (unhide RS).cell 1 _ rfl
        have rt0 := (unhide RT).cell 0 _ rfl
        have rt1 := (unhide RT).cell 1 _ rfl
        go_wp2_with fail
        refine (unhide KD _).mono ?_
        rintro e w2 ⟨rfl, hb⟩
        replace HB0 := hide (below_grow (unhide HB0) (Nat.le_refl _) hb)
        replace RS := hide ((unhide RS).after hb)
        replace RT := hide ((unhide RT).after hb)
        replace RV := hide ((unhide RV).after hb)
        replace S1 := hide ((unhide S1).after hb)
        replace S2 := hide ((unhide S2).after hb)
        clear hb
        try clear rs0 rs1
        try clear rt0 rt1
        have rs0 := (unhide RS).cell 0 _ rfl
        have rs1 := (unhide RS).cell 1 _ rfl
        have rt0 := (unhide RT).cell 0 _ rfl
        have rt1 := (unhide RT).cell 1 _ rfl
        go_wp2_with (refine store_row (by rfl) 24 _ _ (by rfl) (w.heap.size + 1 + 1) [.slice r1 B.length c1, .slice r2 E.length c2] (by rfl) (by rfl) 24 [.slice none 0 0, .slice none 0 0] (unhide RV) 2 size24 rfl rfl (two_one _ _ _ _ _ _) ?_; intro w9 ho hr; have HO := hide ho; have HR := hide hr; clear ho hr)
        refine bodyPost_ret (v := .tuple #[.agg #[.slice r1 B.length c1, .slice r2 E.length c2], .bool false]) (results_set (.inr rfl) rfl _ _ _ _ _ rfl rfl (unhide HR)) rfl ?_
        exact ⟨_, B, E, false, rfl, ⟨r1, c1, r2, c2, rfl, hc1, hc2, (unhide S1).only (unhide RV) (two_slices _ _ _ _ _ _) (unhide HO), (unhide S2).only (unhide RV) (two_slices _ _ _ _ _ _) (unhide HO)⟩, (unhide HB0).trans ((unhide HO).below (by omega)), by omega, fun h => unhide HBAD h, fun _ => ⟨rfl, rfl, rfl⟩⟩
    · have HBAD : Hid (Vc.checkS B E = 0 ∧ Vc.dotErr (p, c) = 0 → Vc.SetOk B E ∧ (∀ x, Vc.In B E x ↔ Vc.In B E x ∨ x = (p, c)) ∧ (false = true ↔ ¬ Vc.In B E (p, c))) := hide (fun h => absurd h.1 hz)
      have hzb : (Vc.checkS B E != 0) = true := bne_iff_ne.2 hz
      have KC' : Hid (∀ W, Sl W r1 B → Sl W r2 E → Calls Try.prog 12 #[.agg #[.slice r1 B.length c1, .slice r2 E.length c2]] W fun e w' => e = .returned (.int .i64 (Vc.checkS B E)) ∧ Below W.heap.size W w') := KC
      obtain ⟨X, hX⟩ : ∃ X, Vc.checkS B E = X := ⟨_, rfl⟩
      rw [hX] at KC' hzb
      clear KC hX hz hgood
      have KC := KC'
      clear KC'
      go_enter Try.func21, Try.ntmps21
      go_wp2_with fail
      generalize ((w.alloc (.cells #[.slice r1 B.length c1, .slice r2 E.length c2] 24)).alloc (.cells #[.int .i64 p, .int .i64 c] 26)).alloc (.cells #[.slice none 0 0, .slice none 0 0] 24) = w0 at HB0 RS RT RV S1 S2 rs0 rs1 ⊢
      refine (unhide KC _ (unhide S1) (unhide S2)).mono ?_
      rintro e w1 ⟨rfl, hb⟩
      replace HB0 := hide (below_grow (unhide HB0) (Nat.le_refl _) hb)
      replace RS := hide ((unhide RS).after hb)
      replace RT := hide ((unhide RT).after hb)
      replace RV := hide ((unhide RV).after hb)
      replace S1 := hide ((unhide S1).after hb)
      replace S2 := hide ((unhide S2).after hb)
      clear hb
      try clear rs0 rs1
      try clear rt0 rt1
      have rs0 := (unhide RS).cell 0 _ rfl
      have rs1 := (unhide RS).cell 1 _ rfl
      have rt0 := (unhide RT).cell 0 _ rfl
      have rt1 := (unhide RT).cell 1 _ rfl
      go_wp2_with (refine store_row (by rfl) 24 _ _ (by rfl) (w.heap.size + 1 + 1) [.slice r1 B.length c1, .slice r2 E.length c2] (by rfl) (by rfl) 24 [.slice none 0 0, .slice none 0 0] (unhide RV) 2 size24 rfl rfl (two_one _ _ _ _ _ _) ?_; intro w9 ho hr; have HO := hide ho; have HR := hide hr; clear ho hr)
      refine bodyPost_ret (v := .tuple #[.agg #[.slice r1 B.length c1, .slice r2 E.length c2], .bool false]) (results_set (.inr rfl) rfl _ _ _ _ _ rfl rfl (unhide HR)) rfl ?_
      exact ⟨_, B, E, false, rfl, ⟨r1, c1, r2, c2, rfl, hc1, hc2, (unhide S1).only (unhide RV) (two_slices _ _ _ _ _ _) (unhide HO), (unhide S2).only (unhide RV) (two_slices _ _ _ _ _ _) (unhide HO)⟩, (unhide HB0).trans ((unhide HO).below (by omega)), by omega, fun h => unhide HBAD h, fun _ => ⟨rfl, rfl, rfl⟩⟩
end Go.Proofs.Ytpcfblpenealbaa
