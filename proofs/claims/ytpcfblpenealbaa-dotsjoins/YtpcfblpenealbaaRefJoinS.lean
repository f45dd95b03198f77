/-
  What Join of sets answers, the document's.
-/
import Derived.Test.YtpcfblpenealbaaRefAdd
import Derived.Test.YtpcfblpenealbaaWithinS
namespace Go.Proofs.Ytpcfblpenealbaa
open Go.RowKit

theorem has_vec {J : List Vc.D} (h : Vc.Up (-1) J) (x : Vc.D) : has J x = true ↔ 1 ≤ x.2 ∧ x.2 ≤ Vc.look J x.1 := by
  unfold has
  rw [Vc.get_vec h, Bool.and_eq_true, decide_eq_true_iff, decide_eq_true_iff]
theorem later_mem {B E B2 E2 : List Vc.D} (hs : Vc.SetOk B E) (ht : Vc.SetOk B2 E2) (x : Vc.D) : (Vc.In (Vc.join B B2) [] x ∨ x ∈ (E ++ E2).filter fun y => !has (Vc.join B B2) y) ↔ Vc.In B E x ∨ Vc.In B2 E2 x := by
  have hj := Vc.join_up hs.base ht.base
  have hl := Vc.join_look hs.base ht.base x.1
  have hh := has_vec hj x
  unfold Vc.In
  rw [List.mem_filter, List.mem_append]
  constructor
  · rintro ((h | h) | ⟨h | h, _⟩)
    · by_cases hb : x.2 ≤ Vc.look B x.1
      · exact .inl (.inl ⟨h.1, hb⟩)
      · exact .inr (.inl ⟨h.1, by omega⟩)
    · cases h
    · exact .inl (.inr h)
    · exact .inr (.inr h)
  · intro h
    by_cases hx : has (Vc.join B B2) x = true
    · exact .inl (.inl (hh.1 hx))
    · have hf : (!has (Vc.join B B2) x) = true := by simpa using hx
      rcases h with (h | h) | (h | h)
      · exact absurd (hh.2 ⟨h.1, by omega⟩) hx
      · exact .inr ⟨.inl h, hf⟩
      · exact absurd (hh.2 ⟨h.1, by omega⟩) hx
      · exact .inr ⟨.inr h, hf⟩
theorem base_ok {J : List Vc.D} (h : Vc.Up (-1) J) : Vc.SetOk J [] := ⟨h, trivial, fun _ h => (by cases h), fun _ h => (by cases h)⟩

/-- What the document's Join keeps while it goes on: the result, the set that is made. -/
structure Kept2 (w : World) (bO : Nat) (rB : Option Addr) (cB : Nat) (B : List Vc.D) (rX : Option Addr) (cX : Nat) (X : List Vc.D) (W : World) : Prop where
  res : VRow W (w.heap.size + 1 + 1) 24 [.slice none 0 0, .slice none 0 0]
  out : VRow W bO 24 [.slice rB B.length cB, .slice rX X.length cX]
  lB : B.length ≤ cB
  lX : X.length ≤ cX
  sB : Sl W rB B
  sX : Sl W rX X
  bel : Below w.heap.size w W
  gt : w.heap.size + 1 + 1 < bO
theorem Kept2.after {w W W' : World} {bO cB cX : Nat} {rB rX : Option Addr} {B X : List Vc.D} (h : Kept2 w bO rB cB B rX cX X W) (hb : Below W.heap.size W W') : Kept2 w bO rB cB B rX cX X W' :=
  ⟨h.res.after hb, h.out.after hb, h.lB, h.lX, h.sB.after hb, h.sX.after hb, below_grow h.bel (Nat.le_refl _) hb, h.gt⟩
theorem Kept2.put {w W W' : World} {bO cB cX c1 c2 : Nat} {rB rX r1 r2 : Option Addr} {B X B1 X1 : List Vc.D} (h : Kept2 w bO rB cB B rX cX X W) (hO : Only bO W W') (hr : VRow W' bO 24 [.slice r1 B1.length c1, .slice r2 X1.length c2]) (l1 : B1.length ≤ c1) (l2 : X1.length ≤ c2) (s1 : Sl W r1 B1) (s2 : Sl W r2 X1) : Kept2 w bO r1 c1 B1 r2 c2 X1 W' :=
  ⟨h.res.only hO (by have := h.gt; omega), hr, l1, l2, s1.only h.out (two_slices _ _ _ _ _ _) hO, s2.only h.out (two_slices _ _ _ _ _ _) hO, h.bel.trans (hO.below (by have := h.gt; omega)), h.gt⟩

set_option maxRecDepth 100000 in
set_option maxHeartbeats 4000000 in
theorem refJoinS_any (r1 r2 q1 q2 : Option Addr) (c1 c2 d1 d2 : Nat) (B E B2 E2 : List Vc.D) (hB : B.length ≤ 40000) (hE : E.length ≤ 40000) (hB2 : B2.length ≤ 40000) (hE2 : E2.length ≤ 40000) (w : World) (s1 : Sl w r1 B) (s2 : Sl w r2 E) (t1 : Sl w q1 B2) (t2 : Sl w q2 E2) :
    Calls Try.prog 24 #[.agg #[.slice r1 B.length c1, .slice r2 E.length c2], .agg #[.slice q1 B2.length d1, .slice q2 E2.length d2]] w (JoinMade B E B2 E2 w) := by
  have HB0 := hide (((below_alloc' (w := w) (.cells #[.slice r1 B.length c1, .slice r2 E.length c2] 24)).alloc (by simp) (.cells #[.slice q1 B2.length d1, .slice q2 E2.length d2] 24)).alloc (by simp; omega) (.cells #[.slice none 0 0, .slice none 0 0] 24))
  have RS := hide (((VRow.new w 24 [.slice r1 B.length c1, .slice r2 E.length c2]).alloc (.cells #[.slice q1 B2.length d1, .slice q2 E2.length d2] 24)).alloc (.cells #[.slice none 0 0, .slice none 0 0] 24))
  have RT := hide ((VRow.newAt (W := w.alloc (.cells #[.slice r1 B.length c1, .slice r2 E.length c2] 24)) (T := 24) (n := w.heap.size + 1) (vs := [.slice q1 B2.length d1, .slice q2 E2.length d2]) (by simp)).alloc (.cells #[.slice none 0 0, .slice none 0 0] 24))
  have RV := hide (VRow.newAt (W := (w.alloc (.cells #[.slice r1 B.length c1, .slice r2 E.length c2] 24)).alloc (.cells #[.slice q1 B2.length d1, .slice q2 E2.length d2] 24)) (T := 24) (n := w.heap.size + 1 + 1) (vs := [.slice none 0 0, .slice none 0 0]) (by simp))
  have S1 := hide (s1.after (unhide HB0))
  have S2 := hide (s2.after (unhide HB0))
  have T1 := hide (t1.after (unhide HB0))
  have T2 := hide (t2.after (unhide HB0))
  have KC := hide fun W h h' => refSetCheck_any r1 r2 c1 c2 B E (by omega) (by omega) W h h'
  have KD := hide fun W h h' => refSetCheck_any q1 q2 d1 d2 B2 E2 (by omega) (by omega) W h h'
  have rs0 := (unhide RS).cell 0 _ rfl
  have rs1 := (unhide RS).cell 1 _ rfl
  have rt0 := (unhide RT).cell 0 _ rfl
  have rt1 := (unhide RT).cell 1 _ rfl
  clear s1 s2 t1 t2
  by_cases hz : Vc.checkS B E = 0
  · by_cases he : Vc.checkS B2 E2 = 0
    · rw [hz] at KC
      rw [he] at KD
      have hs := (Vc.checkS_zero B E).1 hz
      have ht := (Vc.checkS_zero B2 E2).1 he
      have hj : Vc.joins B B2 = Vc.join B B2 := by unfold Vc.joins; rw [if_pos ⟨(Vc.check_zero B).2 hs.base, (Vc.check_zero B2).2 ht.base⟩]
      have hju := Vc.join_up hs.base ht.base
      have KJ := hide fun W h h' => refJoin_any r1 q1 c1 d1 B B2 (by omega) (by omega) W h h'
      rw [hj] at KJ
      obtain ⟨F, hF⟩ : ∃ F : Vc.D → Bool, (fun y => !has (Vc.join B B2) y) = F := ⟨_, rfl⟩
      have hlm := fun x => later_mem hs ht x
      rw [hF] at hlm
      have HF : Hid (∀ y, F y = !has (Vc.join B B2) y) := hide (fun y => by rw [← hF])
      obtain ⟨A, hA⟩ : ∃ A, E ++ E2 = A := ⟨_, rfl⟩
      rw [hA] at hlm
      have HLM := hide hlm
      have HJU := hide hju
      have HOK : Hid (Vc.checkS B E = 0 ∧ Vc.checkS B2 E2 = 0) := hide ⟨hz, he⟩
      have HAO : Hid (∀ x ∈ A, Vc.Ok x) := hide (fun x hx => by
        rw [← hA] at hx
        rcases List.mem_append.1 hx with hx | hx
        · exact hs.ok x hx
        · exact ht.ok x hx)
      have HAL : Hid (A.length = E.length + E2.length) := hide (by rw [← hA, List.length_append])
      have hAl : A.length ≤ 80000 := by rw [unhide HAL]; omega
      have HA := hide hA
      have hJl := Vc.vec_len hju
      generalize Vc.join B B2 = J at KJ HF HLM HJU hJl
      clear hs ht hz he hj hju hlm hF hA
      go_enter Try.func24, Try.ntmps24
      go_wp2_with fail
      generalize ((w.alloc (.cells #[.slice r1 B.length c1, .slice r2 E.length c2] 24)).alloc (.cells #[.slice q1 B2.length d1, .slice q2 E2.length d2] 24)).alloc (.cells #[.slice none 0 0, .slice none 0 0] 24) = w0 at HB0 RS RT RV S1 S2 T1 T2 rs0 rs1 rt0 rt1 ⊢
      refine (unhide KC _ (unhide S1) (unhide S2)).mono ?_
      rintro e w1 ⟨rfl, hb⟩
      replace HB0 := hide (below_grow (unhide HB0) (Nat.le_refl _) hb)
      replace RS := hide ((unhide RS).after hb)
      replace RT := hide ((unhide RT).after hb)
      replace RV := hide ((unhide RV).after hb)
      replace S1 := hide ((unhide S1).after hb)
      replace S2 := hide ((unhide S2).after hb)
      replace T1 := hide ((unhide T1).after hb)
      replace T2 := hide ((unhide T2).after hb)
      clear hb
      clear rs0 rs1 rt0 rt1
      have rt0 := (unhide RT).cell 0 _ rfl
      have rt1 := (unhide RT).cell 1 _ rfl
      go_wp2_with fail
      refine (unhide KD _ (unhide T1) (unhide T2)).mono ?_
      rintro e w2 ⟨rfl, hb⟩
      replace HB0 := hide (below_grow (unhide HB0) (Nat.le_refl _) hb)
      replace RS := hide ((unhide RS).after hb)
      replace RT := hide ((unhide RT).after hb)
      replace RV := hide ((unhide RV).after hb)
      replace S1 := hide ((unhide S1).after hb)
      replace S2 := hide ((unhide S2).after hb)
      replace T1 := hide ((unhide T1).after hb)
      replace T2 := hide ((unhide T2).after hb)
      clear hb
      clear rt0 rt1
      have rs0 := (unhide RS).cell 0 _ rfl
      have rt0 := (unhide RT).cell 0 _ rfl
      go_wp2_with fail
      refine (unhide KJ _ (unhide S1) (unhide T1)).mono ?_
      rintro e w3 ⟨rB, cB, rfl, hcB, hsB, hb⟩
      replace HB0 := hide (below_grow (unhide HB0) (Nat.le_refl _) hb)
      replace RS := hide ((unhide RS).after hb)
      replace RT := hide ((unhide RT).after hb)
      replace RV := hide ((unhide RV).after hb)
      replace S1 := hide ((unhide S1).after hb)
      replace S2 := hide ((unhide S2).after hb)
      replace T1 := hide ((unhide T1).after hb)
      replace T2 := hide ((unhide T2).after hb)
      have SB := hide hsB
      have HCB := hide hcB
      have hw3 : w.heap.size + 1 + 1 < w3.heap.size := (unhide RV).lt
      clear hb hsB hcB rs0 rt0
      go_wp2_with (refine store_row (by rfl) 24 _ _ (by rfl) w3.heap.size [.slice rB J.length cB, .slice none 0 0] (by rfl) (by rfl) 24 [.slice none 0 0, .slice none 0 0] (VRow.newAt rfl) 2 size24 rfl rfl (two_one _ _ _ _ _ _) ?_; intro w5 ho hr; have hb5 := (below_alloc' (w := w3) (.cells #[.slice none 0 0, .slice none 0 0] 24)).trans (ho.below (Nat.le_refl _)); replace HB0 := hide (below_grow (unhide HB0) (Nat.le_refl _) hb5); replace RS := hide ((unhide RS).after hb5); replace RT := hide ((unhide RT).after hb5); replace RV := hide ((unhide RV).after hb5); replace S2 := hide ((unhide S2).after hb5); replace T2 := hide ((unhide T2).after hb5); replace SB := hide ((unhide SB).after hb5); have RO := hide hr; clear ho hr hb5)
      have hKept : Hid (Kept2 w w3.heap.size rB cB J none 0 [] w5) := hide ⟨unhide RV, unhide RO, unhide HCB, Nat.le_refl _, unhide SB, Sl.none _ _, unhide HB0, hw3⟩
      have SB5 : Hid (∀ w', Below w5.heap.size w5 w' → w'.cell? ⟨w.heap.size, 1, none⟩ = some (.slice r2 E.length c2) ∧ w'.cell? ⟨w.heap.size + 1, 1, none⟩ = some (.slice q2 E2.length d2) ∧ Below w5.heap.size w5 w') :=
        hide (fun w' hb => ⟨((unhide RS).after hb).cell 1 _ rfl, ((unhide RT).after hb).cell 1 _ rfl, hb⟩)
      have E1 := hide (show (w5.alloc (.cells #[] 26)).ownsRow w5.heap.size 26 2 (.slice (some ⟨w5.heap.size, 0, none⟩) 0 0) ([] : List Vc.D).length (flat []) from World.ownsRow_lit (base := w5.heap.size) (e := 26) (size := 2) w5 #[] 0 (Nat.le_refl _) (by unfold maxLen; omega) rfl)
      go_wp2_with fail
      go_region_held3 (fun w' => w'.cell? ⟨w.heap.size, 1, none⟩ = some (.slice r2 E.length c2) ∧ w'.cell? ⟨w.heap.size + 1, 1, none⟩ = some (.slice q2 E2.length d2) ∧ Below w5.heap.size w5 w')
        (first
          | exact unhide SB5 _ (below_drew (Below.refl _ _))
          | exact unhide SB5 _ (keep_alloc' (And.right (And.right (by assumption))) _)
          | exact unhide SB5 _ (Below.trans (And.right (And.right (by assumption))) (by assumption)))
        (first
          | ((refine step_append_sl (by rfl) _ _ (by rfl) w5.heap.size _ [] (by rfl) (unhide E1) _ _ E (by rfl) ((unhide S2).after (And.right (And.right (by assumption)))) (by simp; omega) (Below.size (And.right (And.right (by assumption)))) ?_; intro v7 w7 hown7 hb7 hk7; rw [List.nil_append] at hown7; clear hk7))
          | ((refine step_append_sl (by rfl) _ _ (by rfl) w5.heap.size _ E (by rfl) hown7 _ _ E2 (by rfl) ((unhide T2).after (And.right (And.right (by assumption)))) (by omega) (Below.size (And.right (And.right (by assumption)))) ?_; intro v8 w8 hown8 hb8 hk8; clear hk8; rw [unhide HA] at hown8)))
      all_goals rename_i hHeld
      all_goals have hb58 := hHeld.2.2
      all_goals clear hHeld
      all_goals obtain ⟨rA, cA, rfl, hcA, hslA⟩ := own_sl rfl hown8
      all_goals have SA := hide hslA
      all_goals have HK := hide ((unhide hKept).after hb58)
      all_goals clear hslA hown8 hb8 hown7 hb7 hb58 hKept E1 SB5
      all_goals clear RS RT RV RO S1 S2 T1 T2 SB HB0 KC KD KJ HCB
      all_goals go_wp2_with fail
      all_goals
        generalize w3.heap.size = bO at HK ⊢
        go_loopw [7, 8] (fun l i wr => ∃ (j : Nat), j ≤ A.length ∧ i = .int .i64 j ∧ wr.ownsRow w8.heap.size 26 2 l ((A.take j).filter F).length (flat ((A.take j).filter F)) ∧ Below w8.heap.size w8 wr) (fun _ i _ => A.length - (intOf i).toNat)
        case atStart => exact ⟨0, Nat.zero_le _, rfl, World.ownsRow_nil _ _ _ _, Below.refl _ _⟩
        case round =>
          obtain ⟨j, hj, rfl, hown, hb⟩ := hrel
          have HO := hide hown
          have HB := hide hb
          have HKr := hide ((unhide HK).after hb)
          have SAr := hide ((unhide SA).after hb)
          have o0 := (unhide HKr).out.cell 0 _ rfl
          have hsz := hb.size
          have hfl : ((A.take j).filter F).length ≤ 80000 := Nat.le_trans (List.length_filter_le _ _) (by rw [List.length_take]; omega)
          clear hown hb
          by_cases hjl : j < A.length
          · obtain ⟨⟨px, cx⟩, hxx⟩ : ∃ x, A[j]? = some x := ⟨_, List.getElem?_eq_getElem hjl⟩
            obtain ⟨gX, oX, rfl, _, hcX⟩ := id (unhide SAr) (by omega)
            have x0 : wr.cell? ⟨gX, oX + j * 2, none⟩ = some (.int .i64 px) := (hcX j _ hxx).1
            have x1 : wr.cell? ⟨gX, oX + j * 2 + 1, none⟩ = some (.int .i64 cx) := (hcX j _ hxx).2
            have HFL := hide (show (A.take (j + 1)).filter F = ((A.take j).filter F) ++ ([(px, cx)].filter F) by rw [take_snoc hxx, List.filter_append])
            generalize ((A.take j).filter F) = L at HO HFL hfl
            have KP := hide fun W h => refHas_any rB cB J (by omega) px cx W h
            have u0 := cell_regrown x0
            have u1 := cell_regrown x1
            have u2 := cell_regrown o0
            clear hxx hcX
            by_cases hR : has J (px, cx) = true
            · rw [hR] at KP
              rw [show [(px, cx)].filter F = [] by simp [unhide HF, hR], List.append_nil] at HFL
              clear hR
              go_wp2_with fail
              refine wp_region_quiet_below (by kernel_rfl) (by kernel_rfl) ?_
              repeat (quiet_step (first | (go_at_call 37; exact Calls.regrown_of (unhide KP _ ((unhide HKr).sB.after (below_regrown _ _ _))))))
              refine wpQuiet_nil ?_
              intro _ hw'
              obtain ⟨⟨dq, osq⟩, hw''⟩ := hw'
              subst hw''
              go_wp2_with fail
              go_roundw
              case rel => exact ⟨j + 1, by omega, by go_num, by rw [unhide HFL]; exact own_after (unhide HO) (below_regrown _ _ _), (unhide HB).trans ((below_regrown _ _ _).mono (unhide HB).size)⟩
              case measure => simp [intOf]; omega
            · rw [Bool.not_eq_true] at hR
              rw [hR] at KP
              rw [show [(px, cx)].filter F = [(px, cx)] by simp [unhide HF, hR]] at HFL
              clear hR
              go_wp2_with fail
              refine wp_region_quiet_below (by kernel_rfl) (by kernel_rfl) ?_
              repeat (quiet_step (first | (go_at_call 37; exact Calls.regrown_of (unhide KP _ ((unhide HKr).sB.after (below_regrown _ _ _))))))
              refine wpQuiet_nil ?_
              intro _ hw'
              obtain ⟨⟨dq, osq⟩, hw''⟩ := hw'
              subst hw''
              have m0 := u0 dq osq
              have m1 := u1 dq osq
              have HBq := hide ((unhide HB).trans ((below_regrown wr dq osq).mono (unhide HB).size))
              have HOq := hide (own_after (unhide HO) (below_regrown wr dq osq))
              have hszq := (unhide HBq).size
              clear x0 x1 u0 u1 u2 o0 HB HO HKr SAr
              generalize Go.Sort.grow (redrawn wr dq) osq = wq at m0 m1 HBq HOq hszq ⊢
              go_wp2_with (at_builtin; refine append_sl (by rfl) _ _ (by rfl) w8.heap.size _ L (by rfl) ((unhide HOq).alloc _) _ _ [(px, cx)] (by rfl) (one_sl1 _ _ _) (by simp; omega) (by simp; omega) ?_; intro v9 w9 hown9 hb9; have HO9 := hide hown9; have HB9 := hide (((unhide HBq).alloc hszq _).trans hb9); clear hown9 hb9)
              go_roundw
              case rel => exact ⟨j + 1, by omega, by go_num, by rw [unhide HFL]; exact unhide HO9, unhide HB9⟩
              case measure => simp [intOf]; omega
          · obtain rfl : j = A.length := by omega
            rw [List.take_length] at HO hfl
            have hfl2 : (A.filter F).length ≤ A.length := List.length_filter_le _ _
            have HMF : Hid (∀ x ∈ A.filter F, Vc.Ok x) := hide (fun x hx => unhide HAO x (List.mem_filter.1 hx).1)
            generalize A.filter F = L2 at HO hfl hfl2 HLM HMF
            obtain ⟨rl, cl, rfl, hcl, hsl⟩ := own_sl rfl (unhide HO)
            have SL := hide hsl
            clear hcl hsl HO HB o0 hsz HK SA SAr
            generalize wr = wa at HKr SL ⊢
            go_wp2_with fail
            go_loopw [9] (fun i wr => ∃ (k : Nat) (y1 y2 : Option Addr) (e1 e2 : Nat) (P X : List Vc.D), k ≤ L2.length ∧ i = .int .i64 k ∧ Kept2 w bO y1 e1 P y2 e2 X wr ∧ Vc.SetOk P X ∧ (∀ x, Vc.In P X x ↔ Vc.In J [] x ∨ x ∈ L2.take k) ∧ X.length ≤ k ∧ Sl wr rl L2) (fun i _ => L2.length - (intOf i).toNat)
            case atStart => exact ⟨0, rB, none, cB, 0, J, [], Nat.zero_le _, rfl, unhide HKr, base_ok (unhide HJU), fun x => by simp, Nat.le_refl _, unhide SL⟩
            case round =>
              obtain ⟨k, y1, y2, e1, e2, P, X, hk, rfl, hkept, hok, hin, hXl, hsl⟩ := hrel
              have HK2 := hide hkept
              have HOK2 := hide hok
              have HIN := hide hin
              have HSL := hide hsl
              have hPl := Vc.vec_len hok.base
              have k0 := hkept.out.cell 0 _ rfl
              have k1 := hkept.out.cell 1 _ rfl
              clear hkept hok hin HKr SL
              by_cases hlt : k < L2.length
              · obtain ⟨⟨p, c⟩, hx⟩ : ∃ d, L2[k]? = some d := ⟨_, List.getElem?_eq_getElem hlt⟩
                obtain ⟨g, o, rfl, hg, hcell⟩ := hsl (by omega)
                have f0 : wr.cell? ⟨g, o + k * 2, none⟩ = some (.int .i64 p) := (hcell k _ hx).1
                have f1 : wr.cell? ⟨g, o + k * 2 + 1, none⟩ = some (.int .i64 c) := (hcell k _ hx).2
                have HX := hide hx
                have HOD := hide (unhide HMF _ (List.mem_of_getElem? hx))
                have K := hide fun W h h' => refAdd_any y1 y2 e1 e2 P X (by omega) (by omega) (unhide HK2).lB (unhide HK2).lX p c W h h'
                clear hx hg hcell
                go_wp2_with fail
                have hv0 : VRow wr.drew bO 24 [.slice y1 P.length e1, .slice y2 X.length e2] := (unhide HK2).out
                have K' := hide (unhide K wr.drew ((unhide HK2).sB.after (below_drew (Below.refl _ _))) ((unhide HK2).sX.after (below_drew (Below.refl _ _))))
                go_region_with (go_at_call 21; refine (unhide K').mono ?_; rintro e w1 ⟨v, B', E', is, rfl, ⟨z1, n1, z2, n2, rfl, hz1, hz2, g1, g2⟩, hb1, hEl', hgood, hbad⟩; have hv1 := hv0.after hb1; have kk0 := hv1.cell 0 _ rfl; have kk1 := hv1.cell 1 _ rfl; have kk2 := hv1.frozen 0; have kk3 := hv1.frozen 1)
                all_goals
                  obtain ⟨m1, m2, _, _⟩ := Vc.card_is (unhide HOK2) hgood hbad
                  have hO := (only_set w1 bO 0 (.slice z1 B'.length n1)).trans (only_set _ bO 1 (.slice z2 E'.length n2))
                  have hb2 := Below.trans (below_drew (Below.refl wr.heap.size wr)) hb1
                  have HN := hide (((unhide HK2).after hb2).put hO ((hv1.set 0 (.slice z1 B'.length n1)).set 1 (.slice z2 E'.length n2)) hz1 hz2 g1 g2)
                  have SN := hide (((unhide HSL).after hb2).only hv1 (two_slices _ _ _ _ _ _) hO)
                  have M1 := hide m1
                  have HIN2 : Hid (∀ x, Vc.In B' E' x ↔ Vc.In J [] x ∨ x ∈ L2.take (k + 1)) := hide (fun x => by
                    rw [m2 x, unhide HIN x, take_snoc (unhide HX), List.mem_append, List.mem_singleton]
                    constructor
                    · rintro ((h | h) | ⟨h, _⟩)
                      · exact .inl h
                      · exact .inr (.inl h)
                      · exact .inr (.inr h)
                    · rintro (h | h | h)
                      · exact .inl (.inl h)
                      · exact .inl (.inr h)
                      · exact .inr ⟨h, unhide HOD⟩)
                  clear m1 m2 hO hgood hbad hv1 kk0 kk1 kk2 kk3 g1 g2 hb1 hb2 hv0 K' K
                  go_wp2_with fail
                  go_roundw
                  case rel => exact ⟨k + 1, z1, z2, n1, n2, B', E', by omega, by go_num, unhide HN, unhide M1, unhide HIN2, by omega, unhide SN⟩
                  case measure => simp [intOf]; omega
              · obtain rfl : k = L2.length := by omega
                rw [List.take_length] at HIN
                go_wp2_with (refine store_row (by rfl) 24 _ _ (by rfl) (w.heap.size + 1 + 1) [.slice y1 P.length e1, .slice y2 X.length e2] (by rfl) (by rfl) 24 [.slice none 0 0, .slice none 0 0] (unhide HK2).res 2 size24 rfl rfl (two_one _ _ _ _ _ _) ?_; intro wz ho hr; have HO := hide ho; have HR := hide hr; clear ho hr)
                refine bodyPost_ret (v := .agg #[.slice y1 P.length e1, .slice y2 X.length e2]) (results_cell_row rfl _ _ (w.heap.size + 1 + 1) 24 _ (0, 0) _ rfl (unhide HR) Try.underlying24 rfl (by rw [size24]; rfl)) rfl ?_
                have hK2 := unhide HK2
                exact ⟨_, P, X, rfl, ⟨y1, e1, y2, e2, rfl, hK2.lB, hK2.lX, hK2.sB.only hK2.res (two_slices _ _ _ _ _ _) (unhide HO), hK2.sX.only hK2.res (two_slices _ _ _ _ _ _) (unhide HO)⟩, hK2.bel.trans ((unhide HO).below (by omega)), by have := unhide HAL; omega, hPl, fun _ => ⟨unhide HOK2, fun x => (unhide HIN x).trans (unhide HLM x)⟩, fun h => absurd (unhide HOK) h⟩
    · rw [hz] at KC
      have hzb : (Vc.checkS B2 E2 != 0) = true := bne_iff_ne.2 he
      have HBAD : Hid (¬ (Vc.checkS B E = 0 ∧ Vc.checkS B2 E2 = 0)) := hide (fun h => he h.2)
      have KD' : Hid (∀ W, Sl W q1 B2 → Sl W q2 E2 → Calls Try.prog 12 #[.agg #[.slice q1 B2.length d1, .slice q2 E2.length d2]] W fun e w' => e = .returned (.int .i64 (Vc.checkS B2 E2)) ∧ Below W.heap.size W w') := KD
      obtain ⟨X, hX⟩ : ∃ X, Vc.checkS B2 E2 = X := ⟨_, rfl⟩
      rw [hX] at KD' hzb
      clear KD hX he
      have KD := KD'
      clear KD'
      go_enter Try.func24, Try.ntmps24
      go_wp2_with fail
      generalize ((w.alloc (.cells #[.slice r1 B.length c1, .slice r2 E.length c2] 24)).alloc (.cells #[.slice q1 B2.length d1, .slice q2 E2.length d2] 24)).alloc (.cells #[.slice none 0 0, .slice none 0 0] 24) = w0 at HB0 RS RT RV S1 S2 T1 T2 rs0 rs1 rt0 rt1 ⊢
      refine (unhide KC _ (unhide S1) (unhide S2)).mono ?_
      rintro e w1 ⟨rfl, hb⟩
      replace HB0 := hide (below_grow (unhide HB0) (Nat.le_refl _) hb)
      replace RS := hide ((unhide RS).after hb)
      replace RT := hide ((unhide RT).after hb)
      replace RV := hide ((unhide RV).after hb)
      replace S1 := hide ((unhide S1).after hb)
      replace S2 := hide ((unhide S2).after hb)
      replace T1 := hide ((unhide T1).after hb)
      replace T2 := hide ((unhide T2).after hb)
      clear hb
      clear rs0 rs1 rt0 rt1
      have rt0 := (unhide RT).cell 0 _ rfl
      have rt1 := (unhide RT).cell 1 _ rfl
      go_wp2_with fail
      refine (unhide KD _ (unhide T1) (unhide T2)).mono ?_
      rintro e w2 ⟨rfl, hb⟩
      replace HB0 := hide (below_grow (unhide HB0) (Nat.le_refl _) hb)
      replace RS := hide ((unhide RS).after hb)
      replace RT := hide ((unhide RT).after hb)
      replace RV := hide ((unhide RV).after hb)
      replace S1 := hide ((unhide S1).after hb)
      replace S2 := hide ((unhide S2).after hb)
      replace T1 := hide ((unhide T1).after hb)
      replace T2 := hide ((unhide T2).after hb)
      clear hb
      clear rt0 rt1
      go_wp2_with (refine store_row (by rfl) 24 _ _ (by rfl) (w.heap.size + 1 + 1) [.slice none 0 0, .slice none 0 0] (by rfl) (by rfl) 24 [.slice none 0 0, .slice none 0 0] (unhide RV) 2 size24 rfl rfl (two_one _ _ _ _ _ _) ?_; intro w9 ho hr; have HR := hide hr; have HB9 := hide ((unhide HB0).trans (ho.below (by omega))); clear ho hr)
      refine bodyPost_ret (v := .agg #[.slice none 0 0, .slice none 0 0]) (results_cell_row rfl _ _ (w.heap.size + 1 + 1) 24 _ (0, 0) _ rfl (unhide HR) Try.underlying24 rfl (by rw [size24]; rfl)) rfl ?_
      exact ⟨_, [], [], rfl, ⟨none, 0, none, 0, rfl, Nat.le_refl _, Nat.le_refl _, Sl.none _ _, Sl.none _ _⟩, unhide HB9, by simp, by simp, fun h => absurd h (unhide HBAD), fun _ => ⟨rfl, rfl⟩⟩
  · have hzb : (Vc.checkS B E != 0) = true := bne_iff_ne.2 hz
    have HBAD : Hid (¬ (Vc.checkS B E = 0 ∧ Vc.checkS B2 E2 = 0)) := hide (fun h => hz h.1)
    have KC' : Hid (∀ W, Sl W r1 B → Sl W r2 E → Calls Try.prog 12 #[.agg #[.slice r1 B.length c1, .slice r2 E.length c2]] W fun e w' => e = .returned (.int .i64 (Vc.checkS B E)) ∧ Below W.heap.size W w') := KC
    obtain ⟨X, hX⟩ : ∃ X, Vc.checkS B E = X := ⟨_, rfl⟩
    rw [hX] at KC' hzb
    clear KC hX hz
    have KC := KC'
    clear KC'
    go_enter Try.func24, Try.ntmps24
    go_wp2_with fail
    generalize ((w.alloc (.cells #[.slice r1 B.length c1, .slice r2 E.length c2] 24)).alloc (.cells #[.slice q1 B2.length d1, .slice q2 E2.length d2] 24)).alloc (.cells #[.slice none 0 0, .slice none 0 0] 24) = w0 at HB0 RS RT RV S1 S2 T1 T2 rs0 rs1 rt0 rt1 ⊢
    refine (unhide KC _ (unhide S1) (unhide S2)).mono ?_
    rintro e w1 ⟨rfl, hb⟩
    replace HB0 := hide (below_grow (unhide HB0) (Nat.le_refl _) hb)
    replace RS := hide ((unhide RS).after hb)
    replace RT := hide ((unhide RT).after hb)
    replace RV := hide ((unhide RV).after hb)
    replace S1 := hide ((unhide S1).after hb)
    replace S2 := hide ((unhide S2).after hb)
    replace T1 := hide ((unhide T1).after hb)
    replace T2 := hide ((unhide T2).after hb)
    clear hb
    clear rs0 rs1 rt0 rt1
    have rt0 := (unhide RT).cell 0 _ rfl
    have rt1 := (unhide RT).cell 1 _ rfl
    go_wp2_with (refine store_row (by rfl) 24 _ _ (by rfl) (w.heap.size + 1 + 1) [.slice none 0 0, .slice none 0 0] (by rfl) (by rfl) 24 [.slice none 0 0, .slice none 0 0] (unhide RV) 2 size24 rfl rfl (two_one _ _ _ _ _ _) ?_; intro w9 ho hr; have HR := hide hr; have HB9 := hide ((unhide HB0).trans (ho.below (by omega))); clear ho hr)
    refine bodyPost_ret (v := .agg #[.slice none 0 0, .slice none 0 0]) (results_cell_row rfl _ _ (w.heap.size + 1 + 1) 24 _ (0, 0) _ rfl (unhide HR) Try.underlying24 rfl (by rw [size24]; rfl)) rfl ?_
    exact ⟨_, [], [], rfl, ⟨none, 0, none, 0, rfl, Nat.le_refl _, Nat.le_refl _, Sl.none _ _, Sl.none _ _⟩, unhide HB9, by simp, by simp, fun h => absurd h (unhide HBAD), fun _ => ⟨rfl, rfl⟩⟩
end Go.Proofs.Ytpcfblpenealbaa
