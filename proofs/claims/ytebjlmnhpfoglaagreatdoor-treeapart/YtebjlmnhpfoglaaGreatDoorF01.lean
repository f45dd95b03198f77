/-
  The walk of the statement on two trees. Conditions: those that each theorem names.
-/
import Derived.Test.YtebjlmnhpfoglaaGreatDoorB25
import Derived.Test.YtebjlmnhpfoglaaGreatDoorD01
namespace Go.Proofs.YtebjlmnhpfoglaaGreatDoor
open Go.RowKit

structure StAp (w : World) (q p : Option Addr) (T U : List En) (W : World) : Prop where
  b : Below w.heap.size w W
  e : Env W
  t : TrAt W q T
  u : TrAt W p U
theorem StAp.after {w W W' : World} {q p : Option Addr} {T U : List En} (h : StAp w q p T U W) (hb : Below W.heap.size W W') : StAp w q p T U W' := ⟨below_grow h.b (Nat.le_refl _) hb, h.e.below hb, h.t.after hb, h.u.after hb⟩
structure StXY (w : World) (q p r s : Option Addr) (T U : List En) (W : World) : Prop where
  a : StAp w q p T U W
  m : EL W r T
  n : EL W s U
theorem StXY.after {w W W' : World} {q p r s : Option Addr} {T U : List En} (h : StXY w q p r s T U W) (hb : Below W.heap.size W W') : StXY w q p r s T U W' := ⟨h.a.after hb, h.m.after hb, h.n.after hb⟩
theorem ent_few {T : List En} (h : Tr T) : ∀ x ∈ T, x.2.length ≤ 100000 ∧ ∀ v ∈ x.2, v.past.length ≤ 100000 := fun x hx => ⟨Nat.le_trans (leaf_fewT (h.leaf x hx).2).2 (show 64 ≤ 100000 by omega), fun v hv => Nat.le_trans (leaf_pasts (h.leaf x hx).2 v hv) (show 64 ≤ 100000 by omega)⟩
theorem eq_some (a b : List UInt8) (ha : a.length = 32) (hb : b.length = 32) (D : Bool) (hD : D = true ↔ a = b) : ∀ w, (Op.equalIn 10000 46 (.agg (a.map byteVal).toArray) (.agg (b.map byteVal).toArray)).run Tryz.prog w = .ok D w := fun w => by
  have h := eq_digD a b ha hb w
  have e : (a == b) = D := by
    cases D with
    | true => exact beq_iff_eq.2 (hD.1 rfl)
    | false => exact beq_eq_false_iff_ne.2 fun h => by have := hD.2 h; cases this
  rw [e] at h
  exact h

/-- Two trees' texts in one row. -/
theorem clash_all {t u : List En} (ht : Tr t) (hu : Tr u) : ∀ x ∈ textsF t ⟨#[]⟩ ++ textsF u ⟨#[]⟩, x.size ≤ 90000 := fun x hx => by
  rcases List.mem_append.1 hx with h | h
  · exact texts_size ht 4 _ x h
  · exact texts_size hu 4 _ x h

set_option maxRecDepth 100000 in
set_option maxHeartbeats 2500000 in
theorem apart_walk (a : Option Addr) (cap : Nat) (l : List En) (hl : l.length ≤ 9223372036854775807) (he : ∀ x ∈ l, EnOk x) (a' : Option Addr) (cap' : Nat) (l' : List En) (hl' : l'.length ≤ 9223372036854775807) (he' : ∀ x ∈ l', EnOk x) (w : World) (h : EL w a l) (h' : EL w a' l') (hE : Env w) :
    Calls Tryz.prog 7 #[.slice a l.length cap, .slice a' l'.length cap'] w fun e w' => e = .returned (.bool true) ∧ Below w.heap.size w w' := by
  have KG := hide (greatE_any a cap l 12 (by omega) hl (fun x hx => (he x hx).1) w h)
  have KG' := hide fun W (h : EL W a' l') => greatE_any a' cap' l' 12 (by omega) hl' (fun x hx => (he' x hx).1) W h
  have HS := hide h
  have HS' := hide h'
  have HE := hide hE
  have HOK := hide he
  have HOK' := hide he'
  have KA := hide fun W (h : Env W) => awakeT_any W h
  clear h h' hE he he'
  go_enter Tryz.func7, Tryz.ntmps7
  go_wp2_with fail
  refine (unhide KG).mono ?_
  rintro e w1 ⟨D, rfl, hD, hb⟩
  have HB1 := hide hb
  have HE1 := hide ((unhide HE).below hb)
  have HS1 := hide ((unhide HS).after hb)
  have HS1' := hide ((unhide HS').after hb)
  clear hb KG
  cases D with
  | true =>
    clear hD
    go_wp2_with fail
    refine (unhide KA w1 (unhide HE1)).mono ?_
    rintro e w2 ⟨rfl, hb⟩
    have HB2 := hide (below_grow (unhide HB1) (Nat.le_refl _) hb)
    clear hb
    go_wp2_with fail
    go_ret
    exact ⟨rfl, unhide HB2⟩
  | false =>
    have HD := hide (hD rfl)
    clear hD
    go_wp2_with fail
    refine (unhide KG' w1 (unhide HS1')).mono ?_
    rintro e w2 ⟨D, rfl, hD, hb⟩
    have HB2 := hide (below_grow (unhide HB1) (Nat.le_refl _) hb)
    have HE2 := hide ((unhide HE1).below hb)
    have HS2 := hide ((unhide HS1).after hb)
    have HS2' := hide ((unhide HS1').after hb)
    clear hb KG' HB1 HE1 HS1 HS1'
    cases D with
    | true =>
      clear hD
      go_wp2_with fail
      refine (unhide KA w2 (unhide HE2)).mono ?_
      rintro e w3 ⟨rfl, hb⟩
      have HB3 := hide (below_grow (unhide HB2) (Nat.le_refl _) hb)
      clear hb
      go_wp2_with fail
      go_ret
      exact ⟨rfl, unhide HB3⟩
    | false =>
      have HD' := hide (hD rfl)
      have HEOK := hide (eok_of (unhide HD) (by omega) (unhide HOK))
      have HEOK' := hide (eok_of (unhide HD') (by omega) (unhide HOK'))
      have KP := hide (treeOf_any a cap l (unhide HEOK) w2 (unhide HS2))
      have KP' := hide fun W (h : EL W a' l') => treeOf_any a' cap' l' (unhide HEOK') W h
      have HTR := hide (ofT_tr l)
      have HTR' := hide (ofT_tr l')
      have HTL : Hid ((ofT l).1.length ≤ 12) := hide (Nat.le_trans (ofT_len l) (unhide HD).1)
      have HTL' : Hid ((ofT l').1.length ≤ 12) := hide (Nat.le_trans (ofT_len l') (unhide HD').1)
      generalize ofT l = R at KP HTR HTL
      obtain ⟨T, E⟩ := R
      generalize ofT l' = R at KP' HTR' HTL'
      obtain ⟨U, F⟩ := R
      dsimp only at KP KP' HTR HTR' HTL HTL'
      clear hD HD HD' HOK HOK' HEOK HEOK'
      go_wp2_with fail
      refine (unhide KP).mono ?_
      rintro e w3 ⟨q, rfl, ht3, _, hb⟩
      have HB3 := hide (below_grow (unhide HB2) (Nat.le_refl _) hb)
      have HE3 := hide ((unhide HE2).below hb)
      have HT3 := hide ht3
      have HS3' := hide ((unhide HS2').after hb)
      clear hb ht3 KP HB2 HE2 HS2 HS2'
      go_wp2_with fail
      refine (unhide KP' w3 (unhide HS3')).mono ?_
      rintro e w4 ⟨p, rfl, ht4, _, hb⟩
      have HP4 := hide (show StAp w q p T U w4 from ⟨below_grow (unhide HB3) (Nat.le_refl _) hb, (unhide HE3).below hb, (unhide HT3).after hb, ht4⟩)
      clear hb ht4 KP' HB3 HE3 HS3' HT3
      by_cases hE0 : E = 0
      · by_cases hF0 : F = 0
        · subst hE0
          subst hF0
          have KE := hide (entries_any q T (by have := unhide HTL; omega) (ent_few (unhide HTR)) w4 (unhide HP4).t)
          have KE' := hide fun W (h : StAp w q p T U W) => entries_any p U (by have := unhide HTL'; omega) (ent_few (unhide HTR')) W h.u
          go_wp2_with fail
          refine (unhide KE).mono ?_
          rintro e w5 ⟨r, c, rfl, hc, hel, hb⟩
          have HP5 := hide ((unhide HP4).after hb)
          have HR5 := hide hel
          clear hb hel hc KE HP4
          go_wp2_with fail
          refine (unhide KE' w5 (unhide HP5)).mono ?_
          rintro e w6 ⟨s, c', rfl, hc, hel, hb⟩
          have HP6 := hide (show StXY w q p r s T U w6 from ⟨(unhide HP5).after hb, (unhide HR5).after hb, hel⟩)
          clear hb hel hc KE' HP5 HR5
          have KSh := hide fun W (h : StXY w q p r s T U W) => refShown_any r c T (unhide HTR).eok W h.m
          have KSh' := hide fun W (h : StXY w q p r s T U W) => refShown_any s c' U (unhide HTR').eok W h.n
          have KSeen := hide fun W (h : StXY w q p r s T U W) => treeSeen_any q T (unhide HTR) W h.a.t h.a.e.g h.a.e.s
          have KSeen' := hide fun W (h : StXY w q p r s T U W) => treeSeen_any p U (unhide HTR') W h.a.u h.a.e.g h.a.e.s
          have KRoot := hide fun W (h : StXY w q p r s T U W) => treeRoot_any q T (unhide HTR) W h.a.t h.a.e.g h.a.e.s
          have KRoot' := hide fun W (h : StXY w q p r s T U W) => treeRoot_any p U (unhide HTR') W h.a.u h.a.e.g h.a.e.s
          have KSm := hide fun r1 c1 r2 c2 W h1 h2 D hD => refSameT_any r1 r2 c1 c2 (shownT T) (shownT U) (unhide HTR).shown.eok (unhide HTR').shown.eok W h1 h2 D hD
          have KTS := hide fun W (h : StXY w q p r s T U W) D hD => treeSame_any q p T U (unhide HTR) (unhide HTR') W h.a.t h.a.u D hD
          have KTx := hide fun W (h : StXY w q p r s T U W) => refTextsO_any r c T (unhide HTR).eok (unhide HTL) 4 ⟨#[]⟩ (Nat.le_add_left _ _) (show (0 : Nat) ≤ 1000 by omega) W h.m h.a.e.k h.a.e.s
          have KTx' := hide fun W (h : StXY w q p r s T U W) => refTextsO_any s c' U (unhide HTR').eok (unhide HTL') 4 ⟨#[]⟩ (Nat.le_add_left _ _) (show (0 : Nat) ≤ 1000 by omega) W h.n h.a.e.k h.a.e.s
          have KTy := hide fun r1 c1 W (h : StXY w q p r s T U W) h1 => refTextsO_any r1 c1 (shownT T) (unhide HTR).shown.eok (Nat.le_trans (shown_len T) (unhide HTL)) 4 ⟨#[]⟩ (Nat.le_add_left _ _) (show (0 : Nat) ≤ 1000 by omega) W h1 h.a.e.k h.a.e.s
          have KTy' := hide fun r1 c1 W (h : StXY w q p r s T U W) h1 => refTextsO_any r1 c1 (shownT U) (unhide HTR').shown.eok (Nat.le_trans (shown_len U) (unhide HTL')) 4 ⟨#[]⟩ (Nat.le_add_left _ _) (show (0 : Nat) ≤ 1000 by omega) W h1 h.a.e.k h.a.e.s
          have HF1 := hide (textsF_few (unhide HTL) ⟨#[]⟩)
          have HF1' := hide (textsF_few (unhide HTL') ⟨#[]⟩)
          have HF2 := hide (textsF_few (Nat.le_trans (shown_len T) (unhide HTL)) ⟨#[]⟩)
          have HF2' := hide (textsF_few (Nat.le_trans (shown_len U) (unhide HTL')) ⟨#[]⟩)
          have HC1 := hide (clash_all (unhide HTR) (unhide HTR'))
          have HC2 := hide (clash_all (unhide HTR).shown (unhide HTR').shown)
          have HQ1 := hide (same_or_clash (unhide HTR) (unhide HTR'))
          have HQ2 := hide (same_or_clash (unhide HTR).shown (unhide HTR').shown)
          have HEQ1 := hide (eq_some (rootT T) (rootT U) (sumN_len _) (sumN_len _))
          have HEQ2 := hide (eq_some (rootT (shownT T)) (rootT (shownT U)) (sumN_len _) (sumN_len _))
          have HSU : Hid (T = U → shownT T = shownT U) := hide fun e => by rw [e]
          have HRU : Hid (T = U → rootT T = rootT U) := hide fun e => by rw [e]
          have HRS : Hid (shownT T = shownT U → rootT (shownT T) = rootT (shownT U)) := hide fun e => by rw [e]
          generalize textsF T ⟨#[]⟩ = X1 at KTx HF1 HC1 HQ1
          generalize textsF U ⟨#[]⟩ = X2 at KTx' HF1' HC1 HQ1
          generalize textsF (shownT T) ⟨#[]⟩ = Y1 at KTy HF2 HC2 HQ2
          generalize textsF (shownT U) ⟨#[]⟩ = Y2 at KTy' HF2' HC2 HQ2
          generalize rootT (shownT T) = G1 at KSeen HEQ2 HRS HQ2
          generalize rootT (shownT U) = G2 at KSeen' HEQ2 HRS HQ2
          generalize rootT T = D1 at KRoot HEQ1 HRU HQ1
          generalize rootT U = D2 at KRoot' HEQ1 HRU HQ1
          generalize shownT T = M1 at *
          generalize shownT U = M2 at *
          by_cases hTU0 : T = U
          · have hTU := hide hTU0
            have hsh := hide (unhide HSU hTU0)
            clear hTU0
            have hG := unhide HEQ2 true (by simpa using unhide HRS (unhide hsh))
            have hR := unhide HEQ1 true (by simpa using unhide HRU (unhide hTU))
            clear HEQ1 HEQ2 HQ1 HQ2 HC1 HC2
            go_wp2_with fail
            refine (unhide KSh w6 (unhide HP6)).mono ?_
            rintro e w7 ⟨r7, c7, rfl, hc, hel, hb⟩
            have HP7 := hide ((unhide HP6).after hb)
            have HM7 := hide hel
            clear hel hc
            clear hb
            go_wp2_with fail
            refine (unhide KSh' w7 (unhide HP7)).mono ?_
            rintro e w8 ⟨r8, c8, rfl, hc, hel, hb⟩
            have HP8 := hide ((unhide HP7).after hb)
            have HM8 := hide hel
            have HM7 := hide ((unhide HM7).after hb)
            clear hel hc
            clear hb
            go_wp2_with fail
            refine (unhide KSm r7 c7 r8 c8 w8 (unhide HM7) (unhide HM8) true (by simpa using unhide hsh)).mono ?_
            rintro e w9 ⟨rfl, hb⟩
            have HP9 := hide ((unhide HP8).after hb)
            clear hb
            go_wp2_with fail
            refine (unhide KSeen w9 (unhide HP9)).mono ?_
            rintro e w10 ⟨rfl, hb⟩
            have HP10 := hide ((unhide HP9).after hb)
            clear hb
            go_wp2_with fail
            refine (unhide KSeen' w10 (unhide HP10)).mono ?_
            rintro e w11 ⟨rfl, hb⟩
            have HP11 := hide ((unhide HP10).after hb)
            clear hb
            go_wp2_with fail
            refine (unhide KRoot w11 (unhide HP11)).mono ?_
            rintro e w12 ⟨rfl, hb⟩
            have HP12 := hide ((unhide HP11).after hb)
            clear hb
            go_wp2_with fail
            refine (unhide KRoot' w12 (unhide HP12)).mono ?_
            rintro e w13 ⟨rfl, hb⟩
            have HP13 := hide ((unhide HP12).after hb)
            clear hb
            go_wp2_with fail
            refine (unhide KTS w13 (unhide HP13) true (by simpa using unhide hTU)).mono ?_
            rintro e w14 ⟨rfl, hb⟩
            have HP14 := hide ((unhide HP13).after hb)
            clear hb
            go_wp2_with fail
            refine (unhide KSeen w14 (unhide HP14)).mono ?_
            rintro e w15 ⟨rfl, hb⟩
            have HP15 := hide ((unhide HP14).after hb)
            clear hb
            go_wp2_with fail
            refine (unhide KSeen' w15 (unhide HP15)).mono ?_
            rintro e w16 ⟨rfl, hb⟩
            have HP16 := hide ((unhide HP15).after hb)
            clear hb
            go_wp2_with fail
            refine (unhide KSh w16 (unhide HP16)).mono ?_
            rintro e w17 ⟨r7, c7, rfl, hc, hel, hb⟩
            have HP17 := hide ((unhide HP16).after hb)
            have HM7 := hide hel
            clear hel hc
            clear hb
            go_wp2_with fail
            refine (unhide KSh' w17 (unhide HP17)).mono ?_
            rintro e w18 ⟨r8, c8, rfl, hc, hel, hb⟩
            have HP18 := hide ((unhide HP17).after hb)
            have HM8 := hide hel
            have HM7 := hide ((unhide HM7).after hb)
            clear hel hc
            clear hb
            go_wp2_with fail
            refine (unhide KSm r7 c7 r8 c8 w18 (unhide HM7) (unhide HM8) true (by simpa using unhide hsh)).mono ?_
            rintro e w19 ⟨rfl, hb⟩
            have HP19 := hide ((unhide HP18).after hb)
            clear hb
            go_wp2_with fail
            refine (unhide KA w19 (unhide HP19).a.e).mono ?_
            rintro e w20 ⟨rfl, hb⟩
            have HP20 := hide ((unhide HP19).after hb)
            clear hb
            go_wp2_with fail
            go_ret
            exact ⟨by first | rfl | simp, (unhide HP20).a.b⟩
          · have hTU := hide hTU0
            clear hTU0
            by_cases hR0 : D1 = D2
            · replace hR0 := hide hR0
              have hR := unhide HEQ1 true (by simpa using unhide hR0)
              by_cases hsh : M1 = M2
              · replace hsh := hide hsh
                have hG := unhide HEQ2 true (by simpa using unhide HRS (unhide hsh))
                have hcl := hide ((unhide HQ1 (unhide hR0)).resolve_left (unhide hTU))
                clear HEQ1 HEQ2 HQ1 HQ2 HC2
                go_wp2_with fail
                refine (unhide KSh w6 (unhide HP6)).mono ?_
                rintro e w7 ⟨r7, c7, rfl, hc, hel, hb⟩
                have HP7 := hide ((unhide HP6).after hb)
                have HM7 := hide hel
                clear hel hc
                clear hb
                go_wp2_with fail
                refine (unhide KSh' w7 (unhide HP7)).mono ?_
                rintro e w8 ⟨r8, c8, rfl, hc, hel, hb⟩
                have HP8 := hide ((unhide HP7).after hb)
                have HM8 := hide hel
                have HM7 := hide ((unhide HM7).after hb)
                clear hel hc
                clear hb
                go_wp2_with fail
                refine (unhide KSm r7 c7 r8 c8 w8 (unhide HM7) (unhide HM8) true (by simpa using unhide hsh)).mono ?_
                rintro e w9 ⟨rfl, hb⟩
                have HP9 := hide ((unhide HP8).after hb)
                clear hb
                go_wp2_with fail
                refine (unhide KSeen w9 (unhide HP9)).mono ?_
                rintro e w10 ⟨rfl, hb⟩
                have HP10 := hide ((unhide HP9).after hb)
                clear hb
                go_wp2_with fail
                refine (unhide KSeen' w10 (unhide HP10)).mono ?_
                rintro e w11 ⟨rfl, hb⟩
                have HP11 := hide ((unhide HP10).after hb)
                clear hb
                go_wp2_with fail
                refine (unhide KRoot w11 (unhide HP11)).mono ?_
                rintro e w12 ⟨rfl, hb⟩
                have HP12 := hide ((unhide HP11).after hb)
                clear hb
                go_wp2_with fail
                refine (unhide KRoot' w12 (unhide HP12)).mono ?_
                rintro e w13 ⟨rfl, hb⟩
                have HP13 := hide ((unhide HP12).after hb)
                clear hb
                go_wp2_with fail
                refine (unhide KTS w13 (unhide HP13) false (by simpa using unhide hTU)).mono ?_
                rintro e w14 ⟨rfl, hb⟩
                have HP14 := hide ((unhide HP13).after hb)
                clear hb
                go_wp2_with fail
                refine (unhide KTx w14 (unhide HP14)).mono ?_
                rintro e v1 ⟨a1, c1, rfl, _, _, _, hb, hot⟩
                have HO1 := hide hot
                have HB1 := hide hb
                have HV1 := hide ((unhide HP14).after hb)
                clear hb hot
                go_wp2_with fail
                refine (unhide KTx' v1 (unhide HV1)).mono ?_
                rintro e v3 ⟨a3, c3, rfl, _, hsl3, _, hb, _⟩
                have HO3 := hide ((unhide HO1).after hb)
                have HB3 := hide (below_grow (unhide HB1) (Nat.le_refl _) hb)
                have HV3 := hide ((unhide HV1).after hb)
                have HSL3 := hide hsl3
                have hn1 := unhide HF1
                have hn2 := unhide HF1'
                clear hb hsl3
                go_wp2_with (at_builtin; refine append_txt (by rfl) _ _ (by rfl) w14.heap.size _ X1 (by rfl) (unhide HO3) a3 X2.length c3 X2 rfl (by rfl) (unhide HSL3) (by omega) (unhide HB3).size ?_; intro v7 w7 hot7 hb7 hg7 hv7; have HO7 := hide hot7; have HB7 := hide ((unhide HB3).trans hb7); clear hot7 hb7 hg7 hv7; obtain ⟨r9, c9, rfl, _, hs9, _⟩ := (unhide HO7).sl; have HS9 := hide hs9; clear hs9)
                have HP7 := hide ((unhide HP14).after (unhide HB7))
                have KC := hide (refClash_any r9 c9 (X1 ++ X2) (by rw [List.length_append]; omega) (unhide HC1) w7 (unhide HS9) (unhide HP7).a.e.k (unhide HP7).a.e.s)
                rw [unhide hcl, List.length_append] at KC
                refine (unhide KC).mono ?_
                rintro e w9 ⟨rfl, hb⟩
                have HP9 := hide ((unhide HP7).after hb)
                clear hb
                go_wp2_with fail
                go_ret
                exact ⟨by first | rfl | simp, (unhide HP9).a.b⟩
              · replace hsh := hide hsh
                have hcl := hide ((unhide HQ1 (unhide hR0)).resolve_left (unhide hTU))
                clear HEQ1 HEQ2 HQ1 HQ2 HC2
                go_wp2_with fail
                refine (unhide KSh w6 (unhide HP6)).mono ?_
                rintro e w7 ⟨r7, c7, rfl, hc, hel, hb⟩
                have HP7 := hide ((unhide HP6).after hb)
                have HM7 := hide hel
                clear hel hc
                clear hb
                go_wp2_with fail
                refine (unhide KSh' w7 (unhide HP7)).mono ?_
                rintro e w8 ⟨r8, c8, rfl, hc, hel, hb⟩
                have HP8 := hide ((unhide HP7).after hb)
                have HM8 := hide hel
                have HM7 := hide ((unhide HM7).after hb)
                clear hel hc
                clear hb
                go_wp2_with fail
                refine (unhide KSm r7 c7 r8 c8 w8 (unhide HM7) (unhide HM8) false (by simpa using unhide hsh)).mono ?_
                rintro e w9 ⟨rfl, hb⟩
                have HP9 := hide ((unhide HP8).after hb)
                clear hb
                go_wp2_with fail
                refine (unhide KRoot w9 (unhide HP9)).mono ?_
                rintro e w10 ⟨rfl, hb⟩
                have HP10 := hide ((unhide HP9).after hb)
                clear hb
                go_wp2_with fail
                refine (unhide KRoot' w10 (unhide HP10)).mono ?_
                rintro e w11 ⟨rfl, hb⟩
                have HP11 := hide ((unhide HP10).after hb)
                clear hb
                go_wp2_with fail
                refine (unhide KTS w11 (unhide HP11) false (by simpa using unhide hTU)).mono ?_
                rintro e w12 ⟨rfl, hb⟩
                have HP12 := hide ((unhide HP11).after hb)
                clear hb
                go_wp2_with fail
                refine (unhide KTx w12 (unhide HP12)).mono ?_
                rintro e v1 ⟨a1, c1, rfl, _, _, _, hb, hot⟩
                have HO1 := hide hot
                have HB1 := hide hb
                have HV1 := hide ((unhide HP12).after hb)
                clear hb hot
                go_wp2_with fail
                refine (unhide KTx' v1 (unhide HV1)).mono ?_
                rintro e v3 ⟨a3, c3, rfl, _, hsl3, _, hb, _⟩
                have HO3 := hide ((unhide HO1).after hb)
                have HB3 := hide (below_grow (unhide HB1) (Nat.le_refl _) hb)
                have HV3 := hide ((unhide HV1).after hb)
                have HSL3 := hide hsl3
                have hn1 := unhide HF1
                have hn2 := unhide HF1'
                clear hb hsl3
                go_wp2_with (at_builtin; refine append_txt (by rfl) _ _ (by rfl) w12.heap.size _ X1 (by rfl) (unhide HO3) a3 X2.length c3 X2 rfl (by rfl) (unhide HSL3) (by omega) (unhide HB3).size ?_; intro v7 w7 hot7 hb7 hg7 hv7; have HO7 := hide hot7; have HB7 := hide ((unhide HB3).trans hb7); clear hot7 hb7 hg7 hv7; obtain ⟨r9, c9, rfl, _, hs9, _⟩ := (unhide HO7).sl; have HS9 := hide hs9; clear hs9)
                have HP7 := hide ((unhide HP12).after (unhide HB7))
                have KC := hide (refClash_any r9 c9 (X1 ++ X2) (by rw [List.length_append]; omega) (unhide HC1) w7 (unhide HS9) (unhide HP7).a.e.k (unhide HP7).a.e.s)
                rw [unhide hcl, List.length_append] at KC
                refine (unhide KC).mono ?_
                rintro e w9 ⟨rfl, hb⟩
                have HP9 := hide ((unhide HP7).after hb)
                clear hb
                go_wp2_with fail
                go_ret
                exact ⟨by first | rfl | simp, (unhide HP9).a.b⟩
            · replace hR0 := hide hR0
              have hR := unhide HEQ1 false (by simpa using unhide hR0)
              by_cases hsh : M1 = M2
              · replace hsh := hide hsh
                have hG := unhide HEQ2 true (by simpa using unhide HRS (unhide hsh))
                clear HEQ1 HEQ2 HQ1 HQ2 HC1
                go_wp2_with fail
                refine (unhide KSh w6 (unhide HP6)).mono ?_
                rintro e w7 ⟨r7, c7, rfl, hc, hel, hb⟩
                have HP7 := hide ((unhide HP6).after hb)
                have HM7 := hide hel
                clear hel hc
                clear hb
                go_wp2_with fail
                refine (unhide KSh' w7 (unhide HP7)).mono ?_
                rintro e w8 ⟨r8, c8, rfl, hc, hel, hb⟩
                have HP8 := hide ((unhide HP7).after hb)
                have HM8 := hide hel
                have HM7 := hide ((unhide HM7).after hb)
                clear hel hc
                clear hb
                go_wp2_with fail
                refine (unhide KSm r7 c7 r8 c8 w8 (unhide HM7) (unhide HM8) true (by simpa using unhide hsh)).mono ?_
                rintro e w9 ⟨rfl, hb⟩
                have HP9 := hide ((unhide HP8).after hb)
                clear hb
                go_wp2_with fail
                refine (unhide KSeen w9 (unhide HP9)).mono ?_
                rintro e w10 ⟨rfl, hb⟩
                have HP10 := hide ((unhide HP9).after hb)
                clear hb
                go_wp2_with fail
                refine (unhide KSeen' w10 (unhide HP10)).mono ?_
                rintro e w11 ⟨rfl, hb⟩
                have HP11 := hide ((unhide HP10).after hb)
                clear hb
                go_wp2_with fail
                refine (unhide KRoot w11 (unhide HP11)).mono ?_
                rintro e w12 ⟨rfl, hb⟩
                have HP12 := hide ((unhide HP11).after hb)
                clear hb
                go_wp2_with fail
                refine (unhide KRoot' w12 (unhide HP12)).mono ?_
                rintro e w13 ⟨rfl, hb⟩
                have HP13 := hide ((unhide HP12).after hb)
                clear hb
                go_wp2_with fail
                refine (unhide KSeen w13 (unhide HP13)).mono ?_
                rintro e w14 ⟨rfl, hb⟩
                have HP14 := hide ((unhide HP13).after hb)
                clear hb
                go_wp2_with fail
                refine (unhide KSeen' w14 (unhide HP14)).mono ?_
                rintro e w15 ⟨rfl, hb⟩
                have HP15 := hide ((unhide HP14).after hb)
                clear hb
                go_wp2_with fail
                refine (unhide KSh w15 (unhide HP15)).mono ?_
                rintro e w16 ⟨r7, c7, rfl, hc, hel, hb⟩
                have HP16 := hide ((unhide HP15).after hb)
                have HM7 := hide hel
                clear hel hc
                clear hb
                go_wp2_with fail
                refine (unhide KSh' w16 (unhide HP16)).mono ?_
                rintro e w17 ⟨r8, c8, rfl, hc, hel, hb⟩
                have HP17 := hide ((unhide HP16).after hb)
                have HM8 := hide hel
                have HM7 := hide ((unhide HM7).after hb)
                clear hel hc
                clear hb
                go_wp2_with fail
                refine (unhide KSm r7 c7 r8 c8 w17 (unhide HM7) (unhide HM8) true (by simpa using unhide hsh)).mono ?_
                rintro e w18 ⟨rfl, hb⟩
                have HP18 := hide ((unhide HP17).after hb)
                clear hb
                go_wp2_with fail
                refine (unhide KA w18 (unhide HP18).a.e).mono ?_
                rintro e w19 ⟨rfl, hb⟩
                have HP19 := hide ((unhide HP18).after hb)
                clear hb
                go_wp2_with fail
                go_ret
                exact ⟨by first | rfl | simp, (unhide HP19).a.b⟩
              · replace hsh := hide hsh
                by_cases hG0 : G1 = G2
                · replace hG0 := hide hG0
                  have hG := unhide HEQ2 true (by simpa using unhide hG0)
                  have hcl := hide ((unhide HQ2 (unhide hG0)).resolve_left (unhide hsh))
                  clear HEQ1 HEQ2 HQ1 HQ2 HC1
                  go_wp2_with fail
                  refine (unhide KSh w6 (unhide HP6)).mono ?_
                  rintro e w7 ⟨r7, c7, rfl, hc, hel, hb⟩
                  have HP7 := hide ((unhide HP6).after hb)
                  have HM7 := hide hel
                  clear hel hc
                  clear hb
                  go_wp2_with fail
                  refine (unhide KSh' w7 (unhide HP7)).mono ?_
                  rintro e w8 ⟨r8, c8, rfl, hc, hel, hb⟩
                  have HP8 := hide ((unhide HP7).after hb)
                  have HM8 := hide hel
                  have HM7 := hide ((unhide HM7).after hb)
                  clear hel hc
                  clear hb
                  go_wp2_with fail
                  refine (unhide KSm r7 c7 r8 c8 w8 (unhide HM7) (unhide HM8) false (by simpa using unhide hsh)).mono ?_
                  rintro e w9 ⟨rfl, hb⟩
                  have HP9 := hide ((unhide HP8).after hb)
                  clear hb
                  go_wp2_with fail
                  refine (unhide KRoot w9 (unhide HP9)).mono ?_
                  rintro e w10 ⟨rfl, hb⟩
                  have HP10 := hide ((unhide HP9).after hb)
                  clear hb
                  go_wp2_with fail
                  refine (unhide KRoot' w10 (unhide HP10)).mono ?_
                  rintro e w11 ⟨rfl, hb⟩
                  have HP11 := hide ((unhide HP10).after hb)
                  clear hb
                  go_wp2_with fail
                  refine (unhide KSeen w11 (unhide HP11)).mono ?_
                  rintro e w12 ⟨rfl, hb⟩
                  have HP12 := hide ((unhide HP11).after hb)
                  clear hb
                  go_wp2_with fail
                  refine (unhide KSeen' w12 (unhide HP12)).mono ?_
                  rintro e w13 ⟨rfl, hb⟩
                  have HP13 := hide ((unhide HP12).after hb)
                  clear hb
                  go_wp2_with fail
                  refine (unhide KSh w13 (unhide HP13)).mono ?_
                  rintro e w14 ⟨r7, c7, rfl, hc, hel, hb⟩
                  have HP14 := hide ((unhide HP13).after hb)
                  have HM7 := hide hel
                  clear hel hc
                  clear hb
                  go_wp2_with fail
                  refine (unhide KSh' w14 (unhide HP14)).mono ?_
                  rintro e w15 ⟨r8, c8, rfl, hc, hel, hb⟩
                  have HP15 := hide ((unhide HP14).after hb)
                  have HM8 := hide hel
                  have HM7 := hide ((unhide HM7).after hb)
                  clear hel hc
                  clear hb
                  go_wp2_with fail
                  refine (unhide KSm r7 c7 r8 c8 w15 (unhide HM7) (unhide HM8) false (by simpa using unhide hsh)).mono ?_
                  rintro e w16 ⟨rfl, hb⟩
                  have HP16 := hide ((unhide HP15).after hb)
                  clear hb
                  go_wp2_with fail
                  refine (unhide KSh w16 (unhide HP16)).mono ?_
                  rintro e w17 ⟨r7, c7, rfl, hc, hel, hb⟩
                  have HP17 := hide ((unhide HP16).after hb)
                  have HM7 := hide hel
                  clear hel hc
                  clear hb
                  go_wp2_with fail
                  refine (unhide KTy r7 c7 w17 (unhide HP17) (unhide HM7)).mono ?_
                  rintro e v1 ⟨a1, c1, rfl, _, _, _, hb, hot⟩
                  have HO1 := hide hot
                  have HB1 := hide hb
                  have HV1 := hide ((unhide HP17).after hb)
                  clear hb hot
                  go_wp2_with fail
                  refine (unhide KSh' v1 (unhide HV1)).mono ?_
                  rintro e v2 ⟨r8, c8, rfl, hc, hel, hb⟩
                  have HO1 := hide ((unhide HO1).after hb)
                  have HB2 := hide (below_grow (unhide HB1) (Nat.le_refl _) hb)
                  have HV2 := hide ((unhide HV1).after hb)
                  have HM8 := hide hel
                  clear hb hel hc
                  go_wp2_with fail
                  refine (unhide KTy' r8 c8 v2 (unhide HV2) (unhide HM8)).mono ?_
                  rintro e v3 ⟨a3, c3, rfl, _, hsl3, _, hb, _⟩
                  have HO3 := hide ((unhide HO1).after hb)
                  have HB3 := hide (below_grow (unhide HB2) (Nat.le_refl _) hb)
                  have HV3 := hide ((unhide HV2).after hb)
                  have HSL3 := hide hsl3
                  have hn1 := unhide HF2
                  have hn2 := unhide HF2'
                  clear hb hsl3
                  go_wp2_with (at_builtin; refine append_txt (by rfl) _ _ (by rfl) w17.heap.size _ Y1 (by rfl) (unhide HO3) a3 Y2.length c3 Y2 rfl (by rfl) (unhide HSL3) (by omega) (unhide HB3).size ?_; intro v7 w7 hot7 hb7 hg7 hv7; have HO7 := hide hot7; have HB7 := hide ((unhide HB3).trans hb7); clear hot7 hb7 hg7 hv7; obtain ⟨r9, c9, rfl, _, hs9, _⟩ := (unhide HO7).sl; have HS9 := hide hs9; clear hs9)
                  have HP7 := hide ((unhide HP17).after (unhide HB7))
                  have KC := hide (refClash_any r9 c9 (Y1 ++ Y2) (by rw [List.length_append]; omega) (unhide HC2) w7 (unhide HS9) (unhide HP7).a.e.k (unhide HP7).a.e.s)
                  rw [unhide hcl, List.length_append] at KC
                  refine (unhide KC).mono ?_
                  rintro e w9 ⟨rfl, hb⟩
                  have HP9 := hide ((unhide HP7).after hb)
                  clear hb
                  go_wp2_with fail
                  go_ret
                  exact ⟨by first | rfl | simp, (unhide HP9).a.b⟩
                · replace hG0 := hide hG0
                  have hG := unhide HEQ2 false (by simpa using unhide hG0)
                  clear HEQ1 HEQ2 HQ1 HQ2 HC1
                  go_wp2_with fail
                  refine (unhide KSh w6 (unhide HP6)).mono ?_
                  rintro e w7 ⟨r7, c7, rfl, hc, hel, hb⟩
                  have HP7 := hide ((unhide HP6).after hb)
                  have HM7 := hide hel
                  clear hel hc
                  clear hb
                  go_wp2_with fail
                  refine (unhide KSh' w7 (unhide HP7)).mono ?_
                  rintro e w8 ⟨r8, c8, rfl, hc, hel, hb⟩
                  have HP8 := hide ((unhide HP7).after hb)
                  have HM8 := hide hel
                  have HM7 := hide ((unhide HM7).after hb)
                  clear hel hc
                  clear hb
                  go_wp2_with fail
                  refine (unhide KSm r7 c7 r8 c8 w8 (unhide HM7) (unhide HM8) false (by simpa using unhide hsh)).mono ?_
                  rintro e w9 ⟨rfl, hb⟩
                  have HP9 := hide ((unhide HP8).after hb)
                  clear hb
                  go_wp2_with fail
                  refine (unhide KRoot w9 (unhide HP9)).mono ?_
                  rintro e w10 ⟨rfl, hb⟩
                  have HP10 := hide ((unhide HP9).after hb)
                  clear hb
                  go_wp2_with fail
                  refine (unhide KRoot' w10 (unhide HP10)).mono ?_
                  rintro e w11 ⟨rfl, hb⟩
                  have HP11 := hide ((unhide HP10).after hb)
                  clear hb
                  go_wp2_with fail
                  refine (unhide KSeen w11 (unhide HP11)).mono ?_
                  rintro e w12 ⟨rfl, hb⟩
                  have HP12 := hide ((unhide HP11).after hb)
                  clear hb
                  go_wp2_with fail
                  refine (unhide KSeen' w12 (unhide HP12)).mono ?_
                  rintro e w13 ⟨rfl, hb⟩
                  have HP13 := hide ((unhide HP12).after hb)
                  clear hb
                  go_wp2_with fail
                  refine (unhide KA w13 (unhide HP13).a.e).mono ?_
                  rintro e w14 ⟨rfl, hb⟩
                  have HP14 := hide ((unhide HP13).after hb)
                  clear hb
                  go_wp2_with fail
                  go_ret
                  exact ⟨by first | rfl | simp, (unhide HP14).a.b⟩
        · have hFn : (F == 0) = false := beq_eq_false_iff_ne.2 hF0
          have hFn' : (F != 0) = true := bne_iff_ne.2 hF0
          subst hE0
          go_wp2_with fail
          refine (unhide KA w4 (unhide HP4).e).mono ?_
          rintro e w5 ⟨rfl, hb⟩
          have HP5 := hide ((unhide HP4).after hb)
          clear hb
          go_wp2_with fail
          go_ret
          exact ⟨by first | rfl | simp, (unhide HP5).b⟩
      · have hEn : (E == 0) = false := beq_eq_false_iff_ne.2 hE0
        have hEn' : (E != 0) = true := bne_iff_ne.2 hE0
        go_wp2_with fail
        refine (unhide KA w4 (unhide HP4).e).mono ?_
        rintro e w5 ⟨rfl, hb⟩
        have HP5 := hide ((unhide HP4).after hb)
        clear hb
        go_wp2_with fail
        go_ret
        exact ⟨by first | rfl | simp, (unhide HP5).b⟩
end Go.Proofs.YtebjlmnhpfoglaaGreatDoor
