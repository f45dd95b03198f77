/-
  The walk of the statement on the order of putting together.
-/
import Derived.Test.YthjbkghpfbdbcaaLeast
namespace Go.Proofs.Ythjbkghpfbdbcaa
open Go.RowKit

set_option maxRecDepth 100000 in
set_option maxHeartbeats 4000000 in
theorem row_walk (a b c : Option Addr) (ca cb cc : Nat) (xs ys zs : List Vc.D) (hca : xs.length ≤ ca) (hcb : ys.length ≤ cb) (hcc : zs.length ≤ cc) (w : World) (sa : Sl w a xs) (sb : Sl w b ys) (sc : Sl w c zs) :
    Calls Try.prog 8 #[.slice a xs.length ca, .slice b ys.length cb, .slice c zs.length cc] w fun e w' => e = .returned (.bool true) ∧ Below w.heap.size w w' := by
  have KM := hide (many3 w a b c xs.length ca ys.length cb zs.length cc)
  have HB := hide (below_alloc (w := w) (.cells #[.slice a xs.length ca, .slice b ys.length cb, .slice c zs.length cc] 22))
  have SA := hide (sa.after (unhide HB))
  have SB := hide (sb.after (unhide HB))
  have SC := hide (sc.after (unhide HB))
  clear sa sb sc
  by_cases h8 : 80 < xs.length ∨ 80 < ys.length ∨ 80 < zs.length
  · rw [decide_eq_true h8] at KM
    clear h8
    go_enter Try.func8, Try.ntmps8
    go_wp2_with fail
    refine (unhide KM).mono ?_
    rintro e w0 ⟨rfl, hw⟩
    subst hw
    go_wp2_with fail
    refine (awake_any _).mono ?_
    rintro e w1 ⟨rfl, hb⟩
    replace HB := hide (below_grow (unhide HB) (Nat.le_refl _) hb)
    replace SA := hide ((unhide SA).after hb)
    replace SB := hide ((unhide SB).after hb)
    replace SC := hide ((unhide SC).after hb)
    clear hb
    go_wp2_with fail
    go_ret
    exact ⟨rfl, unhide HB⟩
  · rw [decide_eq_false h8] at KM
    have hx : xs.length ≤ 100000 := by omega
    have hy : ys.length ≤ 100000 := by omega
    have hz : zs.length ≤ 100000 := by omega
    clear h8
    by_cases c1 : Vc.check xs = 0
    · by_cases c2 : Vc.check ys = 0
      · by_cases c3 : Vc.check zs = 0
        · have ux := (Vc.check_zero xs).1 c1
          have uy := (Vc.check_zero ys).1 c2
          have uz := (Vc.check_zero zs).1 c3
          obtain ⟨J, hJ⟩ : ∃ J, Vc.joins xs ys = J := ⟨_, rfl⟩
          obtain ⟨M, hM⟩ : ∃ M, Vc.meets xs ys = M := ⟨_, rfl⟩
          obtain ⟨T, hT⟩ : ∃ T, Vc.joins xs xs = T := ⟨_, rfl⟩
          obtain ⟨U, hU⟩ : ∃ U, Vc.joins ys xs = U := ⟨_, rfl⟩
          obtain ⟨E, hE⟩ : ∃ E, Vc.joins J zs = E := ⟨_, rfl⟩
          obtain ⟨F, hF⟩ : ∃ F, Vc.joins ys zs = F := ⟨_, rfl⟩
          obtain ⟨G, hG⟩ : ∃ G, Vc.joins xs F = G := ⟨_, rfl⟩
          obtain ⟨Q, hQ⟩ : ∃ Q, Vc.meets J xs = Q := ⟨_, rfl⟩
          have cJ : Vc.check J = 0 := by rw [← hJ]; exact Vc.joins_ok xs ys
          have cF : Vc.check F = 0 := by rw [← hF]; exact Vc.joins_ok ys zs
          have HNJ : Hid (J.length ≤ 100000) := hide (by rw [← hJ]; have := Vc.joins_len xs ys; omega)
          have HNM : Hid (M.length ≤ 100000) := hide (by rw [← hM]; have := Vc.meets_len xs ys; omega)
          have HNT : Hid (T.length ≤ 100000) := hide (by rw [← hT]; have := Vc.joins_len xs xs; omega)
          have HNU : Hid (U.length ≤ 100000) := hide (by rw [← hU]; have := Vc.joins_len ys xs; omega)
          have HNE : Hid (E.length ≤ 100000) := hide (by rw [← hE]; have := Vc.joins_len J zs; omega)
          have HNF : Hid (F.length ≤ 100000) := hide (by rw [← hF]; have := Vc.joins_len ys zs; omega)
          have HNG : Hid (G.length ≤ 100000) := hide (by rw [← hG]; have := Vc.joins_len xs F; omega)
          have HNQ : Hid (Q.length ≤ 100000) := hide (by rw [← hQ]; have := Vc.meets_len J xs; omega)
          have i1 : T = xs := by rw [← hT, joins_vec c1 c1]; exact Vc.join_self ux
          have i2 : J = U := by rw [← hJ, ← hU, joins_vec c1 c2, joins_vec c2 c1]; exact Vc.join_comm ux uy
          have i3 : E = G := by rw [← hE, ← hG, joins_vec cJ c3, joins_vec c1 cF, ← hJ, ← hF, joins_vec c1 c2, joins_vec c2 c3]; exact Vc.join_assoc ux uy uz
          have i4 : Q = xs := by rw [← hQ, meets_vec cJ c1, ← hJ, joins_vec c1 c2]; exact Vc.meet_join ux uy
          obtain ⟨s1, hs1⟩ : ∃ s, Vc.size J = s := ⟨_, rfl⟩
          obtain ⟨s2, hs2⟩ : ∃ s, Vc.size M = s := ⟨_, rfl⟩
          obtain ⟨s3, hs3⟩ : ∃ s, Vc.size xs = s := ⟨_, rfl⟩
          obtain ⟨s4, hs4⟩ : ∃ s, Vc.size ys = s := ⟨_, rfl⟩
          have cM : Vc.check M = 0 := by rw [← hM]; exact Vc.meets_ok xs ys
          have e1 : Vc.size J = Vc.total J := by unfold Vc.size; rw [if_pos cJ]
          have e2 : Vc.size M = Vc.total M := by unfold Vc.size; rw [if_pos cM]
          have e3 : Vc.size xs = Vc.total xs := by unfold Vc.size; rw [if_pos c1]
          have e4 : Vc.size ys = Vc.total ys := by unfold Vc.size; rw [if_pos c2]
          have b1 := Vc.total_bd ((Vc.check_zero J).1 cJ)
          have b2 := Vc.total_bd ((Vc.check_zero M).1 cM)
          have b3 := Vc.total_bd ux
          have b4 := Vc.total_bd uy
          have l1 := Vc.vec_len ((Vc.check_zero J).1 cJ)
          have l2 := Vc.vec_len ((Vc.check_zero M).1 cM)
          have l3 := Vc.vec_len ux
          have l4 := Vc.vec_len uy
          have hsum : s1 + s2 = s3 + s4 := by
            have := Vc.total_join_meet ux uy
            rw [← joins_vec c1 c2, ← meets_vec c1 c2, hJ, hM] at this
            omega
          have q1 : 0 ≤ s1 ∧ s1 ≤ 67108864 := by omega
          have q2 : 0 ≤ s2 ∧ s2 ≤ 67108864 := by omega
          have q3 : 0 ≤ s3 ∧ s3 ≤ 67108864 := by omega
          have q4 : 0 ≤ s4 ∧ s4 ≤ 67108864 := by omega
          have HS1 := hide hs1
          have HS2 := hide hs2
          have HS3 := hide hs3
          have HS4 := hide hs4
          have HC1 := hide c1
          have HC2 := hide c2
          have HC3 := hide c3
          have HJ := hide hJ
          have HM := hide hM
          have HT := hide hT
          have HU := hide hU
          have HE := hide hE
          have HF := hide hF
          have HG := hide hG
          have HQ := hide hQ
          have I1 := hide i1
          have I2 := hide i2
          have I3 := hide i3
          have I4 := hide i4
          clear ux uy uz c1 c2 c3 hJ hM hT hU hE hF hG hQ i1 i2 i3 i4 cJ cF cM e1 e2 e3 e4 b1 b2 b3 b4 l1 l2 l3 l4 hs1 hs2 hs3 hs4
          go_enter Try.func8, Try.ntmps8
          go_wp2_with fail
          refine (unhide KM).mono ?_
          rintro e w0 ⟨rfl, hw⟩
          subst hw
          go_wp2_with fail
          refine (check_is a ca xs hx 0 (unhide HC1) _ (unhide SA)).mono ?_
          rintro e w1 ⟨rfl, hb⟩
          replace HB := hide (below_grow (unhide HB) (Nat.le_refl _) hb)
          replace SA := hide ((unhide SA).after hb)
          replace SB := hide ((unhide SB).after hb)
          replace SC := hide ((unhide SC).after hb)
          clear hb
          go_wp2_with fail
          refine (check_is b cb ys hy 0 (unhide HC2) _ (unhide SB)).mono ?_
          rintro e w2 ⟨rfl, hb⟩
          replace HB := hide (below_grow (unhide HB) (Nat.le_refl _) hb)
          replace SA := hide ((unhide SA).after hb)
          replace SB := hide ((unhide SB).after hb)
          replace SC := hide ((unhide SC).after hb)
          clear hb
          go_wp2_with fail
          refine (check_is c cc zs hz 0 (unhide HC3) _ (unhide SC)).mono ?_
          rintro e w3 ⟨rfl, hb⟩
          replace HB := hide (below_grow (unhide HB) (Nat.le_refl _) hb)
          replace SA := hide ((unhide SA).after hb)
          replace SB := hide ((unhide SB).after hb)
          replace SC := hide ((unhide SC).after hb)
          clear hb
          go_wp2_with fail
          refine (join_is a a ca ca xs xs hx hx hca hca T (unhide HT) _ (unhide SA) (unhide SA)).mono ?_
          rintro e w4 ⟨rT, capT, rfl, hcapT, hslT, hb⟩
          replace HB := hide (below_grow (unhide HB) (Nat.le_refl _) hb)
          replace SA := hide ((unhide SA).after hb)
          replace SB := hide ((unhide SB).after hb)
          replace SC := hide ((unhide SC).after hb)
          have ST := hide hslT
          have HCT := hide hcapT
          clear hslT hcapT
          clear hb
          go_wp2_with fail
          refine (refSame_is rT a capT ca T xs (unhide HNT) (unhide I1) _ (unhide ST) (unhide SA)).mono ?_
          rintro e w5 ⟨rfl, hb⟩
          replace HB := hide (below_grow (unhide HB) (Nat.le_refl _) hb)
          replace SA := hide ((unhide SA).after hb)
          replace SB := hide ((unhide SB).after hb)
          replace SC := hide ((unhide SC).after hb)
          replace ST := hide ((unhide ST).after hb)
          clear hb
          go_wp2_with fail
          refine (join_is a b ca cb xs ys hx hy hca hcb J (unhide HJ) _ (unhide SA) (unhide SB)).mono ?_
          rintro e w6 ⟨rJ, capJ, rfl, hcapJ, hslJ, hb⟩
          replace HB := hide (below_grow (unhide HB) (Nat.le_refl _) hb)
          replace SA := hide ((unhide SA).after hb)
          replace SB := hide ((unhide SB).after hb)
          replace SC := hide ((unhide SC).after hb)
          replace ST := hide ((unhide ST).after hb)
          have SJ := hide hslJ
          have HCJ := hide hcapJ
          clear hslJ hcapJ
          clear hb
          go_wp2_with fail
          refine (join_is b a cb ca ys xs hy hx hcb hca U (unhide HU) _ (unhide SB) (unhide SA)).mono ?_
          rintro e w7 ⟨rU, capU, rfl, hcapU, hslU, hb⟩
          replace HB := hide (below_grow (unhide HB) (Nat.le_refl _) hb)
          replace SA := hide ((unhide SA).after hb)
          replace SB := hide ((unhide SB).after hb)
          replace SC := hide ((unhide SC).after hb)
          replace ST := hide ((unhide ST).after hb)
          replace SJ := hide ((unhide SJ).after hb)
          have SU := hide hslU
          have HCU := hide hcapU
          clear hslU hcapU
          clear hb
          go_wp2_with fail
          refine (refSame_is rJ rU capJ capU J U (unhide HNJ) (unhide I2) _ (unhide SJ) (unhide SU)).mono ?_
          rintro e w8 ⟨rfl, hb⟩
          replace HB := hide (below_grow (unhide HB) (Nat.le_refl _) hb)
          replace SA := hide ((unhide SA).after hb)
          replace SB := hide ((unhide SB).after hb)
          replace SC := hide ((unhide SC).after hb)
          replace ST := hide ((unhide ST).after hb)
          replace SJ := hide ((unhide SJ).after hb)
          replace SU := hide ((unhide SU).after hb)
          clear hb
          clear SJ HCJ
          go_wp2_with fail
          refine (join_is a b ca cb xs ys hx hy hca hcb J (unhide HJ) _ (unhide SA) (unhide SB)).mono ?_
          rintro e w9 ⟨rJ, capJ, rfl, hcapJ, hslJ, hb⟩
          replace HB := hide (below_grow (unhide HB) (Nat.le_refl _) hb)
          replace SA := hide ((unhide SA).after hb)
          replace SB := hide ((unhide SB).after hb)
          replace SC := hide ((unhide SC).after hb)
          replace ST := hide ((unhide ST).after hb)
          replace SU := hide ((unhide SU).after hb)
          have SJ := hide hslJ
          have HCJ := hide hcapJ
          clear hslJ hcapJ
          clear hb
          go_wp2_with fail
          refine (join_is rJ c capJ cc J zs (unhide HNJ) hz (unhide HCJ) hcc E (unhide HE) _ (unhide SJ) (unhide SC)).mono ?_
          rintro e w10 ⟨rE, capE, rfl, hcapE, hslE, hb⟩
          replace HB := hide (below_grow (unhide HB) (Nat.le_refl _) hb)
          replace SA := hide ((unhide SA).after hb)
          replace SB := hide ((unhide SB).after hb)
          replace SC := hide ((unhide SC).after hb)
          replace ST := hide ((unhide ST).after hb)
          replace SU := hide ((unhide SU).after hb)
          replace SJ := hide ((unhide SJ).after hb)
          have SE := hide hslE
          have HCE := hide hcapE
          clear hslE hcapE
          clear hb
          go_wp2_with fail
          refine (join_is b c cb cc ys zs hy hz hcb hcc F (unhide HF) _ (unhide SB) (unhide SC)).mono ?_
          rintro e w11 ⟨rF, capF, rfl, hcapF, hslF, hb⟩
          replace HB := hide (below_grow (unhide HB) (Nat.le_refl _) hb)
          replace SA := hide ((unhide SA).after hb)
          replace SB := hide ((unhide SB).after hb)
          replace SC := hide ((unhide SC).after hb)
          replace ST := hide ((unhide ST).after hb)
          replace SU := hide ((unhide SU).after hb)
          replace SJ := hide ((unhide SJ).after hb)
          replace SE := hide ((unhide SE).after hb)
          have SF := hide hslF
          have HCF := hide hcapF
          clear hslF hcapF
          clear hb
          go_wp2_with fail
          refine (join_is a rF ca capF xs F hx (unhide HNF) hca (unhide HCF) G (unhide HG) _ (unhide SA) (unhide SF)).mono ?_
          rintro e w12 ⟨rG, capG, rfl, hcapG, hslG, hb⟩
          replace HB := hide (below_grow (unhide HB) (Nat.le_refl _) hb)
          replace SA := hide ((unhide SA).after hb)
          replace SB := hide ((unhide SB).after hb)
          replace SC := hide ((unhide SC).after hb)
          replace ST := hide ((unhide ST).after hb)
          replace SU := hide ((unhide SU).after hb)
          replace SJ := hide ((unhide SJ).after hb)
          replace SE := hide ((unhide SE).after hb)
          replace SF := hide ((unhide SF).after hb)
          have SG := hide hslG
          have HCG := hide hcapG
          clear hslG hcapG
          clear hb
          go_wp2_with fail
          refine (refSame_is rE rG capE capG E G (unhide HNE) (unhide I3) _ (unhide SE) (unhide SG)).mono ?_
          rintro e w13 ⟨rfl, hb⟩
          replace HB := hide (below_grow (unhide HB) (Nat.le_refl _) hb)
          replace SA := hide ((unhide SA).after hb)
          replace SB := hide ((unhide SB).after hb)
          replace SC := hide ((unhide SC).after hb)
          replace ST := hide ((unhide ST).after hb)
          replace SU := hide ((unhide SU).after hb)
          replace SJ := hide ((unhide SJ).after hb)
          replace SE := hide ((unhide SE).after hb)
          replace SF := hide ((unhide SF).after hb)
          replace SG := hide ((unhide SG).after hb)
          clear hb
          clear SJ HCJ
          go_wp2_with fail
          refine (join_is a b ca cb xs ys hx hy hca hcb J (unhide HJ) _ (unhide SA) (unhide SB)).mono ?_
          rintro e w14 ⟨rJ, capJ, rfl, hcapJ, hslJ, hb⟩
          replace HB := hide (below_grow (unhide HB) (Nat.le_refl _) hb)
          replace SA := hide ((unhide SA).after hb)
          replace SB := hide ((unhide SB).after hb)
          replace SC := hide ((unhide SC).after hb)
          replace ST := hide ((unhide ST).after hb)
          replace SU := hide ((unhide SU).after hb)
          replace SE := hide ((unhide SE).after hb)
          replace SF := hide ((unhide SF).after hb)
          replace SG := hide ((unhide SG).after hb)
          have SJ := hide hslJ
          have HCJ := hide hcapJ
          clear hslJ hcapJ
          clear hb
          go_wp2_with fail
          refine (size_is rJ capJ J (unhide HNJ) s1 (unhide HS1) _ (unhide SJ)).mono ?_
          rintro e w15 ⟨rfl, hb⟩
          replace HB := hide (below_grow (unhide HB) (Nat.le_refl _) hb)
          replace SA := hide ((unhide SA).after hb)
          replace SB := hide ((unhide SB).after hb)
          replace SC := hide ((unhide SC).after hb)
          replace ST := hide ((unhide ST).after hb)
          replace SU := hide ((unhide SU).after hb)
          replace SE := hide ((unhide SE).after hb)
          replace SF := hide ((unhide SF).after hb)
          replace SG := hide ((unhide SG).after hb)
          replace SJ := hide ((unhide SJ).after hb)
          clear hb
          go_wp2_with fail
          refine (meet_is a b ca cb xs ys hx hy hca hcb M (unhide HM) _ (unhide SA) (unhide SB)).mono ?_
          rintro e w16 ⟨rM, capM, rfl, hcapM, hslM, hb⟩
          replace HB := hide (below_grow (unhide HB) (Nat.le_refl _) hb)
          replace SA := hide ((unhide SA).after hb)
          replace SB := hide ((unhide SB).after hb)
          replace SC := hide ((unhide SC).after hb)
          replace ST := hide ((unhide ST).after hb)
          replace SU := hide ((unhide SU).after hb)
          replace SE := hide ((unhide SE).after hb)
          replace SF := hide ((unhide SF).after hb)
          replace SG := hide ((unhide SG).after hb)
          replace SJ := hide ((unhide SJ).after hb)
          have SM := hide hslM
          have HCM := hide hcapM
          clear hslM hcapM
          clear hb
          go_wp2_with fail
          refine (size_is rM capM M (unhide HNM) s2 (unhide HS2) _ (unhide SM)).mono ?_
          rintro e w17 ⟨rfl, hb⟩
          replace HB := hide (below_grow (unhide HB) (Nat.le_refl _) hb)
          replace SA := hide ((unhide SA).after hb)
          replace SB := hide ((unhide SB).after hb)
          replace SC := hide ((unhide SC).after hb)
          replace ST := hide ((unhide ST).after hb)
          replace SU := hide ((unhide SU).after hb)
          replace SE := hide ((unhide SE).after hb)
          replace SF := hide ((unhide SF).after hb)
          replace SG := hide ((unhide SG).after hb)
          replace SJ := hide ((unhide SJ).after hb)
          replace SM := hide ((unhide SM).after hb)
          clear hb
          go_wp2_with fail
          refine (size_is a ca xs hx s3 (unhide HS3) _ (unhide SA)).mono ?_
          rintro e w18 ⟨rfl, hb⟩
          replace HB := hide (below_grow (unhide HB) (Nat.le_refl _) hb)
          replace SA := hide ((unhide SA).after hb)
          replace SB := hide ((unhide SB).after hb)
          replace SC := hide ((unhide SC).after hb)
          replace ST := hide ((unhide ST).after hb)
          replace SU := hide ((unhide SU).after hb)
          replace SE := hide ((unhide SE).after hb)
          replace SF := hide ((unhide SF).after hb)
          replace SG := hide ((unhide SG).after hb)
          replace SJ := hide ((unhide SJ).after hb)
          replace SM := hide ((unhide SM).after hb)
          clear hb
          go_wp2_with fail
          refine (size_is b cb ys hy s4 (unhide HS4) _ (unhide SB)).mono ?_
          rintro e w19 ⟨rfl, hb⟩
          replace HB := hide (below_grow (unhide HB) (Nat.le_refl _) hb)
          replace SA := hide ((unhide SA).after hb)
          replace SB := hide ((unhide SB).after hb)
          replace SC := hide ((unhide SC).after hb)
          replace ST := hide ((unhide ST).after hb)
          replace SU := hide ((unhide SU).after hb)
          replace SE := hide ((unhide SE).after hb)
          replace SF := hide ((unhide SF).after hb)
          replace SG := hide ((unhide SG).after hb)
          replace SJ := hide ((unhide SJ).after hb)
          replace SM := hide ((unhide SM).after hb)
          clear hb
          clear SJ HCJ
          go_wp2_with fail
          refine (join_is a b ca cb xs ys hx hy hca hcb J (unhide HJ) _ (unhide SA) (unhide SB)).mono ?_
          rintro e w20 ⟨rJ, capJ, rfl, hcapJ, hslJ, hb⟩
          replace HB := hide (below_grow (unhide HB) (Nat.le_refl _) hb)
          replace SA := hide ((unhide SA).after hb)
          replace SB := hide ((unhide SB).after hb)
          replace SC := hide ((unhide SC).after hb)
          replace ST := hide ((unhide ST).after hb)
          replace SU := hide ((unhide SU).after hb)
          replace SE := hide ((unhide SE).after hb)
          replace SF := hide ((unhide SF).after hb)
          replace SG := hide ((unhide SG).after hb)
          replace SM := hide ((unhide SM).after hb)
          have SJ := hide hslJ
          have HCJ := hide hcapJ
          clear hslJ hcapJ
          clear hb
          go_wp2_with fail
          refine (meet_is rJ a capJ ca J xs (unhide HNJ) hx (unhide HCJ) hca Q (unhide HQ) _ (unhide SJ) (unhide SA)).mono ?_
          rintro e w21 ⟨rQ, capQ, rfl, hcapQ, hslQ, hb⟩
          replace HB := hide (below_grow (unhide HB) (Nat.le_refl _) hb)
          replace SA := hide ((unhide SA).after hb)
          replace SB := hide ((unhide SB).after hb)
          replace SC := hide ((unhide SC).after hb)
          replace ST := hide ((unhide ST).after hb)
          replace SU := hide ((unhide SU).after hb)
          replace SE := hide ((unhide SE).after hb)
          replace SF := hide ((unhide SF).after hb)
          replace SG := hide ((unhide SG).after hb)
          replace SM := hide ((unhide SM).after hb)
          replace SJ := hide ((unhide SJ).after hb)
          have SQ := hide hslQ
          have HCQ := hide hcapQ
          clear hslQ hcapQ
          clear hb
          go_wp2_with fail
          refine (refSame_is rQ a capQ ca Q xs (unhide HNQ) (unhide I4) _ (unhide SQ) (unhide SA)).mono ?_
          rintro e w22 ⟨rfl, hb⟩
          replace HB := hide (below_grow (unhide HB) (Nat.le_refl _) hb)
          replace SA := hide ((unhide SA).after hb)
          replace SB := hide ((unhide SB).after hb)
          replace SC := hide ((unhide SC).after hb)
          replace ST := hide ((unhide ST).after hb)
          replace SU := hide ((unhide SU).after hb)
          replace SE := hide ((unhide SE).after hb)
          replace SF := hide ((unhide SF).after hb)
          replace SG := hide ((unhide SG).after hb)
          replace SM := hide ((unhide SM).after hb)
          replace SJ := hide ((unhide SJ).after hb)
          replace SQ := hide ((unhide SQ).after hb)
          clear hb
          go_wp2_with fail
          refine (awake_any _).mono ?_
          rintro e w23 ⟨rfl, hb⟩
          replace HB := hide (below_grow (unhide HB) (Nat.le_refl _) hb)
          replace SA := hide ((unhide SA).after hb)
          replace SB := hide ((unhide SB).after hb)
          replace SC := hide ((unhide SC).after hb)
          replace ST := hide ((unhide ST).after hb)
          replace SU := hide ((unhide SU).after hb)
          replace SE := hide ((unhide SE).after hb)
          replace SF := hide ((unhide SF).after hb)
          replace SG := hide ((unhide SG).after hb)
          replace SM := hide ((unhide SM).after hb)
          replace SJ := hide ((unhide SJ).after hb)
          replace SQ := hide ((unhide SQ).after hb)
          clear hb
          go_wp2_with fail
          go_ret
          exact ⟨rfl, unhide HB⟩
        · obtain ⟨V, hV⟩ : ∃ V, Vc.check zs = V := ⟨_, rfl⟩
          have hvb : (V != 0) = true := bne_iff_ne.2 (by rw [← hV]; exact c3)
          go_enter Try.func8, Try.ntmps8
          go_wp2_with fail
          refine (unhide KM).mono ?_
          rintro e w0 ⟨rfl, hw⟩
          subst hw
          go_wp2_with fail
          refine (check_is a ca xs hx 0 c1 _ (unhide SA)).mono ?_
          rintro e w1 ⟨rfl, hb⟩
          replace HB := hide (below_grow (unhide HB) (Nat.le_refl _) hb)
          replace SA := hide ((unhide SA).after hb)
          replace SB := hide ((unhide SB).after hb)
          replace SC := hide ((unhide SC).after hb)
          clear hb
          go_wp2_with fail
          refine (check_is b cb ys hy 0 c2 _ (unhide SB)).mono ?_
          rintro e w2 ⟨rfl, hb⟩
          replace HB := hide (below_grow (unhide HB) (Nat.le_refl _) hb)
          replace SA := hide ((unhide SA).after hb)
          replace SB := hide ((unhide SB).after hb)
          replace SC := hide ((unhide SC).after hb)
          clear hb
          go_wp2_with fail
          refine (check_is c cc zs hz V hV _ (unhide SC)).mono ?_
          rintro e w3 ⟨rfl, hb⟩
          replace HB := hide (below_grow (unhide HB) (Nat.le_refl _) hb)
          replace SA := hide ((unhide SA).after hb)
          replace SB := hide ((unhide SB).after hb)
          replace SC := hide ((unhide SC).after hb)
          clear hb
          go_wp2_with fail
          refine (awake_any _).mono ?_
          rintro e w4 ⟨rfl, hb⟩
          replace HB := hide (below_grow (unhide HB) (Nat.le_refl _) hb)
          replace SA := hide ((unhide SA).after hb)
          replace SB := hide ((unhide SB).after hb)
          replace SC := hide ((unhide SC).after hb)
          clear hb
          go_wp2_with fail
          go_ret
          exact ⟨rfl, unhide HB⟩
      · obtain ⟨V, hV⟩ : ∃ V, Vc.check ys = V := ⟨_, rfl⟩
        have hvb : (V != 0) = true := bne_iff_ne.2 (by rw [← hV]; exact c2)
        go_enter Try.func8, Try.ntmps8
        go_wp2_with fail
        refine (unhide KM).mono ?_
        rintro e w0 ⟨rfl, hw⟩
        subst hw
        go_wp2_with fail
        refine (check_is a ca xs hx 0 c1 _ (unhide SA)).mono ?_
        rintro e w1 ⟨rfl, hb⟩
        replace HB := hide (below_grow (unhide HB) (Nat.le_refl _) hb)
        replace SA := hide ((unhide SA).after hb)
        replace SB := hide ((unhide SB).after hb)
        replace SC := hide ((unhide SC).after hb)
        clear hb
        go_wp2_with fail
        refine (check_is b cb ys hy V hV _ (unhide SB)).mono ?_
        rintro e w2 ⟨rfl, hb⟩
        replace HB := hide (below_grow (unhide HB) (Nat.le_refl _) hb)
        replace SA := hide ((unhide SA).after hb)
        replace SB := hide ((unhide SB).after hb)
        replace SC := hide ((unhide SC).after hb)
        clear hb
        go_wp2_with fail
        refine (awake_any _).mono ?_
        rintro e w3 ⟨rfl, hb⟩
        replace HB := hide (below_grow (unhide HB) (Nat.le_refl _) hb)
        replace SA := hide ((unhide SA).after hb)
        replace SB := hide ((unhide SB).after hb)
        replace SC := hide ((unhide SC).after hb)
        clear hb
        go_wp2_with fail
        go_ret
        exact ⟨rfl, unhide HB⟩
    · obtain ⟨V, hV⟩ : ∃ V, Vc.check xs = V := ⟨_, rfl⟩
      have hvb : (V != 0) = true := bne_iff_ne.2 (by rw [← hV]; exact c1)
      go_enter Try.func8, Try.ntmps8
      go_wp2_with fail
      refine (unhide KM).mono ?_
      rintro e w0 ⟨rfl, hw⟩
      subst hw
      go_wp2_with fail
      refine (check_is a ca xs hx V hV _ (unhide SA)).mono ?_
      rintro e w1 ⟨rfl, hb⟩
      replace HB := hide (below_grow (unhide HB) (Nat.le_refl _) hb)
      replace SA := hide ((unhide SA).after hb)
      replace SB := hide ((unhide SB).after hb)
      replace SC := hide ((unhide SC).after hb)
      clear hb
      go_wp2_with fail
      refine (awake_any _).mono ?_
      rintro e w2 ⟨rfl, hb⟩
      replace HB := hide (below_grow (unhide HB) (Nat.le_refl _) hb)
      replace SA := hide ((unhide SA).after hb)
      replace SB := hide ((unhide SB).after hb)
      replace SC := hide ((unhide SC).after hb)
      clear hb
      go_wp2_with fail
      go_ret
      exact ⟨rfl, unhide HB⟩
end Go.Proofs.Ythjbkghpfbdbcaa
