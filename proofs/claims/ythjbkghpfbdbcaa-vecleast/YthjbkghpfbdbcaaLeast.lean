/-
  The walk of the statement on what is least and greatest.
-/
import Derived.Test.YthjbkghpfbdbcaaLaws
namespace Go.Proofs.Ythjbkghpfbdbcaa
open Go.RowKit

theorem within_is (a b : Option Addr) (ca cb : Nat) (xs ys : List Vc.D) (hx : xs.length ≤ 100000) (hy : ys.length ≤ 100000) (hca : xs.length ≤ ca) (hcb : ys.length ≤ cb) (R : Bool) (hR : Vc.within xs ys = R) (w : World) (sa : Sl w a xs) (sb : Sl w b ys) :
    Calls Try.prog 26 #[.slice a xs.length ca, .slice b ys.length cb] w fun e w' => e = .returned (.bool R) ∧ Below w.heap.size w w' := by
  subst hR; exact within_any a b ca cb xs ys hx hy hca hcb w sa sb
theorem join_is (a b : Option Addr) (ca cb : Nat) (xs ys : List Vc.D) (hx : xs.length ≤ 100000) (hy : ys.length ≤ 100000) (hca : xs.length ≤ ca) (hcb : ys.length ≤ cb) (Z : List Vc.D) (hZ : Vc.joins xs ys = Z) (w : World) (sa : Sl w a xs) (sb : Sl w b ys) :
    Calls Try.prog 20 #[.slice a xs.length ca, .slice b ys.length cb] w fun e w' => ∃ r cap, e = .returned (.slice r Z.length cap) ∧ Z.length ≤ cap ∧ Sl w' r Z ∧ Below w.heap.size w w' := by
  subst hZ; exact join_any a b ca cb xs ys hx hy hca hcb w sa sb
theorem meet_is (a b : Option Addr) (ca cb : Nat) (xs ys : List Vc.D) (hx : xs.length ≤ 100000) (hy : ys.length ≤ 100000) (hca : xs.length ≤ ca) (hcb : ys.length ≤ cb) (Z : List Vc.D) (hZ : Vc.meets xs ys = Z) (w : World) (sa : Sl w a xs) (sb : Sl w b ys) :
    Calls Try.prog 22 #[.slice a xs.length ca, .slice b ys.length cb] w fun e w' => ∃ r cap, e = .returned (.slice r Z.length cap) ∧ Z.length ≤ cap ∧ Sl w' r Z ∧ Below w.heap.size w w' := by
  subst hZ; exact meet_any a b ca cb xs ys hx hy hca hcb w sa sb
theorem refSame_is (a1 a2 : Option Addr) (c1 c2 : Nat) (bs cs : List Vc.D) (hb : bs.length ≤ 100000) (h : bs = cs) (w : World) (h1 : Sl w a1 bs) (h2 : Sl w a2 cs) :
    Calls Try.prog 19 #[.slice a1 bs.length c1, .slice a2 cs.length c2] w fun e w' => e = .returned (.bool true) ∧ Below w.heap.size w w' :=
  refSame_any a1 a2 c1 c2 bs cs hb w h1 h2 true ⟨fun _ => h, fun _ => rfl⟩
theorem size_is (a : Option Addr) (cap : Nat) (ds : List Vc.D) (hl : ds.length ≤ 100000) (R : Int) (hR : Vc.size ds = R) (w : World) (h : Sl w a ds) :
    Calls Try.prog 17 #[.slice a ds.length cap] w fun e w' => e = .returned (.int .i64 R) ∧ Below w.heap.size w w' := by
  subst hR; exact size_any a cap ds hl w h
theorem check_is (a : Option Addr) (cap : Nat) (ds : List Vc.D) (hl : ds.length ≤ 100000) (R : Int) (hR : Vc.check ds = R) (w : World) (h : Sl w a ds) :
    Calls Try.prog 11 #[.slice a ds.length cap] w fun e w' => e = .returned (.int .i64 R) ∧ Below w.heap.size w w' := by
  subst hR; exact check_any a cap ds hl w h

theorem joins_vec {a b : List Vc.D} (ha : Vc.check a = 0) (hb : Vc.check b = 0) : Vc.joins a b = Vc.join a b := by unfold Vc.joins; rw [if_pos ⟨ha, hb⟩]
theorem meets_vec {a b : List Vc.D} (ha : Vc.check a = 0) (hb : Vc.check b = 0) : Vc.meets a b = Vc.meet a b := by unfold Vc.meets; rw [if_pos ⟨ha, hb⟩]

set_option maxRecDepth 100000 in
set_option maxHeartbeats 4000000 in
theorem least_walk (a b c : Option Addr) (ca cb cc : Nat) (xs ys zs : List Vc.D) (hca : xs.length ≤ ca) (hcb : ys.length ≤ cb) (hcc : zs.length ≤ cc) (w : World) (sa : Sl w a xs) (sb : Sl w b ys) (sc : Sl w c zs) :
    Calls Try.prog 7 #[.slice a xs.length ca, .slice b ys.length cb, .slice c zs.length cc] w fun e w' => e = .returned (.bool true) ∧ Below w.heap.size w w' := by
  have KM := hide (many3 w a b c xs.length ca ys.length cb zs.length cc)
  have HB := hide (below_alloc (w := w) (.cells #[.slice a xs.length ca, .slice b ys.length cb, .slice c zs.length cc] 22))
  have SA := hide (sa.after (unhide HB))
  have SB := hide (sb.after (unhide HB))
  have SC := hide (sc.after (unhide HB))
  clear sa sb sc
  by_cases h8 : 80 < xs.length ∨ 80 < ys.length ∨ 80 < zs.length
  · rw [decide_eq_true h8] at KM
    clear h8
    go_enter Try.func7, Try.ntmps7
    go_wp2_with fail
    refine (unhide KM).mono ?_
    rintro e w0 ⟨rfl, hw⟩
    subst hw
    go_wp2_with fail
    refine (awake_any _).mono ?_
    rintro e w1 ⟨rfl, hb⟩
    replace HB := hide (below_grow (unhide HB) (Nat.le_refl _) hb)
    replace SA := hide ((unhide SA).after hb)
    replace SB := hide ((unhide SB).after hb)
    replace SC := hide ((unhide SC).after hb)
    clear hb
    go_wp2_with fail
    go_ret
    exact ⟨rfl, unhide HB⟩
  · rw [decide_eq_false h8] at KM
    have hx : xs.length ≤ 100000 := by omega
    have hy : ys.length ≤ 100000 := by omega
    have hz : zs.length ≤ 100000 := by omega
    clear h8
    by_cases c1 : Vc.check xs = 0
    · by_cases c2 : Vc.check ys = 0
      · by_cases c3 : Vc.check zs = 0
        · have ux := (Vc.check_zero xs).1 c1
          have uy := (Vc.check_zero ys).1 c2
          have uz := (Vc.check_zero zs).1 c3
          obtain ⟨J, hJ⟩ : ∃ J, Vc.joins xs ys = J := ⟨_, rfl⟩
          obtain ⟨M, hM⟩ : ∃ M, Vc.meets xs ys = M := ⟨_, rfl⟩
          have HNJ : Hid (J.length ≤ 100000) := hide (by rw [← hJ]; have := Vc.joins_len xs ys; omega)
          have HNM : Hid (M.length ≤ 100000) := hide (by rw [← hM]; have := Vc.meets_len xs ys; omega)
          have i1 : Vc.within xs J = true := by rw [← hJ, joins_vec c1 c2]; exact Vc.within_left ux uy
          have i2 : Vc.within ys J = true := by rw [← hJ, joins_vec c1 c2]; exact Vc.within_right ux uy
          have i3 : Vc.within M xs = true := by rw [← hM, meets_vec c1 c2]; exact Vc.meet_left ux uy
          have i4 : Vc.within M ys = true := by rw [← hM, meets_vec c1 c2]; exact Vc.meet_right ux uy
          obtain ⟨X1, hX1⟩ : ∃ X, Vc.within xs zs = X := ⟨_, rfl⟩
          obtain ⟨X2, hX2⟩ : ∃ X, Vc.within ys zs = X := ⟨_, rfl⟩
          obtain ⟨Y1, hY1⟩ : ∃ X, Vc.within zs xs = X := ⟨_, rfl⟩
          obtain ⟨Y2, hY2⟩ : ∃ X, Vc.within zs ys = X := ⟨_, rfl⟩
          have i5 : Vc.within J zs = (X1 && X2) := by rw [← hJ, joins_vec c1 c2, Vc.join_least ux uy uz, hX1, hX2]
          have i6 : Vc.within zs M = (Y1 && Y2) := by rw [← hM, meets_vec c1 c2, Vc.meet_most ux uy uz, hY1, hY2]
          have HC1 := hide c1
          have HC2 := hide c2
          have HC3 := hide c3
          have HJ := hide hJ
          have HM := hide hM
          have I1 := hide i1
          have I2 := hide i2
          have I3 := hide i3
          have I4 := hide i4
          have I5 := hide i5
          have I6 := hide i6
          have HX1 := hide hX1
          have HX2 := hide hX2
          have HY1 := hide hY1
          have HY2 := hide hY2
          clear ux uy uz c1 c2 c3 hJ hM i1 i2 i3 i4 i5 i6 hX1 hX2 hY1 hY2
          cases X1 with
          | false =>
            rw [Bool.false_and] at I5
            cases Y1 with
            | false =>
              rw [Bool.false_and] at I6
              go_enter Try.func7, Try.ntmps7
              go_wp2_with fail
              refine (unhide KM).mono ?_
              rintro e w0 ⟨rfl, hw⟩
              subst hw
              go_wp2_with fail
              refine (check_is a ca xs hx 0 (unhide HC1) _ (unhide SA)).mono ?_
              rintro e w1 ⟨rfl, hb⟩
              replace HB := hide (below_grow (unhide HB) (Nat.le_refl _) hb)
              replace SA := hide ((unhide SA).after hb)
              replace SB := hide ((unhide SB).after hb)
              replace SC := hide ((unhide SC).after hb)
              clear hb
              go_wp2_with fail
              refine (check_is b cb ys hy 0 (unhide HC2) _ (unhide SB)).mono ?_
              rintro e w2 ⟨rfl, hb⟩
              replace HB := hide (below_grow (unhide HB) (Nat.le_refl _) hb)
              replace SA := hide ((unhide SA).after hb)
              replace SB := hide ((unhide SB).after hb)
              replace SC := hide ((unhide SC).after hb)
              clear hb
              go_wp2_with fail
              refine (check_is c cc zs hz 0 (unhide HC3) _ (unhide SC)).mono ?_
              rintro e w3 ⟨rfl, hb⟩
              replace HB := hide (below_grow (unhide HB) (Nat.le_refl _) hb)
              replace SA := hide ((unhide SA).after hb)
              replace SB := hide ((unhide SB).after hb)
              replace SC := hide ((unhide SC).after hb)
              clear hb
              go_wp2_with fail
              refine (join_is a b ca cb xs ys hx hy hca hcb J (unhide HJ) _ (unhide SA) (unhide SB)).mono ?_
              rintro e w4 ⟨rJ, capJ, rfl, hcapJ, hslJ, hb⟩
              replace HB := hide (below_grow (unhide HB) (Nat.le_refl _) hb)
              replace SA := hide ((unhide SA).after hb)
              replace SB := hide ((unhide SB).after hb)
              replace SC := hide ((unhide SC).after hb)
              have SJ := hide hslJ
              have HCJ := hide hcapJ
              clear hslJ hcapJ
              clear hb
              go_wp2_with fail
              refine (meet_is a b ca cb xs ys hx hy hca hcb M (unhide HM) _ (unhide SA) (unhide SB)).mono ?_
              rintro e w5 ⟨rM, capM, rfl, hcapM, hslM, hb⟩
              replace HB := hide (below_grow (unhide HB) (Nat.le_refl _) hb)
              replace SA := hide ((unhide SA).after hb)
              replace SB := hide ((unhide SB).after hb)
              replace SC := hide ((unhide SC).after hb)
              replace SJ := hide ((unhide SJ).after hb)
              have SM := hide hslM
              have HCM := hide hcapM
              clear hslM hcapM
              clear hb
              go_wp2_with fail
              refine (within_is a rJ ca capJ xs J hx (unhide HNJ) hca (unhide HCJ) true (unhide I1) _ (unhide SA) (unhide SJ)).mono ?_
              rintro e w6 ⟨rfl, hb⟩
              replace HB := hide (below_grow (unhide HB) (Nat.le_refl _) hb)
              replace SA := hide ((unhide SA).after hb)
              replace SB := hide ((unhide SB).after hb)
              replace SC := hide ((unhide SC).after hb)
              replace SJ := hide ((unhide SJ).after hb)
              replace SM := hide ((unhide SM).after hb)
              clear hb
              go_wp2_with fail
              refine (within_is b rJ cb capJ ys J hy (unhide HNJ) hcb (unhide HCJ) true (unhide I2) _ (unhide SB) (unhide SJ)).mono ?_
              rintro e w7 ⟨rfl, hb⟩
              replace HB := hide (below_grow (unhide HB) (Nat.le_refl _) hb)
              replace SA := hide ((unhide SA).after hb)
              replace SB := hide ((unhide SB).after hb)
              replace SC := hide ((unhide SC).after hb)
              replace SJ := hide ((unhide SJ).after hb)
              replace SM := hide ((unhide SM).after hb)
              clear hb
              go_wp2_with fail
              refine (within_is rM a capM ca M xs (unhide HNM) hx (unhide HCM) hca true (unhide I3) _ (unhide SM) (unhide SA)).mono ?_
              rintro e w8 ⟨rfl, hb⟩
              replace HB := hide (below_grow (unhide HB) (Nat.le_refl _) hb)
              replace SA := hide ((unhide SA).after hb)
              replace SB := hide ((unhide SB).after hb)
              replace SC := hide ((unhide SC).after hb)
              replace SJ := hide ((unhide SJ).after hb)
              replace SM := hide ((unhide SM).after hb)
              clear hb
              go_wp2_with fail
              refine (within_is rM b capM cb M ys (unhide HNM) hy (unhide HCM) hcb true (unhide I4) _ (unhide SM) (unhide SB)).mono ?_
              rintro e w9 ⟨rfl, hb⟩
              replace HB := hide (below_grow (unhide HB) (Nat.le_refl _) hb)
              replace SA := hide ((unhide SA).after hb)
              replace SB := hide ((unhide SB).after hb)
              replace SC := hide ((unhide SC).after hb)
              replace SJ := hide ((unhide SJ).after hb)
              replace SM := hide ((unhide SM).after hb)
              clear hb
              go_wp2_with fail
              refine (within_is a c ca cc xs zs hx hz hca hcc false (unhide HX1) _ (unhide SA) (unhide SC)).mono ?_
              rintro e w10 ⟨rfl, hb⟩
              replace HB := hide (below_grow (unhide HB) (Nat.le_refl _) hb)
              replace SA := hide ((unhide SA).after hb)
              replace SB := hide ((unhide SB).after hb)
              replace SC := hide ((unhide SC).after hb)
              replace SJ := hide ((unhide SJ).after hb)
              replace SM := hide ((unhide SM).after hb)
              clear hb
              go_wp2_with fail
              refine (within_is c a cc ca zs xs hz hx hcc hca false (unhide HY1) _ (unhide SC) (unhide SA)).mono ?_
              rintro e w11 ⟨rfl, hb⟩
              replace HB := hide (below_grow (unhide HB) (Nat.le_refl _) hb)
              replace SA := hide ((unhide SA).after hb)
              replace SB := hide ((unhide SB).after hb)
              replace SC := hide ((unhide SC).after hb)
              replace SJ := hide ((unhide SJ).after hb)
              replace SM := hide ((unhide SM).after hb)
              clear hb
              go_wp2_with fail
              refine (within_is rJ c capJ cc J zs (unhide HNJ) hz (unhide HCJ) hcc false (unhide I5) _ (unhide SJ) (unhide SC)).mono ?_
              rintro e w12 ⟨rfl, hb⟩
              replace HB := hide (below_grow (unhide HB) (Nat.le_refl _) hb)
              replace SA := hide ((unhide SA).after hb)
              replace SB := hide ((unhide SB).after hb)
              replace SC := hide ((unhide SC).after hb)
              replace SJ := hide ((unhide SJ).after hb)
              replace SM := hide ((unhide SM).after hb)
              clear hb
              go_wp2_with fail
              refine (within_is c rM cc capM zs M hz (unhide HNM) hcc (unhide HCM) false (unhide I6) _ (unhide SC) (unhide SM)).mono ?_
              rintro e w13 ⟨rfl, hb⟩
              replace HB := hide (below_grow (unhide HB) (Nat.le_refl _) hb)
              replace SA := hide ((unhide SA).after hb)
              replace SB := hide ((unhide SB).after hb)
              replace SC := hide ((unhide SC).after hb)
              replace SJ := hide ((unhide SJ).after hb)
              replace SM := hide ((unhide SM).after hb)
              clear hb
              go_wp2_with fail
              refine (awake_any _).mono ?_
              rintro e w14 ⟨rfl, hb⟩
              replace HB := hide (below_grow (unhide HB) (Nat.le_refl _) hb)
              replace SA := hide ((unhide SA).after hb)
              replace SB := hide ((unhide SB).after hb)
              replace SC := hide ((unhide SC).after hb)
              replace SJ := hide ((unhide SJ).after hb)
              replace SM := hide ((unhide SM).after hb)
              clear hb
              go_wp2_with fail
              go_ret
              exact ⟨rfl, unhide HB⟩
            | true =>
              rw [Bool.true_and] at I6
              go_enter Try.func7, Try.ntmps7
              go_wp2_with fail
              refine (unhide KM).mono ?_
              rintro e w0 ⟨rfl, hw⟩
              subst hw
              go_wp2_with fail
              refine (check_is a ca xs hx 0 (unhide HC1) _ (unhide SA)).mono ?_
              rintro e w1 ⟨rfl, hb⟩
              replace HB := hide (below_grow (unhide HB) (Nat.le_refl _) hb)
              replace SA := hide ((unhide SA).after hb)
              replace SB := hide ((unhide SB).after hb)
              replace SC := hide ((unhide SC).after hb)
              clear hb
              go_wp2_with fail
              refine (check_is b cb ys hy 0 (unhide HC2) _ (unhide SB)).mono ?_
              rintro e w2 ⟨rfl, hb⟩
              replace HB := hide (below_grow (unhide HB) (Nat.le_refl _) hb)
              replace SA := hide ((unhide SA).after hb)
              replace SB := hide ((unhide SB).after hb)
              replace SC := hide ((unhide SC).after hb)
              clear hb
              go_wp2_with fail
              refine (check_is c cc zs hz 0 (unhide HC3) _ (unhide SC)).mono ?_
              rintro e w3 ⟨rfl, hb⟩
              replace HB := hide (below_grow (unhide HB) (Nat.le_refl _) hb)
              replace SA := hide ((unhide SA).after hb)
              replace SB := hide ((unhide SB).after hb)
              replace SC := hide ((unhide SC).after hb)
              clear hb
              go_wp2_with fail
              refine (join_is a b ca cb xs ys hx hy hca hcb J (unhide HJ) _ (unhide SA) (unhide SB)).mono ?_
              rintro e w4 ⟨rJ, capJ, rfl, hcapJ, hslJ, hb⟩
              replace HB := hide (below_grow (unhide HB) (Nat.le_refl _) hb)
              replace SA := hide ((unhide SA).after hb)
              replace SB := hide ((unhide SB).after hb)
              replace SC := hide ((unhide SC).after hb)
              have SJ := hide hslJ
              have HCJ := hide hcapJ
              clear hslJ hcapJ
              clear hb
              go_wp2_with fail
              refine (meet_is a b ca cb xs ys hx hy hca hcb M (unhide HM) _ (unhide SA) (unhide SB)).mono ?_
              rintro e w5 ⟨rM, capM, rfl, hcapM, hslM, hb⟩
              replace HB := hide (below_grow (unhide HB) (Nat.le_refl _) hb)
              replace SA := hide ((unhide SA).after hb)
              replace SB := hide ((unhide SB).after hb)
              replace SC := hide ((unhide SC).after hb)
              replace SJ := hide ((unhide SJ).after hb)
              have SM := hide hslM
              have HCM := hide hcapM
              clear hslM hcapM
              clear hb
              go_wp2_with fail
              refine (within_is a rJ ca capJ xs J hx (unhide HNJ) hca (unhide HCJ) true (unhide I1) _ (unhide SA) (unhide SJ)).mono ?_
              rintro e w6 ⟨rfl, hb⟩
              replace HB := hide (below_grow (unhide HB) (Nat.le_refl _) hb)
              replace SA := hide ((unhide SA).after hb)
              replace SB := hide ((unhide SB).after hb)
              replace SC := hide ((unhide SC).after hb)
              replace SJ := hide ((unhide SJ).after hb)
              replace SM := hide ((unhide SM).after hb)
              clear hb
              go_wp2_with fail
              refine (within_is b rJ cb capJ ys J hy (unhide HNJ) hcb (unhide HCJ) true (unhide I2) _ (unhide SB) (unhide SJ)).mono ?_
              rintro e w7 ⟨rfl, hb⟩
              replace HB := hide (below_grow (unhide HB) (Nat.le_refl _) hb)
              replace SA := hide ((unhide SA).after hb)
              replace SB := hide ((unhide SB).after hb)
              replace SC := hide ((unhide SC).after hb)
              replace SJ := hide ((unhide SJ).after hb)
              replace SM := hide ((unhide SM).after hb)
              clear hb
              go_wp2_with fail
              refine (within_is rM a capM ca M xs (unhide HNM) hx (unhide HCM) hca true (unhide I3) _ (unhide SM) (unhide SA)).mono ?_
              rintro e w8 ⟨rfl, hb⟩
              replace HB := hide (below_grow (unhide HB) (Nat.le_refl _) hb)
              replace SA := hide ((unhide SA).after hb)
              replace SB := hide ((unhide SB).after hb)
              replace SC := hide ((unhide SC).after hb)
              replace SJ := hide ((unhide SJ).after hb)
              replace SM := hide ((unhide SM).after hb)
              clear hb
              go_wp2_with fail
              refine (within_is rM b capM cb M ys (unhide HNM) hy (unhide HCM) hcb true (unhide I4) _ (unhide SM) (unhide SB)).mono ?_
              rintro e w9 ⟨rfl, hb⟩
              replace HB := hide (below_grow (unhide HB) (Nat.le_refl _) hb)
              replace SA := hide ((unhide SA).after hb)
              replace SB := hide ((unhide SB).after hb)
              replace SC := hide ((unhide SC).after hb)
              replace SJ := hide ((unhide SJ).after hb)
              replace SM := hide ((unhide SM).after hb)
              clear hb
              go_wp2_with fail
              refine (within_is a c ca cc xs zs hx hz hca hcc false (unhide HX1) _ (unhide SA) (unhide SC)).mono ?_
              rintro e w10 ⟨rfl, hb⟩
              replace HB := hide (below_grow (unhide HB) (Nat.le_refl _) hb)
              replace SA := hide ((unhide SA).after hb)
              replace SB := hide ((unhide SB).after hb)
              replace SC := hide ((unhide SC).after hb)
              replace SJ := hide ((unhide SJ).after hb)
              replace SM := hide ((unhide SM).after hb)
              clear hb
              go_wp2_with fail
              refine (within_is c a cc ca zs xs hz hx hcc hca true (unhide HY1) _ (unhide SC) (unhide SA)).mono ?_
              rintro e w11 ⟨rfl, hb⟩
              replace HB := hide (below_grow (unhide HB) (Nat.le_refl _) hb)
              replace SA := hide ((unhide SA).after hb)
              replace SB := hide ((unhide SB).after hb)
              replace SC := hide ((unhide SC).after hb)
              replace SJ := hide ((unhide SJ).after hb)
              replace SM := hide ((unhide SM).after hb)
              clear hb
              go_wp2_with fail
              refine (within_is c b cc cb zs ys hz hy hcc hcb Y2 (unhide HY2) _ (unhide SC) (unhide SB)).mono ?_
              rintro e w12 ⟨rfl, hb⟩
              replace HB := hide (below_grow (unhide HB) (Nat.le_refl _) hb)
              replace SA := hide ((unhide SA).after hb)
              replace SB := hide ((unhide SB).after hb)
              replace SC := hide ((unhide SC).after hb)
              replace SJ := hide ((unhide SJ).after hb)
              replace SM := hide ((unhide SM).after hb)
              clear hb
              go_wp2_with fail
              refine (within_is rJ c capJ cc J zs (unhide HNJ) hz (unhide HCJ) hcc false (unhide I5) _ (unhide SJ) (unhide SC)).mono ?_
              rintro e w13 ⟨rfl, hb⟩
              replace HB := hide (below_grow (unhide HB) (Nat.le_refl _) hb)
              replace SA := hide ((unhide SA).after hb)
              replace SB := hide ((unhide SB).after hb)
              replace SC := hide ((unhide SC).after hb)
              replace SJ := hide ((unhide SJ).after hb)
              replace SM := hide ((unhide SM).after hb)
              clear hb
              go_wp2_with fail
              refine (within_is c rM cc capM zs M hz (unhide HNM) hcc (unhide HCM) Y2 (unhide I6) _ (unhide SC) (unhide SM)).mono ?_
              rintro e w14 ⟨rfl, hb⟩
              replace HB := hide (below_grow (unhide HB) (Nat.le_refl _) hb)
              replace SA := hide ((unhide SA).after hb)
              replace SB := hide ((unhide SB).after hb)
              replace SC := hide ((unhide SC).after hb)
              replace SJ := hide ((unhide SJ).after hb)
              replace SM := hide ((unhide SM).after hb)
              clear hb
              go_wp2_with fail
              refine (awake_any _).mono ?_
              rintro e w15 ⟨rfl, hb⟩
              replace HB := hide (below_grow (unhide HB) (Nat.le_refl _) hb)
              replace SA := hide ((unhide SA).after hb)
              replace SB := hide ((unhide SB).after hb)
              replace SC := hide ((unhide SC).after hb)
              replace SJ := hide ((unhide SJ).after hb)
              replace SM := hide ((unhide SM).after hb)
              clear hb
              go_wp2_with fail
              go_ret
              exact ⟨rfl, unhide HB⟩
          | true =>
            rw [Bool.true_and] at I5
            cases Y1 with
            | false =>
              rw [Bool.false_and] at I6
              go_enter Try.func7, Try.ntmps7
              go_wp2_with fail
              refine (unhide KM).mono ?_
              rintro e w0 ⟨rfl, hw⟩
              subst hw
              go_wp2_with fail
              refine (check_is a ca xs hx 0 (unhide HC1) _ (unhide SA)).mono ?_
              rintro e w1 ⟨rfl, hb⟩
              replace HB := hide (below_grow (unhide HB) (Nat.le_refl _) hb)
              replace SA := hide ((unhide SA).after hb)
              replace SB := hide ((unhide SB).after hb)
              replace SC := hide ((unhide SC).after hb)
              clear hb
              go_wp2_with fail
              refine (check_is b cb ys hy 0 (unhide HC2) _ (unhide SB)).mono ?_
              rintro e w2 ⟨rfl, hb⟩
              replace HB := hide (below_grow (unhide HB) (Nat.le_refl _) hb)
              replace SA := hide ((unhide SA).after hb)
              replace SB := hide ((unhide SB).after hb)
              replace SC := hide ((unhide SC).after hb)
              clear hb
              go_wp2_with fail
              refine (check_is c cc zs hz 0 (unhide HC3) _ (unhide SC)).mono ?_
              rintro e w3 ⟨rfl, hb⟩
              replace HB := hide (below_grow (unhide HB) (Nat.le_refl _) hb)
              replace SA := hide ((unhide SA).after hb)
              replace SB := hide ((unhide SB).after hb)
              replace SC := hide ((unhide SC).after hb)
              clear hb
              go_wp2_with fail
              refine (join_is a b ca cb xs ys hx hy hca hcb J (unhide HJ) _ (unhide SA) (unhide SB)).mono ?_
              rintro e w4 ⟨rJ, capJ, rfl, hcapJ, hslJ, hb⟩
              replace HB := hide (below_grow (unhide HB) (Nat.le_refl _) hb)
              replace SA := hide ((unhide SA).after hb)
              replace SB := hide ((unhide SB).after hb)
              replace SC := hide ((unhide SC).after hb)
              have SJ := hide hslJ
              have HCJ := hide hcapJ
              clear hslJ hcapJ
              clear hb
              go_wp2_with fail
              refine (meet_is a b ca cb xs ys hx hy hca hcb M (unhide HM) _ (unhide SA) (unhide SB)).mono ?_
              rintro e w5 ⟨rM, capM, rfl, hcapM, hslM, hb⟩
              replace HB := hide (below_grow (unhide HB) (Nat.le_refl _) hb)
              replace SA := hide ((unhide SA).after hb)
              replace SB := hide ((unhide SB).after hb)
              replace SC := hide ((unhide SC).after hb)
              replace SJ := hide ((unhide SJ).after hb)
              have SM := hide hslM
              have HCM := hide hcapM
              clear hslM hcapM
              clear hb
              go_wp2_with fail
              refine (within_is a rJ ca capJ xs J hx (unhide HNJ) hca (unhide HCJ) true (unhide I1) _ (unhide SA) (unhide SJ)).mono ?_
              rintro e w6 ⟨rfl, hb⟩
              replace HB := hide (below_grow (unhide HB) (Nat.le_refl _) hb)
              replace SA := hide ((unhide SA).after hb)
              replace SB := hide ((unhide SB).after hb)
              replace SC := hide ((unhide SC).after hb)
              replace SJ := hide ((unhide SJ).after hb)
              replace SM := hide ((unhide SM).after hb)
              clear hb
              go_wp2_with fail
              refine (within_is b rJ cb capJ ys J hy (unhide HNJ) hcb (unhide HCJ) true (unhide I2) _ (unhide SB) (unhide SJ)).mono ?_
              rintro e w7 ⟨rfl, hb⟩
              replace HB := hide (below_grow (unhide HB) (Nat.le_refl _) hb)
              replace SA := hide ((unhide SA).after hb)
              replace SB := hide ((unhide SB).after hb)
              replace SC := hide ((unhide SC).after hb)
              replace SJ := hide ((unhide SJ).after hb)
              replace SM := hide ((unhide SM).after hb)
              clear hb
              go_wp2_with fail
              refine (within_is rM a capM ca M xs (unhide HNM) hx (unhide HCM) hca true (unhide I3) _ (unhide SM) (unhide SA)).mono ?_
              rintro e w8 ⟨rfl, hb⟩
              replace HB := hide (below_grow (unhide HB) (Nat.le_refl _) hb)
              replace SA := hide ((unhide SA).after hb)
              replace SB := hide ((unhide SB).after hb)
              replace SC := hide ((unhide SC).after hb)
              replace SJ := hide ((unhide SJ).after hb)
              replace SM := hide ((unhide SM).after hb)
              clear hb
              go_wp2_with fail
              refine (within_is rM b capM cb M ys (unhide HNM) hy (unhide HCM) hcb true (unhide I4) _ (unhide SM) (unhide SB)).mono ?_
              rintro e w9 ⟨rfl, hb⟩
              replace HB := hide (below_grow (unhide HB) (Nat.le_refl _) hb)
              replace SA := hide ((unhide SA).after hb)
              replace SB := hide ((unhide SB).after hb)
              replace SC := hide ((unhide SC).after hb)
              replace SJ := hide ((unhide SJ).after hb)
              replace SM := hide ((unhide SM).after hb)
              clear hb
              go_wp2_with fail
              refine (within_is a c ca cc xs zs hx hz hca hcc true (unhide HX1) _ (unhide SA) (unhide SC)).mono ?_
              rintro e w10 ⟨rfl, hb⟩
              replace HB := hide (below_grow (unhide HB) (Nat.le_refl _) hb)
              replace SA := hide ((unhide SA).after hb)
              replace SB := hide ((unhide SB).after hb)
              replace SC := hide ((unhide SC).after hb)
              replace SJ := hide ((unhide SJ).after hb)
              replace SM := hide ((unhide SM).after hb)
              clear hb
              go_wp2_with fail
              refine (within_is b c cb cc ys zs hy hz hcb hcc X2 (unhide HX2) _ (unhide SB) (unhide SC)).mono ?_
              rintro e w11 ⟨rfl, hb⟩
              replace HB := hide (below_grow (unhide HB) (Nat.le_refl _) hb)
              replace SA := hide ((unhide SA).after hb)
              replace SB := hide ((unhide SB).after hb)
              replace SC := hide ((unhide SC).after hb)
              replace SJ := hide ((unhide SJ).after hb)
              replace SM := hide ((unhide SM).after hb)
              clear hb
              go_wp2_with fail
              refine (within_is c a cc ca zs xs hz hx hcc hca false (unhide HY1) _ (unhide SC) (unhide SA)).mono ?_
              rintro e w12 ⟨rfl, hb⟩
              replace HB := hide (below_grow (unhide HB) (Nat.le_refl _) hb)
              replace SA := hide ((unhide SA).after hb)
              replace SB := hide ((unhide SB).after hb)
              replace SC := hide ((unhide SC).after hb)
              replace SJ := hide ((unhide SJ).after hb)
              replace SM := hide ((unhide SM).after hb)
              clear hb
              go_wp2_with fail
              refine (within_is rJ c capJ cc J zs (unhide HNJ) hz (unhide HCJ) hcc X2 (unhide I5) _ (unhide SJ) (unhide SC)).mono ?_
              rintro e w13 ⟨rfl, hb⟩
              replace HB := hide (below_grow (unhide HB) (Nat.le_refl _) hb)
              replace SA := hide ((unhide SA).after hb)
              replace SB := hide ((unhide SB).after hb)
              replace SC := hide ((unhide SC).after hb)
              replace SJ := hide ((unhide SJ).after hb)
              replace SM := hide ((unhide SM).after hb)
              clear hb
              go_wp2_with fail
              refine (within_is c rM cc capM zs M hz (unhide HNM) hcc (unhide HCM) false (unhide I6) _ (unhide SC) (unhide SM)).mono ?_
              rintro e w14 ⟨rfl, hb⟩
              replace HB := hide (below_grow (unhide HB) (Nat.le_refl _) hb)
              replace SA := hide ((unhide SA).after hb)
              replace SB := hide ((unhide SB).after hb)
              replace SC := hide ((unhide SC).after hb)
              replace SJ := hide ((unhide SJ).after hb)
              replace SM := hide ((unhide SM).after hb)
              clear hb
              go_wp2_with fail
              refine (awake_any _).mono ?_
              rintro e w15 ⟨rfl, hb⟩
              replace HB := hide (below_grow (unhide HB) (Nat.le_refl _) hb)
              replace SA := hide ((unhide SA).after hb)
              replace SB := hide ((unhide SB).after hb)
              replace SC := hide ((unhide SC).after hb)
              replace SJ := hide ((unhide SJ).after hb)
              replace SM := hide ((unhide SM).after hb)
              clear hb
              go_wp2_with fail
              go_ret
              exact ⟨rfl, unhide HB⟩
            | true =>
              rw [Bool.true_and] at I6
              go_enter Try.func7, Try.ntmps7
              go_wp2_with fail
              refine (unhide KM).mono ?_
              rintro e w0 ⟨rfl, hw⟩
              subst hw
              go_wp2_with fail
              refine (check_is a ca xs hx 0 (unhide HC1) _ (unhide SA)).mono ?_
              rintro e w1 ⟨rfl, hb⟩
              replace HB := hide (below_grow (unhide HB) (Nat.le_refl _) hb)
              replace SA := hide ((unhide SA).after hb)
              replace SB := hide ((unhide SB).after hb)
              replace SC := hide ((unhide SC).after hb)
              clear hb
              go_wp2_with fail
              refine (check_is b cb ys hy 0 (unhide HC2) _ (unhide SB)).mono ?_
              rintro e w2 ⟨rfl, hb⟩
              replace HB := hide (below_grow (unhide HB) (Nat.le_refl _) hb)
              replace SA := hide ((unhide SA).after hb)
              replace SB := hide ((unhide SB).after hb)
              replace SC := hide ((unhide SC).after hb)
              clear hb
              go_wp2_with fail
              refine (check_is c cc zs hz 0 (unhide HC3) _ (unhide SC)).mono ?_
              rintro e w3 ⟨rfl, hb⟩
              replace HB := hide (below_grow (unhide HB) (Nat.le_refl _) hb)
              replace SA := hide ((unhide SA).after hb)
              replace SB := hide ((unhide SB).after hb)
              replace SC := hide ((unhide SC).after hb)
              clear hb
              go_wp2_with fail
              refine (join_is a b ca cb xs ys hx hy hca hcb J (unhide HJ) _ (unhide SA) (unhide SB)).mono ?_
              rintro e w4 ⟨rJ, capJ, rfl, hcapJ, hslJ, hb⟩
              replace HB := hide (below_grow (unhide HB) (Nat.le_refl _) hb)
              replace SA := hide ((unhide SA).after hb)
              replace SB := hide ((unhide SB).after hb)
              replace SC := hide ((unhide SC).after hb)
              have SJ := hide hslJ
              have HCJ := hide hcapJ
              clear hslJ hcapJ
              clear hb
              go_wp2_with fail
              refine (meet_is a b ca cb xs ys hx hy hca hcb M (unhide HM) _ (unhide SA) (unhide SB)).mono ?_
              rintro e w5 ⟨rM, capM, rfl, hcapM, hslM, hb⟩
              replace HB := hide (below_grow (unhide HB) (Nat.le_refl _) hb)
              replace SA := hide ((unhide SA).after hb)
              replace SB := hide ((unhide SB).after hb)
              replace SC := hide ((unhide SC).after hb)
              replace SJ := hide ((unhide SJ).after hb)
              have SM := hide hslM
              have HCM := hide hcapM
              clear hslM hcapM
              clear hb
              go_wp2_with fail
              refine (within_is a rJ ca capJ xs J hx (unhide HNJ) hca (unhide HCJ) true (unhide I1) _ (unhide SA) (unhide SJ)).mono ?_
              rintro e w6 ⟨rfl, hb⟩
              replace HB := hide (below_grow (unhide HB) (Nat.le_refl _) hb)
              replace SA := hide ((unhide SA).after hb)
              replace SB := hide ((unhide SB).after hb)
              replace SC := hide ((unhide SC).after hb)
              replace SJ := hide ((unhide SJ).after hb)
              replace SM := hide ((unhide SM).after hb)
              clear hb
              go_wp2_with fail
              refine (within_is b rJ cb capJ ys J hy (unhide HNJ) hcb (unhide HCJ) true (unhide I2) _ (unhide SB) (unhide SJ)).mono ?_
              rintro e w7 ⟨rfl, hb⟩
              replace HB := hide (below_grow (unhide HB) (Nat.le_refl _) hb)
              replace SA := hide ((unhide SA).after hb)
              replace SB := hide ((unhide SB).after hb)
              replace SC := hide ((unhide SC).after hb)
              replace SJ := hide ((unhide SJ).after hb)
              replace SM := hide ((unhide SM).after hb)
              clear hb
              go_wp2_with fail
              refine (within_is rM a capM ca M xs (unhide HNM) hx (unhide HCM) hca true (unhide I3) _ (unhide SM) (unhide SA)).mono ?_
              rintro e w8 ⟨rfl, hb⟩
              replace HB := hide (below_grow (unhide HB) (Nat.le_refl _) hb)
              replace SA := hide ((unhide SA).after hb)
              replace SB := hide ((unhide SB).after hb)
              replace SC := hide ((unhide SC).after hb)
              replace SJ := hide ((unhide SJ).after hb)
              replace SM := hide ((unhide SM).after hb)
              clear hb
              go_wp2_with fail
              refine (within_is rM b capM cb M ys (unhide HNM) hy (unhide HCM) hcb true (unhide I4) _ (unhide SM) (unhide SB)).mono ?_
              rintro e w9 ⟨rfl, hb⟩
              replace HB := hide (below_grow (unhide HB) (Nat.le_refl _) hb)
              replace SA := hide ((unhide SA).after hb)
              replace SB := hide ((unhide SB).after hb)
              replace SC := hide ((unhide SC).after hb)
              replace SJ := hide ((unhide SJ).after hb)
              replace SM := hide ((unhide SM).after hb)
              clear hb
              go_wp2_with fail
              refine (within_is a c ca cc xs zs hx hz hca hcc true (unhide HX1) _ (unhide SA) (unhide SC)).mono ?_
              rintro e w10 ⟨rfl, hb⟩
              replace HB := hide (below_grow (unhide HB) (Nat.le_refl _) hb)
              replace SA := hide ((unhide SA).after hb)
              replace SB := hide ((unhide SB).after hb)
              replace SC := hide ((unhide SC).after hb)
              replace SJ := hide ((unhide SJ).after hb)
              replace SM := hide ((unhide SM).after hb)
              clear hb
              go_wp2_with fail
              refine (within_is b c cb cc ys zs hy hz hcb hcc X2 (unhide HX2) _ (unhide SB) (unhide SC)).mono ?_
              rintro e w11 ⟨rfl, hb⟩
              replace HB := hide (below_grow (unhide HB) (Nat.le_refl _) hb)
              replace SA := hide ((unhide SA).after hb)
              replace SB := hide ((unhide SB).after hb)
              replace SC := hide ((unhide SC).after hb)
              replace SJ := hide ((unhide SJ).after hb)
              replace SM := hide ((unhide SM).after hb)
              clear hb
              go_wp2_with fail
              refine (within_is c a cc ca zs xs hz hx hcc hca true (unhide HY1) _ (unhide SC) (unhide SA)).mono ?_
              rintro e w12 ⟨rfl, hb⟩
              replace HB := hide (below_grow (unhide HB) (Nat.le_refl _) hb)
              replace SA := hide ((unhide SA).after hb)
              replace SB := hide ((unhide SB).after hb)
              replace SC := hide ((unhide SC).after hb)
              replace SJ := hide ((unhide SJ).after hb)
              replace SM := hide ((unhide SM).after hb)
              clear hb
              go_wp2_with fail
              refine (within_is c b cc cb zs ys hz hy hcc hcb Y2 (unhide HY2) _ (unhide SC) (unhide SB)).mono ?_
              rintro e w13 ⟨rfl, hb⟩
              replace HB := hide (below_grow (unhide HB) (Nat.le_refl _) hb)
              replace SA := hide ((unhide SA).after hb)
              replace SB := hide ((unhide SB).after hb)
              replace SC := hide ((unhide SC).after hb)
              replace SJ := hide ((unhide SJ).after hb)
              replace SM := hide ((unhide SM).after hb)
              clear hb
              go_wp2_with fail
              refine (within_is rJ c capJ cc J zs (unhide HNJ) hz (unhide HCJ) hcc X2 (unhide I5) _ (unhide SJ) (unhide SC)).mono ?_
              rintro e w14 ⟨rfl, hb⟩
              replace HB := hide (below_grow (unhide HB) (Nat.le_refl _) hb)
              replace SA := hide ((unhide SA).after hb)
              replace SB := hide ((unhide SB).after hb)
              replace SC := hide ((unhide SC).after hb)
              replace SJ := hide ((unhide SJ).after hb)
              replace SM := hide ((unhide SM).after hb)
              clear hb
              go_wp2_with fail
              refine (within_is c rM cc capM zs M hz (unhide HNM) hcc (unhide HCM) Y2 (unhide I6) _ (unhide SC) (unhide SM)).mono ?_
              rintro e w15 ⟨rfl, hb⟩
              replace HB := hide (below_grow (unhide HB) (Nat.le_refl _) hb)
              replace SA := hide ((unhide SA).after hb)
              replace SB := hide ((unhide SB).after hb)
              replace SC := hide ((unhide SC).after hb)
              replace SJ := hide ((unhide SJ).after hb)
              replace SM := hide ((unhide SM).after hb)
              clear hb
              go_wp2_with fail
              refine (awake_any _).mono ?_
              rintro e w16 ⟨rfl, hb⟩
              replace HB := hide (below_grow (unhide HB) (Nat.le_refl _) hb)
              replace SA := hide ((unhide SA).after hb)
              replace SB := hide ((unhide SB).after hb)
              replace SC := hide ((unhide SC).after hb)
              replace SJ := hide ((unhide SJ).after hb)
              replace SM := hide ((unhide SM).after hb)
              clear hb
              go_wp2_with fail
              go_ret
              exact ⟨rfl, unhide HB⟩
        · obtain ⟨V, hV⟩ : ∃ V, Vc.check zs = V := ⟨_, rfl⟩
          have hvb : (V != 0) = true := bne_iff_ne.2 (by rw [← hV]; exact c3)
          go_enter Try.func7, Try.ntmps7
          go_wp2_with fail
          refine (unhide KM).mono ?_
          rintro e w0 ⟨rfl, hw⟩
          subst hw
          go_wp2_with fail
          refine (check_is a ca xs hx 0 c1 _ (unhide SA)).mono ?_
          rintro e w1 ⟨rfl, hb⟩
          replace HB := hide (below_grow (unhide HB) (Nat.le_refl _) hb)
          replace SA := hide ((unhide SA).after hb)
          replace SB := hide ((unhide SB).after hb)
          replace SC := hide ((unhide SC).after hb)
          clear hb
          go_wp2_with fail
          refine (check_is b cb ys hy 0 c2 _ (unhide SB)).mono ?_
          rintro e w2 ⟨rfl, hb⟩
          replace HB := hide (below_grow (unhide HB) (Nat.le_refl _) hb)
          replace SA := hide ((unhide SA).after hb)
          replace SB := hide ((unhide SB).after hb)
          replace SC := hide ((unhide SC).after hb)
          clear hb
          go_wp2_with fail
          refine (check_is c cc zs hz V hV _ (unhide SC)).mono ?_
          rintro e w3 ⟨rfl, hb⟩
          replace HB := hide (below_grow (unhide HB) (Nat.le_refl _) hb)
          replace SA := hide ((unhide SA).after hb)
          replace SB := hide ((unhide SB).after hb)
          replace SC := hide ((unhide SC).after hb)
          clear hb
          go_wp2_with fail
          refine (awake_any _).mono ?_
          rintro e w4 ⟨rfl, hb⟩
          replace HB := hide (below_grow (unhide HB) (Nat.le_refl _) hb)
          replace SA := hide ((unhide SA).after hb)
          replace SB := hide ((unhide SB).after hb)
          replace SC := hide ((unhide SC).after hb)
          clear hb
          go_wp2_with fail
          go_ret
          exact ⟨rfl, unhide HB⟩
      · obtain ⟨V, hV⟩ : ∃ V, Vc.check ys = V := ⟨_, rfl⟩
        have hvb : (V != 0) = true := bne_iff_ne.2 (by rw [← hV]; exact c2)
        go_enter Try.func7, Try.ntmps7
        go_wp2_with fail
        refine (unhide KM).mono ?_
        rintro e w0 ⟨rfl, hw⟩
        subst hw
        go_wp2_with fail
        refine (check_is a ca xs hx 0 c1 _ (unhide SA)).mono ?_
        rintro e w1 ⟨rfl, hb⟩
        replace HB := hide (below_grow (unhide HB) (Nat.le_refl _) hb)
        replace SA := hide ((unhide SA).after hb)
        replace SB := hide ((unhide SB).after hb)
        replace SC := hide ((unhide SC).after hb)
        clear hb
        go_wp2_with fail
        refine (check_is b cb ys hy V hV _ (unhide SB)).mono ?_
        rintro e w2 ⟨rfl, hb⟩
        replace HB := hide (below_grow (unhide HB) (Nat.le_refl _) hb)
        replace SA := hide ((unhide SA).after hb)
        replace SB := hide ((unhide SB).after hb)
        replace SC := hide ((unhide SC).after hb)
        clear hb
        go_wp2_with fail
        refine (awake_any _).mono ?_
        rintro e w3 ⟨rfl, hb⟩
        replace HB := hide (below_grow (unhide HB) (Nat.le_refl _) hb)
        replace SA := hide ((unhide SA).after hb)
        replace SB := hide ((unhide SB).after hb)
        replace SC := hide ((unhide SC).after hb)
        clear hb
        go_wp2_with fail
        go_ret
        exact ⟨rfl, unhide HB⟩
    · obtain ⟨V, hV⟩ : ∃ V, Vc.check xs = V := ⟨_, rfl⟩
      have hvb : (V != 0) = true := bne_iff_ne.2 (by rw [← hV]; exact c1)
      go_enter Try.func7, Try.ntmps7
      go_wp2_with fail
      refine (unhide KM).mono ?_
      rintro e w0 ⟨rfl, hw⟩
      subst hw
      go_wp2_with fail
      refine (check_is a ca xs hx V hV _ (unhide SA)).mono ?_
      rintro e w1 ⟨rfl, hb⟩
      replace HB := hide (below_grow (unhide HB) (Nat.le_refl _) hb)
      replace SA := hide ((unhide SA).after hb)
      replace SB := hide ((unhide SB).after hb)
      replace SC := hide ((unhide SC).after hb)
      clear hb
      go_wp2_with fail
      refine (awake_any _).mono ?_
      rintro e w2 ⟨rfl, hb⟩
      replace HB := hide (below_grow (unhide HB) (Nat.le_refl _) hb)
      replace SA := hide ((unhide SA).after hb)
      replace SB := hide ((unhide SB).after hb)
      replace SC := hide ((unhide SC).after hb)
      clear hb
      go_wp2_with fail
      go_ret
      exact ⟨rfl, unhide HB⟩
end Go.Proofs.Ythjbkghpfbdbcaa
