/-
  What Write and Erase answer: the document's.
-/
import Derived.Test.YtbghekolfcakeaaRefWrite
namespace Go.Proofs.Ytbghekolfcakeaa
open Go.RowKit

set_option maxRecDepth 100000 in
set_option maxHeartbeats 1000000 in
theorem refWriteV_any (a : Option Addr) (cap : Nat) (vs : List Vc.V) (hf : Few vs) (p n : Int) (data : ByteArray) (w : World) (h : SV w a vs) :
    Calls Try.prog 21 #[.slice a vs.length cap, .agg #[.int .i64 p, .int .i64 n], .string data] w (MadeVE All w (Vc.writeF vs (p, n) data)) := by
  have HB := hide (below_alloc' (w := w) (.cells #[.int .i64 p, .int .i64 n] 24))
  have RD := hide (VRow.new w 24 [.int .i64 p, .int .i64 n])
  have S := hide (h.after (unhide HB))
  have KC := hide fun W h => refCheckLeaf_any a cap vs hf W h
  have KD := hide fun W => refDot_any p n W
  have KO := hide fun W h => refOver_any a cap vs hf p n false data W h
  obtain ⟨R, hR⟩ : ∃ R, Vc.writeF vs (p, n) data = R := ⟨_, rfl⟩
  rw [hR]
  unfold Vc.writeF at hR
  have hl := hf.1
  generalize Vc.checkLeaf vs = X at KC hR
  generalize Vc.dotErr (p, n) = Y at KD hR
  generalize Vc.overF vs (p, n) false data = Z at KO hR
  clear h hf
  go_enter Try.func21, Try.ntmps21
  go_wp2_with fail
  generalize w.alloc (.cells #[.int .i64 p, .int .i64 n] 24) = w0 at HB RD S ⊢
  refine (unhide KC _ (unhide S)).mono ?_
  rintro e w1 ⟨rfl, hb⟩
  replace HB := hide (below_grow (unhide HB) (Nat.le_refl _) hb)
  replace RD := hide ((unhide RD).after hb)
  replace S := hide ((unhide S).after hb)
  clear hb
  by_cases hX : X = 0
  · subst hX
    rw [if_neg (by simp)] at hR
    have d0 := (unhide RD).cell 0 _ rfl
    have d1 := (unhide RD).cell 1 _ rfl
    go_wp2_with fail
    refine (unhide KD _).mono ?_
    rintro e w2 ⟨rfl, hb⟩
    replace HB := hide (below_grow (unhide HB) (Nat.le_refl _) hb)
    replace RD := hide ((unhide RD).after hb)
    replace S := hide ((unhide S).after hb)
    clear hb d0 d1
    by_cases hY : Y = 0
    · subst hY
      rw [if_neg (by simp)] at hR
      obtain ⟨m, hm⟩ : ∃ m, data.size = m := ⟨_, rfl⟩
      rw [hm] at hR
      by_cases h48 : 48 < m
      · have hd : decide ((48 : Int) < (m : Int)) = true := decide_eq_true (by omega)
        rw [if_pos h48] at hR
        subst hR
        go_wp2_with fail
        go_ret2
        exact ⟨none, 0, rfl, Nat.le_refl _, SV.none _ _, prov_all _ _ _, unhide HB⟩
      · have hd : decide ((48 : Int) < (m : Int)) = false := decide_eq_false (by omega)
        rw [if_neg h48] at hR
        subst hR
        have d0 := (unhide RD).cell 0 _ rfl
        have d1 := (unhide RD).cell 1 _ rfl
        go_wp2_with fail
        refine (unhide KO _ (unhide S)).mono ?_
        rintro e w3 ⟨r3, c3, rfl, hc3, hs3, _, hb⟩
        replace HB := hide (below_grow (unhide HB) (Nat.le_refl _) hb)
        have S3 := hide hs3
        clear hb d0 d1 hs3
        go_wp2_with fail
        go_ret2
        exact ⟨r3, c3, rfl, hc3, unhide S3, prov_all _ _ _, unhide HB⟩
    · rw [if_pos hY] at hR
      subst hR
      have hYb : (Y != 0) = true := bne_iff_ne.2 hY
      have hYc : (Y == 0) = false := by simpa using hY
      go_wp2_with fail
      go_ret2
      exact ⟨none, 0, rfl, Nat.le_refl _, SV.none _ _, prov_all _ _ _, unhide HB⟩
  · rw [if_pos hX] at hR
    subst hR
    have hXb : (X != 0) = true := bne_iff_ne.2 hX
    have hXc : (X == 0) = false := by simpa using hX
    go_wp2_with fail
    go_ret2
    exact ⟨none, 0, rfl, Nat.le_refl _, SV.none _ _, prov_all _ _ _, unhide HB⟩

set_option maxRecDepth 100000 in
set_option maxHeartbeats 1000000 in
theorem refErase_any (a : Option Addr) (cap : Nat) (vs : List Vc.V) (hf : Few vs) (p n : Int) (w : World) (h : SV w a vs) :
    Calls Try.prog 23 #[.slice a vs.length cap, .agg #[.int .i64 p, .int .i64 n]] w (MadeVE All w (Vc.eraseF vs (p, n))) := by
  have HB := hide (below_alloc' (w := w) (.cells #[.int .i64 p, .int .i64 n] 24))
  have RD := hide (VRow.new w 24 [.int .i64 p, .int .i64 n])
  have S := hide (h.after (unhide HB))
  have KC := hide fun W h => refCheckLeaf_any a cap vs hf W h
  have KD := hide fun W => refDot_any p n W
  have KL := hide fun W h => refLive_any All a cap vs hf W (fun _ _ => trivial) h (prov_all _ _ _)
  have KO := hide fun W h => refOver_any a cap vs hf p n true ⟨#[]⟩ W h
  obtain ⟨R, hR⟩ : ∃ R, Vc.eraseF vs (p, n) = R := ⟨_, rfl⟩
  rw [hR]
  unfold Vc.eraseF at hR
  have hl := hf.1
  have hll : (Vc.live vs).length ≤ 100000 := Nat.le_trans (List.length_filter_le _ _) hl
  generalize Vc.checkLeaf vs = X at KC hR
  generalize Vc.dotErr (p, n) = Y at KD hR
  generalize Vc.overF vs (p, n) true ⟨#[]⟩ = Z at KO hR
  generalize Vc.live vs = LV at KL hR hll
  clear h hf
  go_enter Try.func23, Try.ntmps23
  go_wp2_with fail
  generalize w.alloc (.cells #[.int .i64 p, .int .i64 n] 24) = w0 at HB RD S ⊢
  refine (unhide KC _ (unhide S)).mono ?_
  rintro e w1 ⟨rfl, hb⟩
  replace HB := hide (below_grow (unhide HB) (Nat.le_refl _) hb)
  replace RD := hide ((unhide RD).after hb)
  replace S := hide ((unhide S).after hb)
  clear hb
  by_cases hX : X = 0
  · subst hX
    rw [if_neg (by simp)] at hR
    have d0 := (unhide RD).cell 0 _ rfl
    have d1 := (unhide RD).cell 1 _ rfl
    go_wp2_with fail
    refine (unhide KD _).mono ?_
    rintro e w2 ⟨rfl, hb⟩
    replace HB := hide (below_grow (unhide HB) (Nat.le_refl _) hb)
    replace RD := hide ((unhide RD).after hb)
    replace S := hide ((unhide S).after hb)
    clear hb d0 d1
    by_cases hY : Y = 0
    · subst hY
      rw [if_neg (by simp)] at hR
      go_wp2_with fail
      refine (unhide KL _ (unhide S)).mono ?_
      rintro e w3 ⟨r3, c3, rfl, _, _, _, hb⟩
      replace HB := hide (below_grow (unhide HB) (Nat.le_refl _) hb)
      replace RD := hide ((unhide RD).after hb)
      replace S := hide ((unhide S).after hb)
      clear hb
      obtain ⟨m, hm⟩ : ∃ m, LV.length = m := ⟨_, rfl⟩
      rw [hm] at hR hll ⊢
      by_cases h0 : m = 0
      · subst h0
        rw [if_pos rfl] at hR
        subst hR
        go_wp2_with fail
        go_ret2
        exact ⟨none, 0, rfl, Nat.le_refl _, SV.none _ _, prov_all _ _ _, unhide HB⟩
      · have hd : (m == 0) = false := by simpa using h0
        have hd2 : ((m : Int) == 0) = false := by simp; omega
        rw [if_neg h0] at hR
        subst hR
        have d0 := (unhide RD).cell 0 _ rfl
        have d1 := (unhide RD).cell 1 _ rfl
        go_wp2_with fail
        refine (unhide KO _ (unhide S)).mono ?_
        rintro e w4 ⟨r4, c4, rfl, hc4, hs4, _, hb⟩
        replace HB := hide (below_grow (unhide HB) (Nat.le_refl _) hb)
        have S4 := hide hs4
        clear hb d0 d1 hs4
        go_wp2_with fail
        go_ret2
        exact ⟨r4, c4, rfl, hc4, unhide S4, prov_all _ _ _, unhide HB⟩
    · rw [if_pos hY] at hR
      subst hR
      have hYb : (Y != 0) = true := bne_iff_ne.2 hY
      have hYc : (Y == 0) = false := by simpa using hY
      go_wp2_with fail
      go_ret2
      exact ⟨none, 0, rfl, Nat.le_refl _, SV.none _ _, prov_all _ _ _, unhide HB⟩
  · rw [if_pos hX] at hR
    subst hR
    have hXb : (X != 0) = true := bne_iff_ne.2 hX
    have hXc : (X == 0) = false := by simpa using hX
    go_wp2_with fail
    go_ret2
    exact ⟨none, 0, rfl, Nat.le_refl _, SV.none _ _, prov_all _ _ _, unhide HB⟩
end Go.Proofs.Ytbghekolfcakeaa
