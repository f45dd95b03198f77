/-
  What the document's reader does: its Number, Text, Flag, Fail and Done.
-/
import Derived.Test.YtklkacmeopfmhaaGreatCRefW
namespace Go.Proofs.YtklkacmeopfmhaaGreat
open Go.RowKit

theorem takeF_nonneg (l : List UInt8) : 0 ≤ (Cnt.takeF l).1 := by
  unfold Cnt.takeF
  split
  · split
    · split
      · exact Int.le_refl _
      · split
        · exact Int.le_refl _
        · exact Int.natCast_nonneg _
    · exact Int.le_refl _
  · exact Int.le_refl _
theorem ext_tail (l : List UInt8) (k : Nat) : (str l).extract k (str l).size = str (l.drop k) := by
  rw [str_ext, str_size, List.take_of_length_le (Nat.le_refl _)]
theorem ext_head (l : List UInt8) (k : Nat) : (str l).extract 0 k = str (l.take k) := by rw [str_ext, List.drop_zero]

set_option maxRecDepth 100000 in
set_option maxHeartbeats 400000 in
theorem refNumberR_any (q : Nat) (st : St) (most : Int) (hs : st.1.length ≤ 100000000) (w : World) (h : Doc w q 43 st) :
    Calls Tryz.prog 54 #[.pointer (some ⟨q, 0, none⟩), .int .i64 most] w (DocMade q 43 w (rNumber st most).2 (.int .i64 (rNumber st most).1)) := by
  obtain ⟨b, e⟩ := st
  have c0 := h.c0
  have c1 := h.c1
  have f0 := h.f0
  have f1 := h.f1
  dsimp only at c0 c1 hs
  have HD := hide h
  clear h
  by_cases he : e = 0
  · subst he
    have KT := hide (refTake_any (str b) w (by rw [str_size]; unfold maxLen; omega))
    rw [str_data] at KT
    have hok := Cnt.takeF_ok b
    obtain ⟨n, k, x, hT⟩ : ∃ n k x, Cnt.takeF b = (n, k, x) := ⟨_, _, _, rfl⟩
    have HR : Hid (rNumber (b, 0) most = if x ≠ 0 then (0, (b, x)) else if most < n then (0, (b, 2)) else (n, (b.drop k.toNat, 0))) := hide (by unfold rNumber; rw [if_neg (by simp), hT])
    rw [unhide HR]
    rw [hT] at KT hok
    dsimp only at KT hok
    have hsz := str_size b
    clear HR hT
    by_cases hx : x = 0
    · subst hx
      obtain ⟨hk1, hk2, _⟩ := hok rfl
      obtain ⟨K, rfl⟩ : ∃ K : Nat, k = K := ⟨k.toNat, by omega⟩
      rw [if_neg (by simp), Int.toNat_natCast]
      clear hok
      by_cases hm : most < n
      · rw [if_pos hm]
        go_enter Tryz.func54, Tryz.ntmps54
        go_wp2_with fail
        refine (unhide KT).mono ?_
        rintro e w1 ⟨rfl, hw⟩
        have hw' := hw.symm
        subst hw'
        go_wp2_with fail
        go_ret
        exact ⟨rfl, (unhide HD).set1 2, beside_set _ _ _ _⟩
      · rw [if_neg hm]
        have hm' : n ≤ most := by omega
        have HX : Hid ((str b).extract K (str b).size = str (b.drop K)) := hide (ext_tail b K)
        have hKs : K ≤ (str b).size := by rw [str_size]; omega
        go_enter Tryz.func54, Tryz.ntmps54
        go_wp2_with fail
        refine (unhide KT).mono ?_
        rintro e w1 ⟨rfl, hw⟩
        have hw' := hw.symm
        subst hw'
        go_wp2_with fail
        go_ret
        have h1 := (unhide HD).set0 (b.drop K)
        rw [← unhide HX] at h1
        exact ⟨rfl, h1, beside_set _ _ _ _⟩
    · rw [if_pos hx]
      have hne : (x == 0) = false := by simp [hx]
      have hne2 : (x != 0) = true := by simp [hx]
      clear hok
      go_enter Tryz.func54, Tryz.ntmps54
      go_wp2_with fail
      refine (unhide KT).mono ?_
      rintro e w1 ⟨rfl, hw⟩
      have hw' := hw.symm
      subst hw'
      go_wp2_with fail
      go_ret
      exact ⟨rfl, (unhide HD).set1 x, beside_set _ _ _ _⟩
  · have hne : (e != 0) = true := by simp [he]
    rw [show rNumber (b, e) most = (0, (b, e)) from if_pos he]
    go_enter Tryz.func54, Tryz.ntmps54
    go_wp2_with fail
    go_ret
    exact ⟨rfl, unhide HD, Beside.refl _ _⟩

theorem rNumber_nonneg (st : St) (most : Int) : 0 ≤ (rNumber st most).1 := by
  unfold rNumber
  split
  · exact Int.le_refl _
  · split
    · exact Int.le_refl _
    · split
      · exact Int.le_refl _
      · exact takeF_nonneg _
theorem rNumber_len (st : St) (most : Int) : (rNumber st most).2.1.length ≤ st.1.length := by
  unfold rNumber
  split
  · exact Nat.le_refl _
  · split
    · exact Nat.le_refl _
    · split
      · exact Nat.le_refl _
      · rw [List.length_drop]; omega

set_option maxRecDepth 100000 in
set_option maxHeartbeats 400000 in
theorem refTextR_any (q : Nat) (st : St) (most : Int) (hs : st.1.length ≤ 100000000) (w : World) (h : Doc w q 43 st) :
    Calls Tryz.prog 29 #[.pointer (some ⟨q, 0, none⟩), .int .i64 most] w (DocMade q 43 w (rText st most).2 (.string (str (rText st most).1))) := by
  have c0 := h.c0
  have KN := hide (refNumberR_any q st most hs w h)
  have hn0 := rNumber_nonneg st most
  have hnl := rNumber_len st most
  unfold rText
  generalize rNumber st most = R at KN hn0 hnl ⊢
  obtain ⟨n, b, e⟩ := R
  dsimp only at KN hn0 hnl ⊢
  clear h
  by_cases he : e = 0
  · subst he
    obtain ⟨N, rfl⟩ : ∃ N : Nat, n = N := ⟨n.toNat, by omega⟩
    rw [if_neg (by simp), Int.toNat_natCast]
    by_cases hlt : (b.length : Int) < N
    · rw [if_pos hlt]
      have hz : ((str b).size : Int) < N := by rw [str_size]; exact hlt
      go_enter Tryz.func29, Tryz.ntmps29
      go_wp2_with fail
      refine (unhide KN).mono ?_
      rintro e w1 ⟨rfl, hd, hb⟩
      have d0 := hd.c0
      have d1 := hd.c1
      have g0 := hd.f0
      have g1 := hd.f1
      dsimp only at d0 d1
      have H2 := hide ((hd.set0 st.1).set1 5)
      have HB := hide (hb.trans ((beside_set q 0 w1 (.string (str st.1))).trans (beside_set q 1 _ (.int .i64 5))))
      clear hd hb
      go_wp2_with fail
      go_ret
      exact ⟨rfl, unhide H2, unhide HB⟩
    · rw [if_neg hlt]
      have hNl : N ≤ b.length := by omega
      have hz : (N : Int) ≤ (str b).size := by rw [str_size]; omega
      have hz2 : N ≤ (str b).size := by rw [str_size]; omega
      have HX : Hid ((str b).extract N (str b).size = str (b.drop N)) := hide (ext_tail b N)
      have HY : Hid ((str b).extract 0 N = str (b.take N)) := hide (ext_head b N)
      go_enter Tryz.func29, Tryz.ntmps29
      go_wp2_with fail
      refine (unhide KN).mono ?_
      rintro e w1 ⟨rfl, hd, hb⟩
      have d0 := hd.c0
      have d1 := hd.c1
      have g0 := hd.f0
      dsimp only at d0 d1
      have H2 := hide (hd.set0 (b.drop N))
      rw [← unhide HX] at H2
      have HB := hide (hb.trans (beside_set q 0 w1 (.string ((str b).extract N (str b).size))))
      clear hd hb
      go_wp2_with fail
      go_ret
      rw [← unhide HY]
      exact ⟨rfl, unhide H2, unhide HB⟩
  · rw [if_pos he]
    have hne : (e != 0) = true := by simp [he]
    go_enter Tryz.func29, Tryz.ntmps29
    go_wp2_with fail
    refine (unhide KN).mono ?_
    rintro e w1 ⟨rfl, hd, hb⟩
    have d1 := hd.c1
    dsimp only at d1
    have H2 := hide hd
    have HB := hide hb
    clear hd hb
    go_wp2_with fail
    go_ret
    exact ⟨rfl, unhide H2, unhide HB⟩

theorem str_emp (x : UInt8) (r : List UInt8) : (str (x :: r)).toList.isEmpty = false := by
  rw [ByteArray.toList_eq, str_data]
  rfl
theorem str_head (x : UInt8) (r : List UInt8) (h : 0 < (str (x :: r)).size) : (str (x :: r))[0] = x := by
  rw [← at_data (str (x :: r)) 0 h, str_data]
  rfl

set_option maxRecDepth 100000 in
set_option maxHeartbeats 400000 in
theorem refFlagR_any (q : Nat) (st : St) (hs : st.1.length ≤ 100000000) (w : World) (h : Doc w q 43 st) :
    Calls Tryz.prog 56 #[.pointer (some ⟨q, 0, none⟩)] w (DocMade q 43 w (rFlag st).2 (.bool (rFlag st).1)) := by
  obtain ⟨b, e⟩ := st
  have c0 := h.c0
  have c1 := h.c1
  have f0 := h.f0
  have f1 := h.f1
  dsimp only at c0 c1 hs
  have HD := hide h
  clear h
  by_cases he : e = 0
  · subst he
    cases b with
    | nil =>
      rw [show rFlag ([], 0) = (false, ([], 5)) from rfl]
      rw [show str [] = ⟨#[]⟩ from rfl] at c0
      go_enter Tryz.func56, Tryz.ntmps56
      go_wp2_with fail
      go_ret
      exact ⟨rfl, (unhide HD).set1 5, beside_set _ _ _ _⟩
    | cons x r =>
      have hemp := str_emp x r
      have hsz : 0 < (str (x :: r)).size := by rw [str_size]; simp
      have hh := str_head x r hsz
      have HX : Hid ((str (x :: r)).extract 1 (str (x :: r)).size = str r) := hide (ext_tail (x :: r) 1)
      have hsm : (str (x :: r)).size ≤ 9223372036854775807 := by rw [str_size]; omega
      by_cases hx : 1 < x.toNat
      · rw [show rFlag (x :: r, 0) = (false, (x :: r, 7)) from by simp [rFlag, hx]]
        generalize str (x :: r) = S at *
        have hx2 : (1 : Int) < (S[0].toNat : Int) := by rw [hh]; omega
        clear hh
        go_enter Tryz.func56, Tryz.ntmps56
        go_wp2_with fail
        go_ret
        exact ⟨rfl, (unhide HD).set1 7, beside_set _ _ _ _⟩
      · rw [show rFlag (x :: r, 0) = (x == 1, (r, 0)) from by simp [rFlag, hx]]
        have H0 := hide ((unhide HD).set0 r)
        rw [← unhide HX] at H0
        have hbe : (x == 1) = ((x.toNat : Int) == 1) := by
          rw [Bool.eq_iff_iff, beq_iff_eq, beq_iff_eq]
          constructor
          · rintro rfl; rfl
          · intro h; exact UInt8.toNat_inj.1 (by simp; omega)
        rw [hbe]
        clear hbe
        generalize str (x :: r) = S at *
        have hx2 : (S[0].toNat : Int) ≤ 1 := by rw [hh]; omega
        rw [← hh]
        clear hh
        go_enter Tryz.func56, Tryz.ntmps56
        go_wp2_with fail
        go_ret
        exact ⟨rfl, unhide H0, beside_set _ _ _ _⟩
  · have hne : (e != 0) = true := by simp [he]
    have hne2 : (e == 0) = false := by simp [he]
    rw [show rFlag (b, e) = (false, (b, e)) from if_pos he]
    go_enter Tryz.func56, Tryz.ntmps56
    go_wp2_with fail
    go_ret
    exact ⟨rfl, unhide HD, Beside.refl _ _⟩

set_option maxRecDepth 100000 in
set_option maxHeartbeats 400000 in
theorem refFailR_any (q : Nat) (st : St) (x : Int) (w : World) (h : Doc w q 43 st) :
    Calls Tryz.prog 30 #[.pointer (some ⟨q, 0, none⟩), .int .i64 x] w (DocMade q 43 w (fail st x) (.tuple #[])) := by
  obtain ⟨b, e⟩ := st
  have c1 := h.c1
  have f1 := h.f1
  dsimp only at c1
  have HD := hide h
  clear h
  by_cases he : e = 0
  · subst he
    rw [show fail (b, 0) x = (b, x) from rfl]
    go_enter Tryz.func30, Tryz.ntmps30
    go_wp2_with fail
    go_end0
    exact ⟨rfl, (unhide HD).set1 x, beside_set _ _ _ _⟩
  · have hne : (e == 0) = false := by simp [he]
    rw [show fail (b, e) x = (b, e) from if_neg he]
    go_enter Tryz.func30, Tryz.ntmps30
    go_wp2_with fail
    go_end0
    exact ⟨rfl, unhide HD, Beside.refl _ _⟩

end Go.Proofs.YtklkacmeopfmhaaGreat
