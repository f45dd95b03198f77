/-
  The walk of the statement on nodes that are written and read again.
-/
import Derived.Test.YthchcjjpplcfnaaN4
import Derived.Test.YthchcjjpplcfnaaN6
import Derived.Test.YthchcjjpplcfnaaQ3
import Derived.Test.YthchcjjpplcfnaaG1
import Derived.Test.YthchcjjpplcfnaaK4
namespace Go.Proofs.Ythchcjjpplcfnaa
open Go.RowKit

theorem readN_ok (s : List UInt8) : Nok (readN s).1 := by
  rw [readN_is]
  split
  · exact rawN_ok s
  · exact zN_ok
theorem encN_len {n : Nd} (hn : Nok n) (h : chkN n = 0) : (encN n).length ≤ 10000000 := by
  have h1 := wKids_part hn h n.ks.length
  rw [List.take_length, ← wNode_zero h, wNode_ok h] at h1
  exact h1
set_option maxRecDepth 100000 in
set_option maxHeartbeats 4000000 in
theorem back_walk (n : Nd) (a : Option Addr) (c : Nat) (b : Option Addr) (d : Nat) (hc : Ncome n) (s : ByteArray) (hs : s.size ≤ 9223372036854775807) (w : World) (h : NdAt w n a c b d) :
    Calls Try.prog 3 #[.agg (ndL n a c b d).toArray, .string s] w fun e w' => e = .returned (.bool true) ∧ Below w.heap.size w w' := by
  have HB0 := hide (below_alloc' (w := w) (.cells (ndL n a c b d).toArray 25))
  have HR0 := hide (VRow.new w 25 (ndL n a c b d))
  have HAT0 := hide (h.after (unhide HB0))
  have KG := hide (greatN_any a c b d n hc _ (unhide HAT0))
  have HC := hide hc
  clear h hc
  go_enter Try.func3, Try.ntmps3
  go_wp2_with (refine load_node (by rfl) (.tmp 2) (by rfl) w.heap.size (by rfl) (ndL n a c b d) (unhide HR0) rfl ?_)
  generalize w.alloc (.cells _ 25) = w0 at HB0 HR0 HAT0 KG ⊢
  refine (unhide KG).mono ?_
  rintro e w1 ⟨G, rfl, hb, hG⟩
  have HB1 := hide (below_grow (unhide HB0) (Nat.le_refl _) hb)
  have HR1 := hide ((unhide HR0).after hb)
  have HAT1 := hide ((unhide HAT0).after hb)
  have HG := hide hG
  clear hb hG KG
  cases G with
  | true =>
    go_wp2_with fail
    refine (awakeN_any _).mono ?_
    rintro e w2 ⟨rfl, hb⟩
    have HB2 := hide (below_grow (unhide HB1) (Nat.le_refl _) hb)
    clear hb
    go_wp2_with fail
    go_ret
    exact ⟨rfl, unhide HB2⟩
  | false =>
    have HOK := hide ((unhide HG rfl).ok (unhide HC))
    clear HG HC
    by_cases h8 : 8000 < s.size
    · have hd : decide ((8000 : Int) < (s.size : Int)) = true := decide_eq_true (by omega)
      go_wp2_with fail
      refine (awakeN_any _).mono ?_
      rintro e w2 ⟨rfl, hb⟩
      have HB2 := hide (below_grow (unhide HB1) (Nat.le_refl _) hb)
      clear hb
      go_wp2_with fail
      go_ret
      exact ⟨rfl, unhide HB2⟩
    · have hd : decide ((8000 : Int) < (s.size : Int)) = false := decide_eq_false (by omega)
      have KB := hide (bytesN_any a c b d n (unhide HOK) w1 (unhide HAT1))
      have KR := hide fun W => readN_any s (by omega) W
      have HROK := hide (readN_ok s.data.toList)
      have HONE := hide (read_one (s := s.data.toList))
      obtain ⟨X, hX⟩ : ∃ X, readN s.data.toList = X := ⟨_, rfl⟩
      rw [hX] at KR HROK HONE
      obtain ⟨m, F⟩ := X
      clear hX
      dsimp only at HROK HONE
      have KM := hide fun (hF : F = 0) W a2 c2 b2 d2 (h2 : NdAt W m a2 c2 b2 d2) => (by
        have h1 := bytesN_any a2 c2 b2 d2 m (unhide HROK) W h2
        obtain ⟨g1, g2, _⟩ := unhide HONE hF
        rw [bytes_ok g1, g2] at h1
        dsimp only at h1
        rw [str_of] at h1
        exact h1 : Calls Try.prog 7 #[.agg (ndL m a2 c2 b2 d2).toArray] W fun e w' => e = .returned (.tuple #[.string s, .int .i64 0]) ∧ Below W.heap.size W w')
      have hss : (s.toList == s.toList) = true := beq_self_eq_true _
      by_cases hz : chkN n = 0
      · have KRB := hide fun W => readN_any (str (encN n)) (by rw [str_size]; have := encN_len (unhide HOK) hz; omega) W
        rw [str_data, read_back hz (unhide HOK).digs] at KRB
        rw [bytes_ok hz] at KB
        dsimp only at KB KRB
        generalize str (encN n) = T at KB KRB
        clear hz
        go_wp2_with (refine load_node (by rfl) (.tmp 2) (by rfl) w.heap.size (by rfl) (ndL n a c b d) (unhide HR1) rfl ?_)
        refine (unhide KB).mono ?_
        rintro e w2 ⟨rfl, hb⟩
        have HB2 := hide (below_grow (unhide HB1) (Nat.le_refl _) hb)
        have HR2 := hide ((unhide HR1).after hb)
        have HAT2 := hide ((unhide HAT1).after hb)
        clear hb
        go_wp2_with fail
        refine (unhide KRB _).mono ?_
        rintro e w3 ⟨a3, c3, b3, d3, rfl, hat, hb⟩
        have HAT3 := hide hat
        have HB3 := hide (below_grow (unhide HB2) (Nat.le_refl _) hb)
        have HR3 := hide ((unhide HR2).after hb)
        have HAT23 := hide ((unhide HAT2).after hb)
        clear hat hb
        go_wp2_with (first
          | (refine store_row (by rfl) 25 (.tmp 7) (.tmp 31) (by rfl) w3.heap.size (ndL n a3 c3 b3 d3) (by rfl) (by rfl) 25 zeroN (VRow.newAt rfl) 2 sizeNd rfl rfl (ndL_one _ _ _ _ _) ?_; intro w4 ho4 hr4; have HB34 := hide ((below_alloc' (w := w3) (.cells zeroN.toArray 25)).trans (ho4.below (Nat.le_refl _))); have HR74 := hide hr4; have HR4 := hide ((unhide HR3).after (unhide HB34)); clear ho4 hr4)
          | (refine load_node_want (by rfl) (.tmp 7) (by rfl) w3.heap.size (by rfl) (ndL n a3 c3 b3 d3) (unhide HR74) rfl ?_)
          | (refine load_node_want (by rfl) (.tmp 2) (by rfl) w.heap.size (by rfl) (ndL n a c b d) (unhide HR4) rfl ?_))
        have HB4 := hide (below_grow (unhide HB3) (Nat.le_refl _) (unhide HB34))
        refine (sameN_any a3 c3 b3 d3 n (unhide HOK) a c b d n (unhide HOK) w4 ((unhide HAT3).after (unhide HB34)) ((unhide HAT23).after (unhide HB34)) true (by simp)).mono ?_
        rintro e w5 ⟨rfl, hb⟩
        have HB5 := hide (below_grow (unhide HB4) (Nat.le_refl _) hb)
        clear hb
        go_wp2_with fail
        refine (unhide KR _).mono ?_
        rintro e w6 ⟨a6, c6, b6, d6, rfl, hat, hb⟩
        have HAT6 := hide hat
        have HB6 := hide (below_grow (unhide HB5) (Nat.le_refl _) hb)
        clear hat hb
        by_cases hF : F = 0
        · have KM2 := hide (unhide KM hF)
          subst hF
          go_wp2_with (first
            | (refine store_row (by rfl) 25 (.tmp 9) (.tmp 44) (by rfl) w6.heap.size (ndL m a6 c6 b6 d6) (by rfl) (by rfl) 25 zeroN (VRow.newAt rfl) 2 sizeNd rfl rfl (ndL_one _ _ _ _ _) ?_; intro w7 ho7 hr7; have HB67 := hide ((below_alloc' (w := w6) (.cells zeroN.toArray 25)).trans (ho7.below (Nat.le_refl _))); have HR97 := hide hr7; clear ho7 hr7)
            | (refine load_node (by rfl) (.tmp 9) (by rfl) w6.heap.size (by rfl) (ndL m a6 c6 b6 d6) (unhide HR97) rfl ?_))
          have HB7 := hide (below_grow (unhide HB6) (Nat.le_refl _) (unhide HB67))
          refine (unhide KM2 _ _ _ _ _ ((unhide HAT6).after (unhide HB67))).mono ?_
          rintro e w8 ⟨rfl, hb⟩
          have HB8 := hide (below_grow (unhide HB7) (Nat.le_refl _) hb)
          clear hb
          go_wp2_with fail
          refine (awakeN_any _).mono ?_
          rintro e w9 ⟨rfl, hb⟩
          have HB9 := hide (below_grow (unhide HB8) (Nat.le_refl _) hb)
          clear hb
          go_wp2_with fail
          go_ret
          exact ⟨rfl, unhide HB9⟩
        · have hfb : (F == 0) = false := by simp [hF]
          go_wp2_with (refine store_row (by rfl) 25 (.tmp 9) (.tmp 44) (by rfl) w6.heap.size (ndL m a6 c6 b6 d6) (by rfl) (by rfl) 25 zeroN (VRow.newAt rfl) 2 sizeNd rfl rfl (ndL_one _ _ _ _ _) ?_; intro w7 ho7 hr7; have HB67 := hide ((below_alloc' (w := w6) (.cells zeroN.toArray 25)).trans (ho7.below (Nat.le_refl _))); clear ho7 hr7)
          have HB7 := hide (below_grow (unhide HB6) (Nat.le_refl _) (unhide HB67))
          refine (awakeN_any _).mono ?_
          rintro e w9 ⟨rfl, hb⟩
          have HB9 := hide (below_grow (unhide HB7) (Nat.le_refl _) hb)
          clear hb
          go_wp2_with fail
          go_ret
          exact ⟨rfl, unhide HB9⟩
      · have hzb : (chkN n == 0) = false := by simp [hz]
        rw [bytes_bad hz] at KB
        dsimp only at KB
        generalize chkN n = E at KB hz hzb
        clear hz
        go_wp2_with (refine load_node (by rfl) (.tmp 2) (by rfl) w.heap.size (by rfl) (ndL n a c b d) (unhide HR1) rfl ?_)
        refine (unhide KB).mono ?_
        rintro e w2 ⟨rfl, hb⟩
        have HB2 := hide (below_grow (unhide HB1) (Nat.le_refl _) hb)
        clear hb
        go_wp2_with fail
        refine (unhide KR _).mono ?_
        rintro e w6 ⟨a6, c6, b6, d6, rfl, hat, hb⟩
        have HAT6 := hide hat
        have HB6 := hide (below_grow (unhide HB2) (Nat.le_refl _) hb)
        clear hat hb
        by_cases hF : F = 0
        · have KM2 := hide (unhide KM hF)
          subst hF
          go_wp2_with (first
            | (refine store_row (by rfl) 25 (.tmp 9) (.tmp 44) (by rfl) w6.heap.size (ndL m a6 c6 b6 d6) (by rfl) (by rfl) 25 zeroN (VRow.newAt rfl) 2 sizeNd rfl rfl (ndL_one _ _ _ _ _) ?_; intro w7 ho7 hr7; have HB67 := hide ((below_alloc' (w := w6) (.cells zeroN.toArray 25)).trans (ho7.below (Nat.le_refl _))); have HR97 := hide hr7; clear ho7 hr7)
            | (refine load_node (by rfl) (.tmp 9) (by rfl) w6.heap.size (by rfl) (ndL m a6 c6 b6 d6) (unhide HR97) rfl ?_))
          have HB7 := hide (below_grow (unhide HB6) (Nat.le_refl _) (unhide HB67))
          refine (unhide KM2 _ _ _ _ _ ((unhide HAT6).after (unhide HB67))).mono ?_
          rintro e w8 ⟨rfl, hb⟩
          have HB8 := hide (below_grow (unhide HB7) (Nat.le_refl _) hb)
          clear hb
          go_wp2_with fail
          refine (awakeN_any _).mono ?_
          rintro e w9 ⟨rfl, hb⟩
          have HB9 := hide (below_grow (unhide HB8) (Nat.le_refl _) hb)
          clear hb
          go_wp2_with fail
          go_ret
          exact ⟨rfl, unhide HB9⟩
        · have hfb : (F == 0) = false := by simp [hF]
          go_wp2_with (refine store_row (by rfl) 25 (.tmp 9) (.tmp 44) (by rfl) w6.heap.size (ndL m a6 c6 b6 d6) (by rfl) (by rfl) 25 zeroN (VRow.newAt rfl) 2 sizeNd rfl rfl (ndL_one _ _ _ _ _) ?_; intro w7 ho7 hr7; have HB67 := hide ((below_alloc' (w := w6) (.cells zeroN.toArray 25)).trans (ho7.below (Nat.le_refl _))); clear ho7 hr7)
          have HB7 := hide (below_grow (unhide HB6) (Nat.le_refl _) (unhide HB67))
          refine (awakeN_any _).mono ?_
          rintro e w9 ⟨rfl, hb⟩
          have HB9 := hide (below_grow (unhide HB7) (Nat.le_refl _) hb)
          clear hb
          go_wp2_with fail
          go_ret
          exact ⟨rfl, unhide HB9⟩
end Go.Proofs.Ythchcjjpplcfnaa
