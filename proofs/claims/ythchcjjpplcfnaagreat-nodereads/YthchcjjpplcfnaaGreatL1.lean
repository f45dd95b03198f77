/-
  The walk of the statement on nodes that are read.
-/
import Derived.Test.YthchcjjpplcfnaaGreatN4
import Derived.Test.YthchcjjpplcfnaaGreatD3
import Derived.Test.YthchcjjpplcfnaaGreatD4
namespace Go.Proofs.YthchcjjpplcfnaaGreat
open Go.RowKit

theorem readN_ok (s : List UInt8) : Nok (readN s).1 := by
  rw [readN_is]
  split
  · exact rawN_ok s
  · exact zN_ok
set_option maxRecDepth 100000 in
set_option maxHeartbeats 2000000 in
theorem reads_walk (s : ByteArray) (hs : s.size ≤ 9223372036854775807) (w : World) :
    Calls Tryz.prog 3 #[.string s] w fun e w' => e = .returned (.bool true) ∧ Below w.heap.size w w' := by
  by_cases h8 : 8000 < s.size
  · have hd : decide ((8000 : Int) < (s.size : Int)) = true := decide_eq_true (by omega)
    go_enter Tryz.func3, Tryz.ntmps3
    go_wp2_with fail
    refine (awakeN_any w).mono ?_
    rintro e w1 ⟨rfl, hb⟩
    have HB := hide hb
    clear hb
    go_wp2_with fail
    go_ret
    exact ⟨rfl, unhide HB⟩
  · have hd : decide ((8000 : Int) < (s.size : Int)) = false := decide_eq_false (by omega)
    have K1 := hide (fun W => readN_any s (by omega) W)
    have K2 := hide (fun W => refReadN_any s (by omega) W)
    have HOK := hide (readN_ok s.data.toList)
    obtain ⟨X, hX⟩ : ∃ X, readN s.data.toList = X := ⟨_, rfl⟩
    rw [hX] at K1 K2 HOK
    clear hX
    obtain ⟨n, E⟩ := X
    dsimp only at HOK
    have hEE : (E == E) = true := by simp
    go_enter Tryz.func3, Tryz.ntmps3
    go_wp2_with fail
    refine (unhide K1 _).mono ?_
    rintro e w1 ⟨a, c, b, d, rfl, hat, hb⟩
    have HAT1 := hide hat
    have HB1 := hide hb
    clear hat hb
    go_wp2_with (refine store_row (by rfl) 26 (.tmp 3) (.tmp 14) (by rfl) w1.heap.size (ndL n a c b d) (by rfl) (by rfl) 26 zeroN (VRow.newAt rfl) 2 sizeNd rfl rfl (ndL_one _ _ _ _ _) ?_; intro w2 ho2 hr2; have HB2 := hide ((below_alloc' (w := w1) (.cells zeroN.toArray 26)).trans (ho2.below (Nat.le_refl _))); have HR2 := hide hr2; clear ho2 hr2)
    have HB02 := hide (below_grow (unhide HB1) (Nat.le_refl _) (unhide HB2))
    have HAT2 := hide ((unhide HAT1).after (unhide HB2))
    refine (unhide K2 _).mono ?_
    rintro e w3 ⟨a2, c2, b2, d2, rfl, hat, hb⟩
    have HAT3 := hide hat
    have HAT23 := hide ((unhide HAT2).after hb)
    have HR23 := hide ((unhide HR2).after hb)
    have HB03 := hide (below_grow (unhide HB02) (Nat.le_refl _) hb)
    clear hat hb
    go_wp2_with (first
      | (refine store_row (by rfl) 26 (.tmp 5) (.tmp 19) (by rfl) w3.heap.size (ndL n a2 c2 b2 d2) (by rfl) (by rfl) 26 zeroN (VRow.newAt rfl) 2 sizeNd rfl rfl (ndL_one _ _ _ _ _) ?_; intro w4 ho4 hr4; have HB4 := hide ((below_alloc' (w := w3) (.cells zeroN.toArray 26)).trans (ho4.below (Nat.le_refl _))); have HR4 := hide hr4; have HR24 := hide ((unhide HR23).after (unhide HB4)); clear ho4 hr4)
      | (refine load_node (by rfl) (.tmp 3) (by rfl) w1.heap.size (by rfl) (ndL n a c b d) (unhide HR24) rfl ?_)
      | (refine load_node (by rfl) (.tmp 5) (by rfl) w3.heap.size (by rfl) (ndL n a2 c2 b2 d2) (unhide HR4) rfl ?_))
    have HB04 := hide (below_grow (unhide HB03) (Nat.le_refl _) (unhide HB4))
    refine (refSameN_any a c b d n (unhide HOK) a2 c2 b2 d2 n (unhide HOK) w4 ((unhide HAT23).after (unhide HB4)) ((unhide HAT3).after (unhide HB4)) true (by simp)).mono ?_
    rintro e w5 ⟨rfl, hb⟩
    have HB05 := hide (below_grow (unhide HB04) (Nat.le_refl _) hb)
    clear hb
    go_wp2_with fail
    refine (awakeN_any w5).mono ?_
    rintro e w6 ⟨rfl, hb⟩
    have HB06 := hide (below_grow (unhide HB05) (Nat.le_refl _) hb)
    clear hb
    go_wp2_with fail
    go_ret
    exact ⟨rfl, unhide HB06⟩
end Go.Proofs.YthchcjjpplcfnaaGreat
