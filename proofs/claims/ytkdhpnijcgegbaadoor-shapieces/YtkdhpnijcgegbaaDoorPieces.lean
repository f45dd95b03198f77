/-
  The walk of the statement on bytes that go in piece by piece.
-/
import Derived.Test.YtkdhpnijcgegbaaDoorSums
namespace Go.Proofs.YtkdhpnijcgegbaaDoor
open Go.RowKit

theorem zerosAlike (w : World) : (Op.equalIn 10000 24 (.agg #[.int .u8 0, .int .u8 0, .int .u8 0, .int .u8 0, .int .u8 0, .int .u8 0, .int .u8 0, .int .u8 0, .int .u8 0, .int .u8 0, .int .u8 0, .int .u8 0, .int .u8 0, .int .u8 0, .int .u8 0, .int .u8 0, .int .u8 0, .int .u8 0, .int .u8 0, .int .u8 0, .int .u8 0, .int .u8 0, .int .u8 0, .int .u8 0, .int .u8 0, .int .u8 0, .int .u8 0, .int .u8 0, .int .u8 0, .int .u8 0, .int .u8 0, .int .u8 0]) (.agg #[.int .u8 0, .int .u8 0, .int .u8 0, .int .u8 0, .int .u8 0, .int .u8 0, .int .u8 0, .int .u8 0, .int .u8 0, .int .u8 0, .int .u8 0, .int .u8 0, .int .u8 0, .int .u8 0, .int .u8 0, .int .u8 0, .int .u8 0, .int .u8 0, .int .u8 0, .int .u8 0, .int .u8 0, .int .u8 0, .int .u8 0, .int .u8 0, .int .u8 0, .int .u8 0, .int .u8 0, .int .u8 0, .int .u8 0, .int .u8 0, .int .u8 0, .int .u8 0])).run Tryd.prog w = .ok true w := alike24 Sha.zeros rfl w
theorem valueNil (w : World) : Calls Tryd.prog 12 #[.pointer none] w fun e w' => e = .returned (.agg #[.int .u8 0, .int .u8 0, .int .u8 0, .int .u8 0, .int .u8 0, .int .u8 0, .int .u8 0, .int .u8 0, .int .u8 0, .int .u8 0, .int .u8 0, .int .u8 0, .int .u8 0, .int .u8 0, .int .u8 0, .int .u8 0, .int .u8 0, .int .u8 0, .int .u8 0, .int .u8 0, .int .u8 0, .int .u8 0, .int .u8 0, .int .u8 0, .int .u8 0, .int .u8 0, .int .u8 0, .int .u8 0, .int .u8 0, .int .u8 0, .int .u8 0, .int .u8 0]) ∧ Below w.heap.size w w' := Value_nil w

theorem cat_data (a b : ByteArray) : (a ++ b).data.toList = a.data.toList ++ b.data.toList := by simp [ByteArray.data_append]

set_option maxRecDepth 100000 in
set_option maxHeartbeats 2000000 in
theorem pie_walk (b off len cap : Nat) (hlen : len ≤ maxLen) (w : World) (hG : Glob w) (hK : RefKeys w) (hbW : 0 < len → b < w.heap.size)
    (hcell : ∀ i, i < len → ∃ s : ByteArray, s.size ≤ maxLen ∧ w.cell? ⟨b, off + i, none⟩ = some (.string s)) (a : Option Addr) (ha : 0 < len → a = some ⟨b, off, none⟩) :
    Calls Tryd.prog 4 #[.slice a len cap] w fun e w' => e = .returned (.bool true) ∧ Below w.heap.size w w' := by
  unfold maxLen at hlen
  have h2 := hG.lt2
  have HG := hide hG
  have HK := hide hK
  have HA := hide ha
  have HC := hide hcell
  have HW := hide hbW
  have hbd := (zero_of_info info34).1
  clear ha hcell hbW hG hK
  go_enter Tryd.func4, Tryd.ntmps4
  go_wp2_with fail
  clear hbd
  go_loopw [5, 6] (fun al i wr => ∃ (k : Nat) (A : ByteArray) (g : List Nat) (o : List UInt8), k ≤ len ∧ k ≤ 20 ∧ i = .int .i64 k ∧ al = .string A ∧ A.size ≤ 200 * k ∧ St g o A.data.toList ∧ VRow wr w.heap.size 34 (sumCells g o A.data.toList.length) ∧ Below w.heap.size w wr) (fun _ i _ => 20 - (intOf i).toNat)
  case atStart => exact ⟨0, ⟨#[]⟩, Sha.zero8, zo64, Nat.zero_le _, Nat.zero_le _, rfl, rfl, Nat.le_refl _, st_zero, VRow.new _ _ _, (Below.refl _ _).alloc (Nat.le_refl _) _⟩
  case round =>
    obtain ⟨k, A, g, o, hk, hk20, rfl, rfl, hAs, hst, hrow, hbl⟩ := hrel
    have HST := hide hst
    have HX := hide hrow
    have HB := hide hbl
    have hBs := hrow.lt
    by_cases hgo : k < len ∧ k < 20
    · obtain ⟨hlt, hlt20⟩ := hgo
      obtain ⟨s, hs, hc0⟩ := (unhide HC) k hlt
      obtain rfl := (unhide HA) (by omega)
      have hbW := (unhide HW) (by omega)
      have hc : wr.cell? ⟨b, off + k, none⟩ = some (.string s) := (hbl.cell (p := ⟨b, off + k, none⟩) hbW).trans hc0
      unfold maxLen at hs
      clear hst hrow hbl hc0
      by_cases hbig : 200 < s.size
      · go_wp2_with fail
        refine (wide_any wr ((unhide HG).below (unhide HB) h2)).mono ?_
        rintro e w5 ⟨rfl, hb5⟩
        go_wp2_with fail
        go_ret
        exact ⟨rfl, (unhide HB).trans (hb5.mono (unhide HB).size)⟩
      · have HWR := hide (Write_any w.heap.size h2 A.data.toList s (by rw [size_list]; omega) wr ((unhide HG).below (unhide HB) h2) g o (unhide HST) (unhide HX))
        rw [← cat_data] at HWR
        have hAS : (A ++ s).size ≤ 200 * (k + 1) := by rw [ByteArray.size_append]; omega
        have hcat : ¬ (A.size + s.size > 9223372036854775807) := by omega
        obtain ⟨D, hD⟩ : ∃ D, Sha.sha (A ++ s).data.toList = D := ⟨_, rfl⟩
        have hDl : D.length = 32 := by rw [← hD]; exact Sha.sha_len _
        have HV := hide (fun W (hG : Glob W) g' o' hst hr => Value_any w.heap.size (A ++ s).data.toList (by rw [size_list]; omega) W hG g' o' hst hr)
        have HR := hide (fun W (hK : RefKeys W) => refOf_any (A ++ s) (by omega) D hD W hK)
        rw [hD] at HV
        have hsm := alike24 D hDl
        generalize (D.map byteVal) = vs at HV HR hsm
        have hsz := zerosAlike
        have HVN := hide valueNil
        have HAS := hide hAS
        clear hAS hD hDl
        go_wp2_with fail
        refine (unhide HWR).mono ?_
        rintro e w2 ⟨rfl, ⟨g2, o2, hst2, hr2⟩, hb2⟩
        have HST2 := hide hst2
        have HX2 := hide hr2
        have HB2 := hide ((unhide HB).trans hb2)
        have hc2 : w2.cell? ⟨b, off + k, none⟩ = some (.string s) := (hb2.cell (p := ⟨b, off + k, none⟩) hbW).trans hc
        clear hc hb2 hst2 hr2
        go_wp2_with fail
        refine (Write_nil _ _).mono ?_
        rintro e w3 ⟨rfl, rfl⟩
        go_wp2_with fail
        refine (unhide HV w3 ((unhide HG).below (unhide HB2) h2) g2 o2 (unhide HST2) (unhide HX2)).mono ?_
        rintro e w4 ⟨rfl, hb4⟩
        have HX4 := hide ((unhide HX2).below hb4 (unhide HX2).lt)
        have HB4 := hide ((unhide HB2).trans (hb4.mono (unhide HB2).size))
        clear hb4
        go_wp2_with fail
        refine (unhide HR w4 ((unhide HK).below (unhide HB4) (by omega))).mono ?_
        rintro e w5 ⟨rfl, hb5⟩
        have HX5 := hide ((unhide HX4).below hb5 (unhide HX4).lt)
        have HB5 := hide ((unhide HB4).trans (hb5.mono (unhide HB4).size))
        clear hb5
        go_wp2_with fail
        refine (unhide HVN w5).mono ?_
        rintro e w6 ⟨rfl, hb6⟩
        have HX6 := hide ((unhide HX5).below hb6 (unhide HX5).lt)
        have HB6 := hide ((unhide HB5).trans (hb6.mono (unhide HB5).size))
        clear hb6
        go_wp2_with fail
        go_roundw
        case rel => exact ⟨k + 1, A ++ s, g2, o2, by omega, by omega, by go_num, rfl, unhide HAS, unhide HST2, unhide HX6, unhide HB6⟩
        case measure => simp [intOf]; omega
    · obtain ⟨D, hD⟩ : ∃ D, Sha.sha A.data.toList = D := ⟨_, rfl⟩
      have hDl : D.length = 32 := by rw [← hD]; exact Sha.sha_len _
      have HV := hide (Value_any w.heap.size A.data.toList (by rw [size_list]; omega) wr ((unhide HG).below (unhide HB) h2) g o (unhide HST) (unhide HX))
      have HR := hide (fun W (hK : RefKeys W) => refOf_any A (by omega) D hD W hK)
      rw [hD] at HV
      have hsm := alike24 D hDl
      generalize (D.map byteVal) = vs at HV HR hsm
      have hstop : (k < len → ¬ k < 20) := fun h1 h3 => hgo ⟨h1, h3⟩
      clear hst hrow hbl hD hDl hgo
      by_cases hlt : k < len
      · have hk2 : k = 20 := by have := hstop hlt; omega
        subst hk2
        clear hstop
        go_wp2_with fail
        refine (unhide HV).mono ?_
        rintro e w4 ⟨rfl, hb4⟩
        have HB4 := hide ((unhide HB).trans (hb4.mono (unhide HB).size))
        clear hb4
        go_wp2_with fail
        refine (unhide HR w4 ((unhide HK).below (unhide HB4) (by omega))).mono ?_
        rintro e w5 ⟨rfl, hb5⟩
        have HB5 := hide ((unhide HB4).trans (hb5.mono (unhide HB4).size))
        clear hb5
        go_wp2_with fail
        refine (wide_any w5 ((unhide HG).below (unhide HB5) h2)).mono ?_
        rintro e w6 ⟨rfl, hb6⟩
        go_wp2_with fail
        go_ret
        exact ⟨rfl, (unhide HB5).trans (hb6.mono (unhide HB5).size)⟩
      · clear hstop
        go_wp2_with fail
        refine (unhide HV).mono ?_
        rintro e w4 ⟨rfl, hb4⟩
        have HB4 := hide ((unhide HB).trans (hb4.mono (unhide HB).size))
        clear hb4
        go_wp2_with fail
        refine (unhide HR w4 ((unhide HK).below (unhide HB4) (by omega))).mono ?_
        rintro e w5 ⟨rfl, hb5⟩
        have HB5 := hide ((unhide HB4).trans (hb5.mono (unhide HB4).size))
        clear hb5
        go_wp2_with fail
        refine (wide_any w5 ((unhide HG).below (unhide HB5) h2)).mono ?_
        rintro e w6 ⟨rfl, hb6⟩
        go_wp2_with fail
        go_ret
        exact ⟨rfl, (unhide HB5).trans (hb6.mono (unhide HB5).size)⟩
end Go.Proofs.YtkdhpnijcgegbaaDoor
