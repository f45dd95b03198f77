/-
  Bytes that go in piece by piece.
-/
import Derived.Test.YtlgckldmomikpaaOpen
namespace Go.Proofs.Ytlgckldmomikpaa
open Go.RowKit

theorem sum_cast (l : List UInt8) : (4294967295 - (Crc.reg 4294967295 l : Int)) = ((Crc.sum l : Nat) : Int) := by
  have := Crc.reg_lt l 4294967295 (by decide)
  unfold Crc.sum
  omega

theorem cat_data (a b : ByteArray) : (a ++ b).data.toList = a.data.toList ++ b.data.toList := by simp [ByteArray.data_append]

set_option maxRecDepth 100000 in
set_option maxHeartbeats 1000000 in
theorem pie_walk (b off len cap : Nat) (hlen : len ≤ maxLen) (w : World) (hbW : 0 < len → b < w.heap.size)
    (hcell : ∀ i, i < len → ∃ s : ByteArray, s.size ≤ maxLen ∧ w.cell? ⟨b, off + i, none⟩ = some (.string s)) (a : Option Addr) (ha : 0 < len → a = some ⟨b, off, none⟩) :
    Calls Try.prog 5 #[.slice a len cap] w fun e w' => e = .returned (.bool true) ∧ Below w.heap.size w w' := by
  unfold maxLen at hlen
  have HA := hide ha
  have HC := hide hcell
  have HW := hide hbW
  clear ha hcell hbW
  go_enter Try.func5, Try.ntmps5
  go_wp2_with fail
  go_loopw [5, 6] (fun al i wr => ∃ (k : Nat) (A : ByteArray), k ≤ len ∧ k ≤ 30 ∧ i = .int .i64 k ∧ al = .string A ∧ A.size ≤ 300 * k ∧ Boxed wr w.heap.size 32 (.int .u32 (Crc.sum A.data.toList : Nat)) ∧ Below w.heap.size w wr) (fun _ i _ => 30 - (intOf i).toNat)
  case atStart => exact ⟨0, ⟨#[]⟩, Nat.zero_le _, Nat.zero_le _, rfl, rfl, Nat.le_refl _, Boxed.new w 32 _, (Below.refl _ _).alloc (Nat.le_refl _) _⟩
  case round =>
    obtain ⟨k, A, hk, hk30, rfl, rfl, hAs, hbx, hbl⟩ := hrel
    by_cases hlt : k < len
    · by_cases hlt30 : k < 30
      · obtain ⟨s, hs, hc0⟩ := (unhide HC) k hlt
        obtain rfl := (unhide HA) (by omega)
        have hbW := (unhide HW) (by omega)
        have hc : wr.cell? ⟨b, off + k, none⟩ = some (.string s) := (hbl.cell (p := ⟨b, off + k, none⟩) hbW).trans hc0
        have HX := hide hbx
        have HB := hide hbl
        have HS := hide hs
        unfold maxLen at hs
        clear hbx hbl hc0
        by_cases hbig : 300 < s.size
        · go_wp2_with fail
          refine (awake_any _).mono ?_
          rintro e w5 ⟨rfl, hb5⟩
          go_wp2_with fail
          go_ret
          exact ⟨rfl, (unhide HB).trans (hb5.mono (unhide HB).size)⟩
        · go_wp2_with fail
          refine (Write_any w.heap.size w.heap.size (Nat.le_refl _) s (unhide HS) (Crc.reg 4294967295 A.data.toList) (Crc.reg_lt _ _ (by decide)) wr (by rw [sum_cast]; exact unhide HX)).mono ?_
          rintro e w2 ⟨rfl, hb2, hl2⟩
          have HX2 : Hid (Boxed w2 w.heap.size 32 (.int .u32 (Crc.sum (A ++ s).data.toList : Nat))) := by
            rw [← Crc.reg_append, ← cat_data, sum_cast] at hb2
            exact hide hb2
          have hc2 : w2.cell? ⟨b, off + k, none⟩ = some (.string s) := (hl2.cell (p := ⟨b, off + k, none⟩) hbW).trans hc
          have HB2 := hide ((unhide HB).trans hl2)
          clear hc hb2 hl2
          go_wp2_with fail
          refine (Write_nil _ _).mono ?_
          rintro e w3 ⟨rfl, rfl⟩
          have hcat : ¬ (A.size + s.size > 9223372036854775807) := by omega
          have hAS : (A ++ s).size ≤ 300 * (k + 1) := by rw [ByteArray.size_append]; omega
          have HAS := hide hAS
          clear hAS
          go_wp2_with fail
          refine (Value_any w.heap.size _ w3 (unhide HX2)).mono ?_
          rintro e w4 ⟨rfl, rfl⟩
          go_wp2_with fail
          refine (refOf_any _ _ (by unfold maxLen; have := unhide HAS; omega)).mono ?_
          rintro e w5 ⟨rfl, rfl⟩
          go_wp2_with fail
          refine (Value_nil _).mono ?_
          rintro e w6 ⟨rfl, rfl⟩
          go_wp2_with fail
          go_roundw
          case rel => exact ⟨k + 1, A ++ s, by omega, by omega, by go_num, rfl, unhide HAS, unhide HX2, unhide HB2⟩
          case measure => simp [intOf]; omega
      · go_wp2_with fail
        refine (awake_any _).mono ?_
        rintro e w5 ⟨rfl, hb5⟩
        go_wp2_with fail
        go_ret
        exact ⟨rfl, hbl.trans (hb5.mono hbl.size)⟩
    · go_wp2_with fail
      refine (awake_any _).mono ?_
      rintro e w5 ⟨rfl, hb5⟩
      go_wp2_with fail
      go_ret
      exact ⟨rfl, hbl.trans (hb5.mono hbl.size)⟩
end Go.Proofs.Ytlgckldmomikpaa
