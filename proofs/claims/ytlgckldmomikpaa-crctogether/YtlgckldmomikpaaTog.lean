/-
  Three texts put together.
-/
import Derived.Test.YtlgckldmomikpaaRow
import Derived.BigRegion
import Derived.RegionTactic
namespace Go.Proofs.Ytlgckldmomikpaa
open Go.RowKit

set_option maxRecDepth 100000 in
set_option maxHeartbeats 1000000 in
theorem tog_walk (a b c : ByteArray) (n : Nat) (h1 : n ≤ a.size) (h2 : n ≤ b.size) (h3 : n ≤ c.size) (h4 : n ≤ 2000) (h5 : n = a.size ∨ n = b.size ∨ n = c.size ∨ n = 2000) (w : World) :
    Calls Try.prog 7 #[.string a, .string b, .string c] w fun e w' => e = .returned (.bool true) ∧ Below w.heap.size w w' := by
  have hmin := run_min4 a.size b.size c.size n h1 h2 h3 h4 h5
  clear h5
  have hmk := run_make_row' (P := Try.prog) 36 5 (.int .u8 0) 1 Try.underlying36 info5 rfl .i64 .i64 n (by omega) (by omega)
  go_enter Try.func7, Try.ntmps7
  go_wp2_with fail
  clear hmin hmk
  go_loopw [9] (fun i wr => ∃ (k : Nat) (bs : List UInt8), k ≤ n ∧ i = .int .i64 k ∧ bs.length = n ∧ (∀ j (hj : j < k) (hk : j < n), bs[j]? = some (a[j] ^^^ b[j] ^^^ c[j])) ∧ Rowed wr w.heap.size bs ∧ Below w.heap.size w wr) (fun i _ => n - (intOf i).toNat)
  case atStart => exact ⟨0, List.replicate n 0, Nat.zero_le _, rfl, by simp, fun j hj => absurd hj (Nat.not_lt_zero _), Rowed.new w n, (Below.refl _ _).alloc (Nat.le_refl _) _⟩
  case round =>
    obtain ⟨k, bs, hk, rfl, hlen, hall, hrow, hbl⟩ := hrel
    have HL := hide hlen
    have HA := hide hall
    have HR := hide hrow
    have HB := hide hbl
    by_cases hlt : k < n
    · obtain ⟨v0, hc⟩ : ∃ v, wr.cell? ⟨w.heap.size, k, none⟩ = some v := ⟨_, hrow.cell k (by omega)⟩
      have hf := hrow.frozen k
      clear hlen hall hrow hbl
      have ka : k < a.size := by omega
      have kb : k < b.size := by omega
      have kc : k < c.size := by omega
      have e1 : bits .xor .u8 (a[k].toNat : Int) (b[k].toNat : Int) = ((a[k].toNat ^^^ b[k].toNat : Nat) : Int) := u8_xor_nat _ _ a[k].toNat_lt b[k].toNat_lt
      have e2 : bits .xor .u8 ((a[k].toNat ^^^ b[k].toNat : Nat) : Int) (c[k].toNat : Int) = ((a[k] ^^^ b[k] ^^^ c[k]).toNat : Int) := by
        have h := u8_xor_nat _ _ (a[k] ^^^ b[k]).toNat_lt c[k].toNat_lt
        simpa only [UInt8.toNat_xor] using h
      have HE := hide e2
      clear e2
      go_wp2_with fail
      go_region
      go_wp2_with fail
      go_roundw
      case rel =>
        rw [unhide HE]
        refine ⟨k + 1, bs.set k (a[k] ^^^ b[k] ^^^ c[k]), by omega, by go_num, by rw [List.length_set]; exact unhide HL, fun j hj hjn => ?_, (unhide HR).set k _, ((unhide HB).setCell (p := ⟨w.heap.size, k, none⟩) (Nat.le_refl _) _).drew⟩
        by_cases hjk : k = j
        · subst hjk
          rw [List.getElem?_set_self (by rw [unhide HL]; omega)]
        · rw [List.getElem?_set_ne hjk]
          exact (unhide HA) j (by omega) hjn
      case measure => simp [intOf]; omega
    · have hk' : k = n := by omega
      subst hk'
      have hbs : bs = List.zipWith (· ^^^ ·) (List.zipWith (· ^^^ ·) (a.data.toList.take k) (b.data.toList.take k)) (c.data.toList.take k) := by
        apply List.ext_getElem?
        intro j
        by_cases hj : j < k
        · rw [hall j hj hj]
          have ja : j < a.size := by omega
          have jb : j < b.size := by omega
          have jc : j < c.size := by omega
          simp [List.getElem?_zipWith, hj, ja, jb, jc]
          rfl
        · rw [List.getElem?_eq_none (by omega), List.getElem?_eq_none (by simp; omega)]
      have hcv : ∀ d os, (convert 36 9 (.slice (some ⟨w.heap.size, 0, none⟩) k k)).run Try.prog (Go.Sort.grow (redrawn wr d) os) = .ok (.string ⟨bs.toArray⟩) (Go.Sort.grow (redrawn wr d) os) := by
        intro d os
        have h := (hrow.below (below_regrown wr d os) (by have := hbl.size; have := (Array.getElem?_eq_some_iff.1 hrow).1; exact this)).text k
        rwa [hlen] at h
      have e1 : bits .xor .u32 (Crc.sum (List.take k a.data.toList) : Int) (Crc.sum (List.take k b.data.toList) : Int) = ((Crc.sum (List.take k a.data.toList) ^^^ Crc.sum (List.take k b.data.toList) : Nat) : Int) := u32_xor_nat _ _ (Crc.sum_lt _) (Crc.sum_lt _)
      have e2 : bits .xor .u32 ((Crc.sum (List.take k a.data.toList) ^^^ Crc.sum (List.take k b.data.toList) : Nat) : Int) (Crc.sum (List.take k c.data.toList) : Int) = (Crc.sum bs : Int) := by
        rw [u32_xor_nat _ _ (Nat.xor_lt_two_pow (n := 32) (Crc.sum_lt _) (Crc.sum_lt _)) (Crc.sum_lt _), hbs, Crc.together _ _ _ (by simp; omega) (by simp; omega)]
      have hsz : (ByteArray.mk bs.toArray).size ≤ maxLen := by simp [ByteArray.size, maxLen]; omega
      clear hlen hall hrow hbl hbs
      go_wp2_with fail
      refine wp_region_quiet_below (by kernel_rfl) (by kernel_rfl) ?_
      repeat (quiet_step (first | (go_at_call 9; exact Calls.regrown_of (Of_any _ (by first | exact hsz | (unfold maxLen; simp; omega)) _)) | (go_at_call 8; exact Calls.regrown_of (awake_any _))))
      refine wpQuiet_nil ?_
      intro _ hw'
      obtain ⟨⟨dq, osq⟩, hw''⟩ := hw'
      subst hw''
      go_wp2_with fail
      go_ret
      exact ⟨rfl, (unhide HB).trans ((below_regrown wr dq osq).mono (unhide HB).size)⟩
end Go.Proofs.Ytlgckldmomikpaa
