/-
  What the document's Hex answers: a digest in signs.
-/
import Derived.Test.YtkdhpnijcgegbaaDoorHex
import Derived.Test.YtkdhpnijcgegbaaDoorTurned
namespace Go.Proofs.YtkdhpnijcgegbaaDoor
open Go.RowKit


theorem sign_cut (n : Nat) (h : n < 16) : (⟨#[48, 49, 50, 51, 52, 53, 54, 55, 56, 57, 97, 98, 99, 100, 101, 102]⟩ : ByteArray).extract n (n + 1) = ⟨#[Sha.sign n]⟩ := by
  have : n = 0 ∨ n = 1 ∨ n = 2 ∨ n = 3 ∨ n = 4 ∨ n = 5 ∨ n = 6 ∨ n = 7 ∨ n = 8 ∨ n = 9 ∨ n = 10 ∨ n = 11 ∨ n = 12 ∨ n = 13 ∨ n = 14 ∨ n = 15 := by omega
  rcases this with rfl | rfl | rfl | rfl | rfl | rfl | rfl | rfl | rfl | rfl | rfl | rfl | rfl | rfl | rfl | rfl <;> rfl

theorem hex_more (HX : List UInt8) (k : Nat) (b : UInt8) (h1 : HX[2 * k]? = some (Sha.sign (b.toNat / 16))) (h2 : HX[2 * k + 1]? = some (Sha.sign (b.toNat % 16))) :
    (⟨(HX.take (2 * k)).toArray⟩ : ByteArray) ++ ((⟨#[48, 49, 50, 51, 52, 53, 54, 55, 56, 57, 97, 98, 99, 100, 101, 102]⟩ : ByteArray).extract (b.toNat / 16) (b.toNat / 16 + 1) ++ (⟨#[48, 49, 50, 51, 52, 53, 54, 55, 56, 57, 97, 98, 99, 100, 101, 102]⟩ : ByteArray).extract (b.toNat % 16) (b.toNat % 16 + 1)) = ⟨(HX.take (2 * (k + 1))).toArray⟩ := by
  have hb := b.toNat_lt
  rw [sign_cut _ (by omega), sign_cut _ (by omega)]
  apply ByteArray.ext
  apply Array.toList_inj.1
  rw [show 2 * (k + 1) = 2 * k + 1 + 1 by omega, List.take_add_one, List.take_add_one, h1, h2]
  simp [ByteArray.data_append]

set_option maxRecDepth 100000 in
set_option maxHeartbeats 1000000 in
theorem refHex_any (d : List UInt8) (hd : d.length = 32) (w : World) :
    Calls Tryd.prog 14 #[.agg (d.map byteVal).toArray] w fun e w' => e = .returned (.string ⟨(Sha.hex d).toArray⟩) ∧ Below w.heap.size w w' := by
  obtain ⟨vs, hvs⟩ : ∃ vs, d.map byteVal = vs := ⟨_, rfl⟩
  rw [hvs]
  have HV := hide hvs
  obtain ⟨HX, hHX⟩ : ∃ HX, Sha.hex d = HX := ⟨_, rfl⟩
  rw [hHX]
  have HHX : ∀ n, n = d → Sha.hex n = HX := fun n hn => hn ▸ hHX
  have hHL : HX.length = 64 := by rw [← hHX, Sha.hex_len, hd]
  clear hHX hvs
  go_enter Tryd.func14, Tryd.ntmps14
  go_wp2_with fail
  go_loopw [3, 4] (fun s i wr => ∃ k : Nat, k ≤ 32 ∧ i = .int .i64 k ∧ s = .string ⟨(HX.take (2 * k)).toArray⟩ ∧ VRow wr w.heap.size 24 vs ∧ Below w.heap.size w wr) (fun _ i _ => 32 - (intOf i).toNat)
  case atStart => exact ⟨0, Nat.zero_le _, rfl, rfl, VRow.newAt rfl, (Below.refl _ _).alloc (Nat.le_refl _) _⟩
  case round =>
    obtain ⟨k, hk, rfl, rfl, hrow, hbl⟩ := hrel
    have HR := hide hrow
    have HB := hide hbl
    by_cases hlt : k < 32
    · have hHA := Sha.hex_at d k d[k] (List.getElem?_eq_getElem (by omega))
      rw [HHX d rfl] at hHA
      rw [← unhide HV] at hrow
      have c0 := hrow.byte k (by omega)
      have hb := d[k].toNat_lt
      generalize d[k] = b at c0 hb hHA
      clear hrow hbl
      go_wp2_with fail
      go_quiet (fail)
      have HS := hide (hex_more HX k b hHA.1 hHA.2)
      clear hHA
      go_wp2_with fail
      go_roundw
      case rel => exact ⟨k + 1, by omega, by go_num, by rw [unhide HS], (unhide HR).drewN _, below_drewN (unhide HB) _⟩
      case measure => simp [intOf]; omega
    · obtain rfl : k = 32 := by omega
      clear hrow hbl
      rw [List.take_of_length_le (show HX.length ≤ 2 * 32 by omega)]
      go_wp2_with fail
      go_ret
      exact ⟨rfl, unhide HB⟩
end Go.Proofs.YtkdhpnijcgegbaaDoor
