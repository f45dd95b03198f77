/-
  What Hex answers: a digest in signs.
-/
import Derived.Test.YtkdhpnijcgegbaaDoorEnd
import Derived.Deep.RegionLaw
import Derived.Test.YtkdhpnijcgegbaaDoorSigns
namespace Go.Proofs.YtkdhpnijcgegbaaDoor
open Go.RowKit

theorem run_index24 (d : List UInt8) (hd : d.length = 32) (k : Nat) (hk : k < 32) (w : World) :
    (Instr.index 24 (.agg (d.map byteVal).toArray) (.int .i64 (k : Int))).run Tryd.prog w = .ok (.int .u8 (d[k].toNat : Int)) w := by
  have h1 : (0 : Int) ≤ k ∧ (k : Int) < 32 := by omega
  simp [Instr.index, asIntOf, run_underlying Tryd.underlying24, h1, Tryd.sizeOf5, part, Tryd.isAgg5, byteVal, hk, hd]

def zb64 : List UInt8 := List.replicate 64 0
theorem run_make64 (w : World) : (Instr.makeSlice 44 (.int .i64 0) (.int .i64 64)).run Tryd.prog w = .ok (.slice (some ⟨w.heap.size, 0, none⟩) 0 64) (w.alloc (.cells (zb64.map byteVal).toArray 5)) := by kernel_rfl

theorem sign_at (n : Nat) (h : n < 16) : ([48, 49, 50, 51, 52, 53, 54, 55, 56, 57, 97, 98, 99, 100, 101, 102] : List UInt8)[n]? = some (Sha.sign n) := by
  have : n = 0 ∨ n = 1 ∨ n = 2 ∨ n = 3 ∨ n = 4 ∨ n = 5 ∨ n = 6 ∨ n = 7 ∨ n = 8 ∨ n = 9 ∨ n = 10 ∨ n = 11 ∨ n = 12 ∨ n = 13 ∨ n = 14 ∨ n = 15 := by omega
  rcases this with rfl | rfl | rfl | rfl | rfl | rfl | rfl | rfl | rfl | rfl | rfl | rfl | rfl | rfl | rfl | rfl <;> rfl

def signs : ByteArray := ⟨#[48, 49, 50, 51, 52, 53, 54, 55, 56, 57, 97, 98, 99, 100, 101, 102]⟩
theorem run_sign (n : Nat) (h : n < 16) (w : World) :
    (Instr.index 9 (.string ⟨#[48, 49, 50, 51, 52, 53, 54, 55, 56, 57, 97, 98, 99, 100, 101, 102]⟩) (.int .u8 (n : Int))).run Tryd.prog w = .ok (.int .u8 ((Sha.sign n).toNat : Int)) w := by
  have : n = 0 ∨ n = 1 ∨ n = 2 ∨ n = 3 ∨ n = 4 ∨ n = 5 ∨ n = 6 ∨ n = 7 ∨ n = 8 ∨ n = 9 ∨ n = 10 ∨ n = 11 ∨ n = 12 ∨ n = 13 ∨ n = 14 ∨ n = 15 := by omega
  rcases this with rfl | rfl | rfl | rfl | rfl | rfl | rfl | rfl | rfl | rfl | rfl | rfl | rfl | rfl | rfl | rfl <;> rfl

set_option maxRecDepth 100000 in
set_option maxHeartbeats 1000000 in
theorem hex_any (d : List UInt8) (hd : d.length = 32) (w : World) :
    Calls Tryd.prog 13 #[.agg (d.map byteVal).toArray] w fun e w' => e = .returned (.string ⟨(Sha.hex d).toArray⟩) ∧ Below w.heap.size w w' := by
  have hmk := run_make64
  have hix := run_index24 d hd
  obtain ⟨vs, hvs⟩ : ∃ vs, d.map byteVal = vs := ⟨_, rfl⟩
  rw [hvs] at hix ⊢
  have hvl : vs.length = 32 := by rw [← hvs]; simp [hd]
  obtain ⟨HX, hHX⟩ : ∃ HX, Sha.hex d = HX := ⟨_, rfl⟩
  rw [hHX]
  have HHX : ∀ n, n = d → Sha.hex n = HX := fun n hn => hn ▸ hHX
  have hHL : HX.length = 64 := by rw [← hHX, Sha.hex_len, hd]
  clear hHX hvs
  go_enter Tryd.func13, Tryd.ntmps13
  go_wp2_with (first
    | (refine load_row (by rfl) 24 _ (by rfl) w.heap.size (by rfl) 24 vs (VRow.alloc (VRow.newAt rfl) _) 32 32 5 Tryd.underlying24 size24 hvl ?_))
  clear hmk
  go_loopw [3, 8] (fun s i wr => ∃ k : Nat, k ≤ 32 ∧ i = .int .i64 k ∧ s = .slice (some ⟨w.heap.size + 1, 0, none⟩) (2 * k) 64 ∧ VRow wr (w.heap.size + 1) 5 ((HX.take (2 * k) ++ zb64.drop (2 * k)).map byteVal) ∧ Below w.heap.size w wr) (fun _ i _ => 32 - (intOf i).toNat)
  case atStart => exact ⟨0, Nat.zero_le _, rfl, rfl, VRow.newAt (by simp), ((Below.refl _ _).alloc (Nat.le_refl _) _).alloc (by simp) _⟩
  case round =>
    obtain ⟨k, hk, rfl, rfl, hrow, hbl⟩ := hrel
    have HR := hide hrow
    have HB := hide hbl
    by_cases hlt : k < 32
    · have hHA := Sha.hex_at d k d[k] (List.getElem?_eq_getElem (by omega))
      rw [HHX d rfl] at hHA
      have hi := hix k hlt
      have hb := d[k].toNat_lt
      clear hix
      generalize d[k] = b at hi hb hHA
      obtain ⟨q, hq⟩ : ∃ q, b.toNat / 16 = q := ⟨_, rfl⟩
      obtain ⟨r, hr⟩ : ∃ r, b.toNat % 16 = r := ⟨_, rfl⟩
      have hq1 : IntKind.u8.wrap ((b.toNat : Int) / 16) = (q : Int) := by rw [IntKind.wrap_u8]; omega
      have hr1 : ((b.toNat : Int)).tmod 16 = (r : Int) := by rw [Int.tmod_eq_emod_of_nonneg (by omega)]; omega
      rw [hq, hr] at hHA
      have HN : Hid (((HX.take (2 * k) ++ zb64.drop (2 * k)).set (2 * k) (Sha.sign q)).set (2 * k + 1) (Sha.sign r) = HX.take (2 * k + 2) ++ zb64.drop (2 * k + 2)) := by
        rw [Sha.mid_setQ _ _ _ _ hHA.1 (by simp [zb64]; omega), Sha.mid_setQ _ _ _ _ hHA.2 (by simp [zb64]; omega)]
        exact hide rfl
      have hsq := run_sign q (by omega)
      have hsr := run_sign r (by omega)
      have hsz := hrow.lt
      have c0 := hrow.byte (2 * k) (by simp [zb64]; omega)
      have c1 := hrow.byte (2 * k + 1) (by simp [zb64]; omega)
      have f0 := hrow.frozen (2 * k)
      have f1 := hrow.frozen (2 * k + 1)
      generalize ((HX.take (2 * k) ++ zb64.drop (2 * k))[2 * k]'(by simp [zb64]; omega)).toNat = y0 at c0
      generalize ((HX.take (2 * k) ++ zb64.drop (2 * k))[2 * k + 1]'(by simp [zb64]; omega)).toNat = y1 at c1
      clear hrow hbl hq hr hHA
      go_wp2_with fail
      go_region
      go_wp2_with fail
      go_roundw
      case rel =>
        refine ⟨k + 1, by omega, by go_num, by rw [show 2 * (k + 1) = 2 * k + 2 by omega], ?_, (((((unhide HB).setCell (p := ⟨w.heap.size + 1, 2 * k, none⟩) (by simp) _).setCell (p := ⟨w.heap.size + 1, 2 * k + 1, none⟩) (by simp) _).alloc (by simp; omega) _).drew)⟩
        rw [show 2 * (k + 1) = 2 * k + 2 by omega, ← unhide HN]
        exact ((((unhide HR).setByte (2 * k) (Sha.sign q)).setByte (2 * k + 1) (Sha.sign r)).alloc _).drew
      case measure => simp [intOf]; omega
    · obtain rfl : k = 32 := by omega
      have hrow' : VRow wr (w.heap.size + 1) 5 (HX.map byteVal) := by
        rw [Sha.mid_all _ _ (2 * 32) (by omega) (by simp [zb64])] at hrow
        exact hrow
      have hcv : (convert 44 9 (.slice (some ⟨w.heap.size + 1, 0, none⟩) 64 64)).run Tryd.prog wr = .ok (.string ⟨HX.toArray⟩) wr := by
        have h := hrow'.text 64
        rwa [hHL] at h
      clear hrow hbl HR hrow' hix
      go_wp2_with fail
      go_ret
      exact ⟨rfl, unhide HB⟩
end Go.Proofs.YtkdhpnijcgegbaaDoor
