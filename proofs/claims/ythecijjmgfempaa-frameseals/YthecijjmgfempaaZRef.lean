/-
  What the document's Of answers, for every string: the sum; it only computes.
-/
import Derived.Test.YthecijjmgfempaaRows
import Derived.Test.YthecijjmgfempaaZMath
import Derived.WalkKit
import Derived.WalkSpells
import Derived.WalkLawsBesides
import Derived.Laws.BitsAllLaws
import Derived.Outline
namespace Go.Proofs.Ythecijjmgfempaa.Cr
open Go.RowKit

theorem hide {p : Prop} (h : p) : Hid p := h
theorem unhide {p : Prop} (h : Hid p) : p := h

theorem ret_int {k : IntKind} {a b : Int} (h : a = b) : Ending.returned (.int k a) = .returned (.int k b) := by rw [h]

theorem take_snoc (s : ByteArray) (k : Nat) (h : k < s.size) : s.data.toList.take (k + 1) = s.data.toList.take k ++ [s[k]] := by
  rw [List.take_succ_eq_append_getElem (by simpa using h)]; rfl

set_option maxRecDepth 100000 in
set_option maxHeartbeats 400000 in
theorem refOf_any (s : ByteArray) (w : World) (hs : s.size ≤ maxLen) :
    Calls Try.prog 28 #[.string s] w fun e w' => e = .returned (.int .u32 (Crc.sum s.data.toList : Nat)) ∧ w' = w := by
  unfold maxLen at hs
  go_enter Try.func28, Try.ntmps28
  go_wp2
  go_loop [3, 4] (fun v i => ∃ k : Nat, k ≤ s.size ∧ i = .int .i64 k ∧ v = .int .u32 (Crc.reg 4294967295 (s.data.toList.take k) : Nat)) (fun _ i => s.size - (intOf i).toNat)
  case atStart => exact ⟨0, Nat.zero_le _, rfl, rfl⟩
  case round =>
    obtain ⟨k, hk, rfl, rfl⟩ := hrel
    have hlt4 := Crc.reg_lt (s.data.toList.take k) 4294967295 (by decide)
    by_cases hlt : k < s.size
    · have hsn : Crc.reg 4294967295 (s.data.toList.take (k + 1)) = Crc.Fn 8 (Crc.reg 4294967295 (s.data.toList.take k) ^^^ s[k].toNat) := by
        rw [take_snoc s k hlt, Crc.reg_snoc]; rfl
      have HS := hide hsn
      clear hsn
      generalize Crc.reg 4294967295 (s.data.toList.take k) = V at hlt4 HS ⊢
      have e1 : bits .xor .u32 (V : Int) ((s[k].toNat : Int) % 4294967296) = ((V ^^^ s[k].toNat : Nat) : Int) := by
        have := s[k].toNat_lt
        rw [show (s[k].toNat : Int) % 4294967296 = (s[k].toNat : Int) from by omega]
        exact u32_xor_nat _ _ hlt4 (by omega)
      have hX : V ^^^ s[k].toNat < 4294967296 := Nat.xor_lt_two_pow (n := 32) hlt4 (by have := s[k].toNat_lt; omega)
      generalize V ^^^ s[k].toNat = X at e1 HS hX
      go_wp2
      clear e1
      go_loop [3, 5] (fun v i => ∃ j : Nat, j ≤ 8 ∧ i = .int .i64 j ∧ v = .int .u32 (Crc.Fn j X : Nat)) (fun _ i => 8 - (intOf i).toNat)
      case atStart => exact ⟨0, Nat.zero_le _, rfl, rfl⟩
      case round =>
        obtain ⟨j, hj, rfl, rfl⟩ := hrel
        by_cases hj8 : j < 8
        · have hf : Crc.Fn (j + 1) X = Crc.F (Crc.Fn j X) := rfl
          have hy := Crc.Fn_lt j X hX
          generalize Crc.Fn j X = Y at hf hy ⊢
          rcases Nat.mod_two_eq_zero_or_one Y with hm | hm
          · have HF := hide (hf.trans (Crc.F_even Y hm))
            clear hf
            go_wp2
            go_round
            case rel => exact ⟨j + 1, by omega, by go_num, by rw [unhide HF]; go_num⟩
            case measure => simp [intOf]; omega
          · have HF := hide (hf.trans (Crc.F_odd Y hm))
            clear hf
            have e2 : bits .xor .u32 ((Y : Int) / 2) 3988292384 = ((Y / 2 ^^^ 3988292384 : Nat) : Int) := u32_xor_nat (Y / 2) 3988292384 (by omega) (by decide)
            go_wp2
            go_round
            case rel => exact ⟨j + 1, by omega, by go_num, by rw [unhide HF]⟩
            case measure => simp [intOf]; omega
        · have hj' : j = 8 := by omega
          subst hj'
          rw [← unhide HS]
          go_wp2
          go_round
          case rel => exact ⟨k + 1, by omega, by go_num, rfl⟩
          case measure => simp [intOf]; omega
    · have hk' : s.data.toList.take k = s.data.toList := List.take_of_length_le (by simp; omega)
      rw [hk'] at hlt4 ⊢
      clear hk'
      have HS : Hid (Crc.sum s.data.toList = _) := hide rfl
      go_wp2
      go_ret
      exact ⟨ret_int (by unfold Crc.sum; omega), rfl⟩
end Go.Proofs.Ythecijjmgfempaa.Cr
