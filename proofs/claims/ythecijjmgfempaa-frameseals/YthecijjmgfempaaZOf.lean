/-
  What the Go functions of crc.Sum (step, Write, Value) and crc.Of answer, for every string: the sum; nothing that lay in memory turns but the Sum itself.
-/
import Derived.Test.YthecijjmgfempaaZRef
import Derived.RangeFuncBox
import Derived.OwnWalk
namespace Go.Proofs.Ythecijjmgfempaa.Cr
open Go.RowKit

theorem not_u32 (v : Nat) (h : v < 4294967296) : bits .xor .u32 IntKind.u32.max (v : Int) = 4294967295 - (v : Int) := by
  have h1 : bits .xor .u32 ((4294967295 : Nat) : Int) (v : Int) = ((4294967295 ^^^ v : Nat) : Int) := u32_xor_nat 4294967295 v (by decide) h
  have h2 : (4294967295 : Nat) ^^^ v = 4294967295 - v := by rw [Nat.xor_comm, ← Crc.compl_xor v h]
  rw [h2] at h1
  refine Eq.trans h1 ?_
  omega

theorem not_u32_back (v : Nat) (h : v < 4294967296) : bits .xor .u32 IntKind.u32.max (4294967295 - (v : Int)) = (v : Int) := by
  have e : (4294967295 - (v : Int)) = ((4294967295 - v : Nat) : Int) := by omega
  rw [e, not_u32 _ (by omega)]
  omega

theorem and_one_u32 (v : Nat) (h : v < 4294967296) : bits .and .u32 (v : Int) 1 = ((v % 2 : Nat) : Int) := by
  have h1 : bits .and .u32 (v : Int) ((1 : Nat) : Int) = ((v &&& 1 : Nat) : Int) := u32_and_nat v 1 h (by decide)
  rw [Nat.and_one_is_mod] at h1
  exact h1

set_option maxRecDepth 100000 in
set_option maxHeartbeats 400000 in
theorem step_any (B : Nat) (x : UInt8) (r : Nat) (hr : r < 4294967296) (w : World) (hc : w.cell? ⟨B, 0, none⟩ = some (.int .u32 (4294967295 - (r : Int)))) (hf : w.frozen? ⟨B, 0, none⟩ = false) :
    Calls Try.prog 44 #[.pointer (some ⟨B, 0, none⟩), .int .u8 (x.toNat : Int)] w fun e w' => e = .returned (.tuple #[]) ∧ w' = w.setCell ⟨B, 0, none⟩ (.int .u32 (4294967295 - (Crc.feed r x : Int))) := by
  have hx := x.toNat_lt
  have hX : r ^^^ x.toNat < 4294967296 := Nat.xor_lt_two_pow (n := 32) hr (by omega)
  have e0 := not_u32_back r hr
  have e1 : bits .xor .u32 (r : Int) (x.toNat : Int) = ((r ^^^ x.toNat : Nat) : Int) := u32_xor_nat _ _ hr (by omega)
  have HS : Hid (Crc.feed r x = Crc.Fn 8 (r ^^^ x.toNat)) := hide rfl
  generalize Crc.feed r x = S at HS ⊢
  generalize r ^^^ x.toNat = X at e1 hX HS
  go_enter Try.func44, Try.ntmps44
  go_wp2
  clear e0 e1
  go_loop [4, 14] (fun v i => ∃ j : Nat, j ≤ 8 ∧ i = .int .i64 j ∧ v = .int .u32 (Crc.Fn j X : Nat)) (fun _ i => 8 - (intOf i).toNat)
  case atStart => exact ⟨0, Nat.zero_le _, rfl, rfl⟩
  case round =>
    obtain ⟨j, hj, rfl, rfl⟩ := hrel
    by_cases hj8 : j < 8
    · have hF : Crc.Fn (j + 1) X = Crc.F (Crc.Fn j X) := rfl
      have hy := Crc.Fn_lt j X hX
      generalize Crc.Fn j X = Y at hF hy ⊢
      have e2 := and_one_u32 Y hy
      rcases Nat.mod_two_eq_zero_or_one Y with hm | hm
      · have HF := hide (hF.trans (Crc.F_even Y hm))
        rw [hm] at e2
        clear hF
        go_wp2
        go_round
        case rel => exact ⟨j + 1, by omega, by go_num, by rw [unhide HF]; go_num⟩
        case measure => simp [intOf]; omega
      · have HF := hide (hF.trans (Crc.F_odd Y hm))
        rw [hm] at e2
        clear hF
        have e3 : bits .xor .u32 ((Y : Int) / 2) 3988292384 = ((Y / 2 ^^^ 3988292384 : Nat) : Int) := u32_xor_nat (Y / 2) 3988292384 (by omega) (by decide)
        go_wp2
        go_round
        case rel => exact ⟨j + 1, by omega, by go_num, by rw [unhide HF]⟩
        case measure => simp [intOf]; omega
    · have hj' : j = 8 := by omega
      subst hj'
      rw [← unhide HS]
      have hy := Crc.Fn_lt 8 X hX
      rw [← unhide HS] at hy
      have e4 := not_u32 S hy
      go_wp2
      go_end0
      exact ⟨rfl, rfl⟩

set_option maxRecDepth 100000 in
set_option maxHeartbeats 400000 in
theorem Write_any (B n₀ : Nat) (hB : n₀ ≤ B) (s : ByteArray) (hs : s.size ≤ maxLen) (r : Nat) (hr : r < 4294967296) (w : World) (hb : Boxed w B 79 (.int .u32 (4294967295 - (r : Int)))) :
    Calls Try.prog 34 #[.pointer (some ⟨B, 0, none⟩), .string s] w fun e w' => e = .returned (.tuple #[]) ∧ Boxed w' B 79 (.int .u32 (4294967295 - (Crc.reg r s.data.toList : Int))) ∧ Below n₀ w w' := by
  unfold maxLen at hs
  go_enter Try.func34, Try.ntmps34
  go_wp2
  go_loopw [12] (fun i wr => ∃ k : Nat, k ≤ s.size ∧ i = .int .i64 k ∧ Boxed wr B 79 (.int .u32 (4294967295 - (Crc.reg r (s.data.toList.take k) : Int))) ∧ Below n₀ w wr) (fun i _ => s.size - (intOf i).toNat)
  case atStart => exact ⟨0, Nat.zero_le _, rfl, hb, Below.refl _ _⟩
  case round =>
    obtain ⟨k, hk, rfl, hbx, hbl⟩ := hrel
    by_cases hlt : k < s.size
    · have hsn : Crc.reg r (s.data.toList.take (k + 1)) = Crc.feed (Crc.reg r (s.data.toList.take k)) s[k] := by rw [take_snoc s k hlt, Crc.reg_snoc]
      have HS := hide hsn
      have hl4 := Crc.reg_lt (s.data.toList.take k) r hr
      clear hsn
      have HC := hide hbx.cell
      have HF := hide hbx.frozen
      go_wp2_with fail
      refine (step_any B s[k] _ hl4 _ (unhide HC) (unhide HF)).mono ?_
      rintro e w' ⟨rfl, rfl⟩
      rw [← unhide HS]
      go_wp2
      go_roundw
      case rel => exact ⟨k + 1, by omega, by go_num, hbx.set _, hbl.setCell (p := ⟨B, 0, none⟩) hB _⟩
      case measure => simp [intOf]; omega
    · have hk' : s.data.toList.take k = s.data.toList := List.take_of_length_le (by simp; omega)
      rw [hk'] at hbx
      clear hk'
      go_wp2
      go_end0
      exact ⟨rfl, hbx, hbl⟩

theorem Write_nil (s : ByteArray) (w : World) :
    Calls Try.prog 34 #[.pointer none, .string s] w fun e w' => e = .returned (.tuple #[]) ∧ w' = w := by
  go_enter Try.func34, Try.ntmps34
  go_wp2
  refine bodyPost_ret (results_none rfl _ _ _) rfl ?_
  exact ⟨rfl, rfl⟩

theorem Value_any (B : Nat) (v : Int) (w : World) (hb : Boxed w B 79 (.int .u32 v)) :
    Calls Try.prog 35 #[.pointer (some ⟨B, 0, none⟩)] w fun e w' => e = .returned (.int .u32 v) ∧ w' = w := by
  have hc := hb.cell
  go_enter Try.func35, Try.ntmps35
  go_wp2
  go_ret
  exact ⟨rfl, rfl⟩

theorem Value_nil (w : World) :
    Calls Try.prog 35 #[.pointer none] w fun e w' => e = .returned (.int .u32 0) ∧ w' = w := by
  go_enter Try.func35, Try.ntmps35
  go_wp2
  go_ret
  exact ⟨rfl, rfl⟩

set_option maxRecDepth 100000 in
set_option maxHeartbeats 400000 in
theorem Of_any (s : ByteArray) (hs : s.size ≤ maxLen) (w : World) :
    Calls Try.prog 18 #[.string s] w fun e w' => e = .returned (.int .u32 (Crc.sum s.data.toList : Nat)) ∧ Below w.heap.size w w' := by
  have hs' := hide hs
  unfold maxLen at hs
  go_enter Try.func18, Try.ntmps18
  go_wp2_with fail
  refine (Write_any w.heap.size w.heap.size (Nat.le_refl _) s (unhide hs') 4294967295 (by decide) _ (Boxed.new w 79 (.int .u32 0))).mono ?_
  rintro e w1 ⟨rfl, hb1, hl1⟩
  go_wp2_with fail
  refine (Value_any w.heap.size _ w1 hb1).mono ?_
  rintro e w2 ⟨rfl, rfl⟩
  go_wp2
  go_ret
  refine ⟨ret_int ?_, ((Below.refl w.heap.size w).alloc (Nat.le_refl _) _).trans hl1⟩
  have := Crc.reg_lt s.data.toList 4294967295 (by decide)
  unfold Crc.sum
  omega
end Go.Proofs.Ythecijjmgfempaa.Cr
