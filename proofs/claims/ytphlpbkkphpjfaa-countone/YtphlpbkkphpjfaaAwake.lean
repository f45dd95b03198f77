/-
  The examples of chapter 1 come out of the program as the document says them ('awake'): true, and nothing that lay in memory turns.
-/
import Derived.Test.YtphlpbkkphpjfaaRefPut
namespace Go.Proofs.Ytphlpbkkphpjfaa
open Go.RowKit

theorem put300 : Cnt.putL 300 = [172, 2] := by decide
theorem take300 : Cnt.takeF [172, 2, 9] = (300, 2, 0) := by decide

set_option maxRecDepth 100000 in
set_option maxHeartbeats 1000000 in
theorem awake_any (w : World) : Calls Try.prog 11 #[] w fun e w' => e = .returned (.bool true) ∧ Below w.heap.size w w' := by
  go_enter Try.func11, Try.ntmps11
  go_wp2_with fail
  refine (Take_any _ _ (by decide)).mono ?_
  rintro e w1 ⟨rfl, rfl⟩
  rw [show (ByteArray.mk #[172, 2, 9]).data.toList = [172, 2, 9] from rfl, take300]
  go_wp2_with fail
  refine (Put_any _ _).mono ?_
  rintro e w2 ⟨rfl, hb2⟩
  rw [put300]
  go_wp2_with fail
  refine (Size_any _ _).mono ?_
  rintro e w3 ⟨rfl, hb3⟩
  rw [put300]
  go_wp2_with fail
  go_ret
  exact ⟨rfl, hb2.trans (hb3.mono hb2.size)⟩
end Go.Proofs.Ytphlpbkkphpjfaa
