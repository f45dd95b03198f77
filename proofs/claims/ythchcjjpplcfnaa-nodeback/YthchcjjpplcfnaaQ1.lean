/-
  Whether two kids are the same, as a comparison of structs. Conditions: a digest has 32 bytes.
-/
import Derived.Test.YthchcjjpplcfnaaK1
import Derived.Stop.BytesEq
namespace Go.Proofs.Ythchcjjpplcfnaa
open Go.RowKit

theorem eq_dig (U V : List UInt8) (hU : U.length = 32) (hV : V.length = 32) (w : World) : (Op.equalIn 9999 39 (.agg (U.map byteVal).toArray) (.agg (V.map byteVal).toArray)).run Try.prog w = .ok (U == V) w :=
  run_equalIn_bytes (P := Try.prog) w 9997 39 5 32 Try.underlying39 Try.underlying5 (fun w => Try.sizeOf5 w) U V hU hV
theorem part_name (k : Kd) (w : World) : (part 9 (kL k).toArray 0).run Try.prog w = .ok (.string k.1) w := by
  simp [part, isAgg, run_underlying Try.underlying9, kL]
theorem part_dig (k : Kd) (hd : k.2.length = 32) (w : World) : (part 39 (kL k).toArray 1).run Try.prog w = .ok (.agg (k.2.map byteVal).toArray) w := by
  have e : (kL k).toArray.extract 1 33 = (k.2.map byteVal).toArray := by
    simp [kL, List.extract]
    exact List.take_of_length_le (by simp [hd])
  simp only [part, isAgg, Sem.run_bind, run_underlying Try.underlying39, Result.andThen_ok, Sem.run_pure, if_true, Try.sizeOf39 w]
  rw [show 1 + 32 = 33 from rfl, e]
def sameK (x y : Kd) : Bool := (x.1.toList == y.1.toList) && (x.2 == y.2)
theorem sameK_iff (x y : Kd) : sameK x y = true ↔ x = y := by
  unfold sameK
  rw [Bool.and_eq_true, beq_iff_eq, beq_iff_eq, Lib.toList_data, Lib.toList_data]
  constructor
  · rintro ⟨h1, h2⟩
    exact Prod.ext (data_inj _ _ h1) h2
  · rintro rfl
    exact ⟨rfl, rfl⟩
theorem eqK (x y : Kd) (hx : x.2.length = 32) (hy : y.2.length = 32) (w : World) : (Op.equalIn 10000 41 (.agg (kL x).toArray) (.agg (kL y).toArray)).run Try.prog w = .ok (sameK x y) w := by
  rw [run_equalIn_agg (P := Try.prog) w 9999 41 (kL x).toArray (kL y).toArray (by kernel_rfl) (by kernel_rfl)]
  simp only [Program.fieldsOf, Try.underlying41, Op.eqFields]
  have n1 : (("Name" : String) ≠ "_") = True := eq_true (by decide)
  have n2 : (("Sum" : String) ≠ "_") = True := eq_true (by decide)
  simp only [n1, n2, if_true, Sem.run_bind, part_name, Result.andThen_ok, run_equalIn_string w 9998 9 _ _ Try.underlying9]
  unfold sameK
  cases hn : (x.1.toList == y.1.toList) <;> cases hd : (x.2 == y.2) <;> simp [part_dig x hx, part_dig y hy, eq_dig _ _ hx hy, hd]
end Go.Proofs.Ythchcjjpplcfnaa
