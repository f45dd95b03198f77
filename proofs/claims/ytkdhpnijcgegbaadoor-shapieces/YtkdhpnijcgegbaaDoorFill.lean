/-
  Plain facts on rows that are filled from the first on. No Go, no world.
-/
import Derived.Test.YtkdhpnijcgegbaaDoorMath
namespace Go.Proofs.YtkdhpnijcgegbaaDoor.Sha

/-! rows that are filled from the first on -/
theorem mid_set {α : Type} (L S : List α) (k : Nat) (hL : k < L.length) (hS : k < S.length) : (L.take k ++ S.drop k).set k L[k] = L.take (k + 1) ++ S.drop (k + 1) := by
  rw [List.set_append_right _ _ (by simp; omega), List.take_succ_eq_append_getElem hL, List.length_take, Nat.min_eq_left (by omega), Nat.sub_self]
  rw [List.drop_eq_getElem_cons hS, List.set_cons_zero, List.append_assoc, List.singleton_append]
theorem mid_get {α : Type} (L S : List α) (k : Nat) (hL : k ≤ L.length) : (L.take k ++ S.drop k)[k]? = S[k]? := by
  rw [List.getElem?_append_right (by simp; omega)]
  simp [Nat.min_eq_left hL]
theorem mid_all {α : Type} (L S : List α) (k : Nat) (hL : L.length ≤ k) (hS : S.length ≤ k) : L.take k ++ S.drop k = L := by
  rw [List.take_of_length_le hL, List.drop_of_length_le hS, List.append_nil]

end Go.Proofs.YtkdhpnijcgegbaaDoor.Sha
