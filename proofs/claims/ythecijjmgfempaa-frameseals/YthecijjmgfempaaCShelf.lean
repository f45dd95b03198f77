/-
  The library's strings.Clone, at this program: the library's own contract, applied to this program's numbers (no walk of its text). Conditions: those that each theorem names.
-/
import Derived.Test.YthecijjmgfempaaSib
import Derived.Shelf.Strconv.Clone
import Derived.Test.YthecijjmgfempaaGrow
namespace Go.Proofs.Ythecijjmgfempaa
open Go.RowKit Go.Shelf
end Go.Proofs.Ythecijjmgfempaa

namespace Go.Proofs.Ythecijjmgfempaa
open Go.RowKit

/-- The number ahead, at most one, and how many bytes it has. -/
def aheadN (b : List UInt8) (most : Int) : Int × Nat × Int :=
  if (Cnt.takeF b).2.2 ≠ 0 then (0, 0, (Cnt.takeF b).2.2) else if most < (Cnt.takeF b).1 then (0, 0, 2) else ((Cnt.takeF b).1, (Cnt.takeF b).2.1.toNat, 0)
theorem rNumber_ahead (st : St) (most : Int) : rNumber st most = (got st (aheadN st.1 most).2.2 0 (aheadN st.1 most).1, cut st (aheadN st.1 most).2.1 (aheadN st.1 most).2.2) := by
  unfold rNumber got cut aheadN
  by_cases h0 : st.2 ≠ 0
  · simp [h0]
  · rw [if_neg h0, if_neg h0, if_neg h0]
    by_cases h1 : (Cnt.takeF st.1).2.2 ≠ 0
    · simp [h1]
    · rw [if_neg h1, if_neg h1]
      by_cases h2 : most < (Cnt.takeF st.1).1
      · simp [h2]
      · simp [h2]
theorem aheadN_ok (b : List UInt8) (most : Int) : 0 ≤ (aheadN b most).1 ∧ (aheadN b most).2.1 ≤ b.length := by
  unfold aheadN
  split
  · exact ⟨Int.le_refl _, Nat.zero_le _⟩
  · split
    · exact ⟨Int.le_refl _, Nat.zero_le _⟩
    · rename_i h1 _
      refine ⟨takeF_nonneg _, ?_⟩
      have := (Cnt.takeF_ok b (by simpa using h1)).2.1
      show (Cnt.takeF b).2.1.toNat ≤ _
      omega

/-- The text ahead, and how many bytes it has, with those of its length. -/
def aheadT (b : List UInt8) (most : Int) : List UInt8 × Nat × Int :=
  if (aheadN b most).2.2 ≠ 0 then ([], 0, (aheadN b most).2.2) else if ((b.length - (aheadN b most).2.1 : Nat) : Int) < (aheadN b most).1 then ([], 0, 5)
  else ((b.drop (aheadN b most).2.1).take (aheadN b most).1.toNat, (aheadN b most).2.1 + (aheadN b most).1.toNat, 0)
theorem rText_ahead (st : St) (most : Int) : rText st most = (got st (aheadT st.1 most).2.2 [] (aheadT st.1 most).1, cut st (aheadT st.1 most).2.1 (aheadT st.1 most).2.2) := by
  unfold rText
  rw [rNumber_ahead]
  unfold aheadT
  obtain ⟨n, k, x, hA⟩ : ∃ n k x, aheadN st.1 most = (n, k, x) := ⟨_, _, _, rfl⟩
  rw [hA]
  dsimp only
  by_cases h0 : st.2 = 0
  · by_cases hx : x = 0
    · subst hx
      have h1 : cut st k 0 = (st.1.drop k, 0) := by simp [cut, h0]
      have h2 : got st 0 0 n = n := by simp [got, h0]
      rw [h1, h2]
      dsimp only
      rw [List.length_drop]
      by_cases hl : ((st.1.length - k : Nat) : Int) < n
      · simp [got, cut, h0, hl]
      · simp [got, cut, h0, hl, List.drop_drop]
    · simp [got, cut, h0, hx]
  · simp [got, cut, h0]
theorem aheadT_ok (b : List UInt8) (most : Int) : (aheadT b most).2.1 ≤ b.length := by
  have h := aheadN_ok b most
  unfold aheadT
  split
  · exact Nat.zero_le _
  · split
    · exact Nat.zero_le _
    · show (aheadN b most).2.1 + (aheadN b most).1.toNat ≤ _
      omega

theorem got_str (st : St) (x : Int) (v : List UInt8) : got st x (⟨#[]⟩ : ByteArray) (str v) = str (got st x [] v) := by
  unfold got
  split
  · rfl
  · split <;> rfl
end Go.Proofs.Ythecijjmgfempaa

namespace Go.Proofs.Ythecijjmgfempaa
open Go.RowKit

def aheadF1 (b : List UInt8) : Bool × Nat × Int :=
  match b with
  | [] => (false, 0, 5)
  | x :: _ => if 1 < x.toNat then (false, 0, 7) else (x == 1, 1, 0)
theorem rFlag_ahead (st : St) : rFlag st = (got st (aheadF1 st.1).2.2 false (aheadF1 st.1).1, cut st (aheadF1 st.1).2.1 (aheadF1 st.1).2.2) := by
  obtain ⟨b, e⟩ := st
  unfold rFlag got cut aheadF1
  by_cases h0 : e ≠ 0
  · simp [h0]
  · have h0' : e = 0 := by simpa using h0
    subst h0'
    cases b with
    | nil => rfl
    | cons x r =>
      by_cases h1 : 1 < x.toNat
      · simp [h1]
      · simp [h1]
theorem aheadF1_ok (b : List UInt8) : (aheadF1 b).2.2 = 0 → (aheadF1 b).2.1 ≤ b.length := by
  unfold aheadF1
  cases b with
  | nil => intro h; cases h
  | cons x r =>
    dsimp only
    split
    · intro h; cases h
    · intro _; simp

end Go.Proofs.Ythecijjmgfempaa
