/-
  The message that bytes are: the document's Read, of any bytes.
-/
import Derived.Test.YthecijjmgfempaaGreatX2a
import Derived.Test.YthecijjmgfempaaGreatX2b
import Derived.Test.YthecijjmgfempaaGreatX2c
import Derived.Test.YthecijjmgfempaaGreatX2o
namespace Go.Proofs.YthecijjmgfempaaGreat
open Go.RowKit
theorem fail_ok {S : St} {k : Int} (h : 1 ≤ k ∧ k ≤ 6) : fail S (kindErr k) = S := by
  have e : kindErr k = 0 := by unfold kindErr; rw [if_neg (by omega)]
  rw [e, fail_zero]
theorem refRead_any (s : ByteArray) (hs : s.size ≤ 40000000) (w : World) : Calls Tryz.prog 22 #[.string s] w (ReadMade w (readM (s.data.toList, 0))) := by
  obtain ⟨⟨k, S⟩, hx⟩ : ∃ X, rNumber (s.data.toList, 0) 1073741824 = X := ⟨_, rfl⟩
  by_cases he : S.2 = 0
  · by_cases h2 : k = 2
    · subst h2; exact refRead_2 s hs w S hx he (fail_ok (by omega))
    by_cases h3 : k = 3
    · subst h3; exact refRead_3 s hs w S hx he (fail_ok (by omega))
    by_cases h4 : k = 4
    · subst h4; exact refRead_4 s hs w S hx he (fail_ok (by omega))
    by_cases h6 : k = 6
    · subst h6; exact refRead_6 s hs w S hx he (fail_ok (by omega))
    have n2 : (k == 2) = false := by simpa using h2
    have n3 : (k == 3) = false := by simpa using h3
    have n4 : (k == 4) = false := by simpa using h4
    have n6 : (k == 6) = false := by simpa using h6
    by_cases h7 : k < 1
    · exact refRead_B1 s hs w S k hx n2 n3 n4 n6 he h7 (by unfold kindErr; rw [if_pos (Or.inl h7)])
    by_cases h8 : 6 < k
    · exact refRead_B2 s hs w S k hx n2 n3 n4 n6 he h8 (by unfold kindErr; rw [if_pos (Or.inr h8)])
    exact refRead_C s hs w S k hx n2 n3 n4 n6 he (by omega) (by omega) (fail_ok (by omega))
  · have h0 : k = 0 := by
      have h := rNumber_err (st := (s.data.toList, 0)) (most := 1073741824) (by rw [hx]; exact he)
      rw [hx] at h
      exact h
    subst h0
    exact refRead_A s hs w S 0 hx rfl rfl rfl rfl (beq_eq_false_iff_ne.2 he) (fail_stays _ he)
end Go.Proofs.YthecijjmgfempaaGreat
