/-
  A message taken: through, told to the taker.
-/
import Derived.Test.YthecijjmgfempaaGreatT5a
import Derived.Test.YthecijjmgfempaaGreatT5b
import Derived.Test.YthecijjmgfempaaGreatT5c
namespace Go.Proofs.YthecijjmgfempaaGreat
open Go.RowKit

theorem throughT_any {w : World} {B q : Nat} {st : St} (hr : VRow w B 28 mZ) (h : Doc w q 82 st) (hs : st.1.length ≤ 50000000) (hne : B ≠ q) :
    Calls Tryz.prog 42 #[.pointer (some ⟨B, 0, none⟩), .iface 89 (.agg #[.pointer (some ⟨q, 0, none⟩)])] w (TMsg B q w (rMsg st)) := by
  obtain ⟨⟨k, S⟩, hx⟩ : ∃ X, rNumber st 1073741824 = X := ⟨_, rfl⟩
  have e : rMsg st = rBody k S := by unfold rMsg; rw [hx]
  rw [e]
  unfold rBody
  by_cases h2 : k = 2
  · subst h2; exact throughT_2 hr h hs hne hx
  rw [if_neg h2]
  by_cases h3 : k = 3
  · subst h3; exact throughT_3 hr h hs hne hx
  rw [if_neg h3]
  by_cases h4 : k = 4
  · subst h4; exact throughT_4 hr h hs hne hx
  rw [if_neg h4]
  by_cases h6 : k = 6
  · subst h6; exact throughT_6 hr h hs hne hx
  rw [if_neg h6]
  exact throughT_o hr h hs hne hx (by simpa using h2) (by simpa using h3) (by simpa using h4) (by simpa using h6)
end Go.Proofs.YthecijjmgfempaaGreat
