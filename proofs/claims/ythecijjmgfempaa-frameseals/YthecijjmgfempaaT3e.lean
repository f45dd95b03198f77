/-
  A message put: through, told to the putter.
-/
import Derived.Test.YthecijjmgfempaaT3a
import Derived.Test.YthecijjmgfempaaT3b
import Derived.Test.YthecijjmgfempaaT3c
namespace Go.Proofs.Ythecijjmgfempaa
open Go.RowKit

theorem throughP_any {w : World} {p : Addr} {st : St} {own : Nat → Prop} {B : Nat} {m : Msg} {a b : Option Addr} {c d : Nat} (h : Wr w p st own) (hl : st.1.length ≤ 30000000) (w0 : World) (hb0 : Below w0.heap.size w0 w) (ho0 : ∀ g, own g → w0.heap.size ≤ g)
    (hB : ¬ own B) (hrow : VRow w B 27 (mL m a c b d)) (hf : FewM m) (hn : m.rows.length ≤ 64) (s1 : Sl w0 a m.ctx) (s2 : RL w0 b m.rows) (hk : 1 ≤ m.kind ∧ m.kind ≤ 6) :
    Calls Try.prog 15 #[.pointer (some ⟨B, 0, none⟩), .iface 43 (.agg #[.pointer (some p)])] w (Turned Wr own p w (wMsg st m) (.tuple #[])) := by
  have hk0 : ∀ k : Int, m.kind = k → kindErr k = 0 := fun k e => by unfold kindErr; rw [if_neg (by omega)]
  unfold wMsg
  by_cases h2 : m.kind = 2
  · rw [if_pos h2]; exact throughP_2 h hl w0 hb0 ho0 hB hrow hf hn s1 s2 h2 (hk0 _ h2)
  rw [if_neg h2]
  by_cases h3 : m.kind = 3
  · rw [if_pos h3]; exact throughP_3 h hl w0 hb0 ho0 hB hrow hf hn s1 s2 h3 (hk0 _ h3)
  rw [if_neg h3]
  by_cases h4 : m.kind = 4
  · rw [if_pos h4]; exact throughP_4 h hl w0 hb0 ho0 hB hrow hf hn s1 s2 h4 (hk0 _ h4)
  rw [if_neg h4]
  by_cases h6 : m.kind = 6
  · rw [if_pos h6]; exact throughP_6 h hl w0 hb0 ho0 hB hrow hf hn s1 s2 h6 (hk0 _ h6)
  rw [if_neg h6]
  exact throughP_o h hl w0 hb0 ho0 hB hrow hf hn s1 s2 rfl (hk0 _ rfl) (by simpa using h2) (by simpa using h3) (by simpa using h4) (by simpa using h6)
end Go.Proofs.Ythecijjmgfempaa
