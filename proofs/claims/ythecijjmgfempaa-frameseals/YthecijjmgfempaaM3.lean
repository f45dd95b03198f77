/-
  Whether a message may be: the document's Check, of any message; Great.
-/
import Derived.Test.YthecijjmgfempaaM2a
import Derived.Test.YthecijjmgfempaaM2b
import Derived.Test.YthecijjmgfempaaM2c
import Derived.Test.YthecijjmgfempaaM2d
namespace Go.Proofs.Ythecijjmgfempaa
open Go.RowKit

set_option maxRecDepth 100000 in
set_option maxHeartbeats 1000000 in
theorem refCheckM_any (m : Msg) (a b : Option Addr) (c d : Nat) (w : World) (hf : FewM m) (s1 : Sl w a m.ctx) (s2 : RL w b m.rows) :
    Calls Try.prog 21 #[.agg (mL m a c b d).toArray] w fun e w' => e = .returned (.int .i64 (checkM m)) ∧ Below w.heap.size w w' := by
  by_cases hh : headM m = 0
  · obtain ⟨h1, h2, -⟩ := headM_zero hh
    obtain ⟨K, F, T, S, TU, P, R, C, RW, TX⟩ := m
    dsimp only at h1 h2 s1 s2
    rcases (by omega : K = 1 ∨ K = 2 ∨ K = 3 ∨ K = 4 ∨ K = 5 ∨ K = 6) with h | h | h | h | h | h
    · subst h; exact refCheck_k1 F T S TU P R C RW TX a b c d w hf hh s1 s2
    · subst h; exact refCheck_k2 F T S TU P R C RW TX a b c d w hf hh s1 s2
    · subst h; exact refCheck_k3 F T S TU P R C RW TX a b c d w hf hh s1 s2
    · subst h; exact refCheck_k4 F T S TU P R C RW TX a b c d w hf hh s1 s2
    · subst h; exact refCheck_k5 F T S TU P R C RW TX a b c d w hf hh s1 s2
    · subst h; exact refCheck_k6 F T S TU P R C RW TX a b c d w hf hh s1 s2
  · rw [checkM_head hh]
    have hne : (headM m != 0) = true := bne_iff_ne.2 hh
    have HR := hide (VRow.new w 27 (mL m a c b d))
    have HB := hide (below_alloc' (w := w) (.cells (mL m a c b d).toArray 27))
    have HL := hide (mL_len (m := m) hf.root a c b d)
    have K1 := hide fun W => refHead_any m a b c d W
    generalize headM m = V at *
    generalize mL m a c b d = L at *
    clear hf s1 s2
    go_enter Try.func21, Try.ntmps21
    go_wp2_with ((have hrx := unhide HR); (refine load_msg (by rfl) (.tmp 1) (by rfl) w.heap.size (by rfl) _ hrx (unhide HL) ?_))
    refine (unhide K1 _).mono ?_
    rintro e w1 ⟨rfl, hb⟩
    have HB1 := hide (below_grow (unhide HB) (Nat.le_refl _) hb)
    clear hb
    go_wp2_with fail
    go_ret
    exact ⟨rfl, unhide HB1⟩

/-- A message that is too much to be asked. -/
def greatM (m : Msg) : Bool := decide (70 < m.rows.length) || decide (70 < m.ctx.length) || decide (70000 < m.text.size) || decide (300 < m.path.size) || m.rows.any fun r => decide (70 < r.length)
theorem greatM_no {m : Msg} (h : greatM m = false) : m.rows.length ≤ 70 ∧ m.ctx.length ≤ 70 ∧ m.text.size ≤ 70000 ∧ m.path.size ≤ 300 ∧ ∀ r ∈ m.rows, r.length ≤ 70 := by
  simp only [greatM, Bool.or_eq_false_iff, decide_eq_false_iff_not, Nat.not_lt, List.any_eq_false, decide_eq_true_eq] at h
  exact ⟨h.1.1.1.1, h.1.1.1.2, h.1.1.2, h.1.2, h.2⟩

set_option maxRecDepth 100000 in
set_option maxHeartbeats 1000000 in
theorem great_any (m : Msg) (a b : Option Addr) (c d : Nat) (w : World) (hr : m.root.length = 32) (hn : m.rows.length ≤ 9223372036854775807) (s2 : RL w b m.rows) :
    Calls Try.prog 4 #[.agg (mL m a c b d).toArray] w fun e w' => e = .returned (.bool (greatM m)) ∧ Below w.heap.size w w' := by
  have R0 := VRow.new w 27 (mL m a c b d)
  have HB := hide (below_alloc' (w := w) (.cells (mL m a c b d).toArray 27))
  have HS := hide s2
  have HR := hide R0
  have a5 := m5 R0
  have a38 := m38 R0 hr
  have a39 := m39 R0 hr
  have a40 := m40 R0 hr
  have HN := hide hn
  obtain ⟨K, F, T, S, TU, P, R, C, RW, TX⟩ := m
  dsimp only at a5 a38 a39 a40 hn HN HS s2
  obtain ⟨V, hV⟩ : ∃ V, greatM ⟨K, F, T, S, TU, P, R, C, RW, TX⟩ = V := ⟨_, rfl⟩
  rw [hV]
  unfold greatM at hV
  dsimp only at hV
  clear R0 hr s2
  by_cases h1 : 70 < RW.length
  · rw [decide_eq_true h1] at hV
    have HV : Hid (true = V) := hide (by simpa using hV)
    clear hV
    go_enter Try.func4, Try.ntmps4
    go_wp2_with fail
    go_ret
    exact ⟨ret_bool (unhide HV), unhide HB⟩
  rw [decide_eq_false h1] at hV
  by_cases h2 : 70 < C.length
  · rw [decide_eq_true h2] at hV
    have HV : Hid (true = V) := hide (by simpa using hV)
    clear hV
    go_enter Try.func4, Try.ntmps4
    go_wp2_with fail
    go_ret
    exact ⟨ret_bool (unhide HV), unhide HB⟩
  rw [decide_eq_false h2] at hV
  by_cases h3 : 70000 < TX.size
  · rw [decide_eq_true h3] at hV
    have HV : Hid (true = V) := hide (by simpa using hV)
    clear hV
    go_enter Try.func4, Try.ntmps4
    go_wp2_with fail
    go_ret
    exact ⟨ret_bool (unhide HV), unhide HB⟩
  rw [decide_eq_false h3] at hV
  by_cases h4 : 300 < P.size
  · rw [decide_eq_true h4] at hV
    have HV : Hid (true = V) := hide (by simpa using hV)
    clear hV
    go_enter Try.func4, Try.ntmps4
    go_wp2_with fail
    go_ret
    exact ⟨ret_bool (unhide HV), unhide HB⟩
  rw [decide_eq_false h4] at hV
  have HV : Hid ((RW.any fun r => decide (70 < r.length)) = V) := hide (by simpa using hV)
  clear hV
  go_enter Try.func4, Try.ntmps4
  go_wp2_with fail
  go_loopw [3] (fun i wr => ∃ k q : Nat, k ≤ RW.length ∧ i = .int .i64 k ∧ Hid (((RW.drop k).any fun r => decide (70 < r.length)) = V) ∧ wr = (w.alloc (.cells (mL ⟨K, F, T, S, TU, P, R, C, RW, TX⟩ a c b d).toArray 27)).drewN q) (fun i _ => RW.length - (intOf i).toNat)
  case atStart => exact ⟨0, 0, Nat.zero_le _, rfl, HV, rfl⟩
  case round =>
    obtain ⟨k, q, hk, rfl, HE, rfl⟩ := hrel
    by_cases hlt : k < RW.length
    · obtain ⟨ds, hds⟩ : ∃ ds, RW[k]? = some ds := ⟨_, List.getElem?_eq_getElem hlt⟩
      obtain ⟨g, o, rfl, _, hcell⟩ := (unhide HS).after (unhide HB) (by omega)
      obtain ⟨r, c2, x0, _, _⟩ := hcell k ds hds
      have hE := unhide HE
      obtain ⟨hi, hd⟩ := List.getElem?_eq_some_iff.1 hds
      rw [List.drop_eq_getElem_cons hi, hd, List.any_cons] at hE
      clear hcell hds hi hd HE
      by_cases h5 : 70 < ds.length
      · rw [decide_eq_true h5, Bool.true_or] at hE
        have HE := hide hE
        clear hE
        go_wp2_with fail
        go_ret
        exact ⟨ret_bool (unhide HE), below_drewN (unhide HB) _⟩
      · rw [decide_eq_false h5, Bool.false_or] at hE
        have HE := hide hE
        clear hE
        go_wp2_with fail
        go_roundw
        case rel => exact ⟨k + 1, _, by omega, by go_num, HE, rfl⟩
        case measure => simp [intOf]; omega
    · obtain rfl : k = RW.length := by omega
      have hE := unhide HE
      rw [List.drop_length] at hE
      have HE := hide hE
      clear hE
      go_wp2_with fail
      go_ret
      exact ⟨ret_bool (unhide HE), below_drewN (unhide HB) _⟩
end Go.Proofs.Ythecijjmgfempaa
