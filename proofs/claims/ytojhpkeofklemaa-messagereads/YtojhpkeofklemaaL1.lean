/-
  The walks of two laws: whether a message may be, and which messages are the same.
-/
import Derived.Test.YtojhpkeofklemaaN3
import Derived.Test.YtojhpkeofklemaaM3
import Derived.Test.YtojhpkeofklemaaOpen
import Derived.Lib.QuietBelow
namespace Go.Proofs.Ytojhpkeofklemaa
open Go.RowKit

theorem few_of {m : Msg} (h : greatM m = false) (hr : m.root.length = 32) : FewM m := by
  obtain ⟨h1, h2, h3, h4, h5⟩ := greatM_no h
  exact ⟨hr, by omega, by omega, ⟨by omega, fun r hr => by have := h5 r hr; omega⟩, by omega⟩

theorem quiet_load27 {ops : Array Oper} {rest : List Oper} {o : Oper} {a : Act} {w : World} {Q : Act → Prop} (hw : Region.wanted o (yielded ops a.tmps) = true) (x : Operand) (ho : o.op = .load 27 x)
    (B : Nat) (hx : a.eval x = .pointer (some ⟨B, 0, none⟩)) (vs : List Value) (hr : VRow w B 27 vs) (hn : vs.length = 41)
    (h : wpQuiet Try.prog ops (fun w' => ∃ p : Regrown, w' = Go.Sort.grow (redrawn w p.d) p.os) Q rest (a.put o.dst (.agg vs.toArray))) :
    wpQuiet Try.prog ops (fun w' => ∃ p : Regrown, w' = Go.Sort.grow (redrawn w p.d) p.os) Q (o :: rest) a := by
  refine wpQuiet_step fun K hK => ?_
  rw [if_pos hw]
  refine ⟨.agg vs.toArray, ?_, hK _ h⟩
  rintro w' ⟨p, rfl⟩
  have hr' : VRow (Go.Sort.grow (redrawn w p.d) p.os) B 27 vs := hr.below (below_regrown w p.d p.os) hr.lt
  unfold Oper.quietAt execOp
  simp only [ho, hx, Instr.loadAt, Instr.sureAddr, Sem.run_bind, Sem.run_pure, Result.andThen_ok, run_loadVar_row _ B 27 27 vs.toArray (0, 0) _ hr' Try.underlying27 rfl (by rw [sizeM]; simp [hn])]
  exact ⟨rfl, rfl⟩

set_option maxRecDepth 100000 in
set_option maxHeartbeats 1000000 in
theorem checks_walk (m : Msg) (a b : Option Addr) (c d : Nat) (hr : m.root.length = 32) (hn : m.rows.length ≤ 9223372036854775807) (w : World) (s1 : Sl w a m.ctx) (s2 : RL w b m.rows) :
    Calls Try.prog 3 #[.agg (mL m a c b d).toArray] w fun e w' => e = .returned (.bool true) ∧ Below w.heap.size w w' := by
  have HR := hide (VRow.new w 27 (mL m a c b d))
  have HB := hide (below_alloc' (w := w) (.cells (mL m a c b d).toArray 27))
  have HL := hide (mL_len hr a c b d)
  have HS1 := hide (s1.after (unhide HB))
  have HS2 := hide (s2.after (unhide HB))
  have KG := hide fun W h => great_any m a b c d W hr hn h
  obtain ⟨G, hG⟩ : ∃ G, greatM m = G := ⟨_, rfl⟩
  rw [hG] at KG
  cases G with
  | true =>
    clear hr hn s1 s2 hG
    generalize mL m a c b d = L at *
    go_enter Try.func3, Try.ntmps3
    go_wp2_with fail
    refine wp_region_quiet_below (by kernel_rfl) (by kernel_rfl) ?_
    refine quiet_load27 (by rfl) _ (by rfl) w.heap.size (by rfl) L (unhide HR) (unhide HL) ?_
    repeat (quiet_step (first
      | (go_at_call 8; exact Calls.regrown_of (unhide KG _ ((unhide HS2).after (below_regrown _ _ _))))
      | (go_at_call 9; exact Calls.regrown_of (awake_any _))))
    refine wpQuiet_nil ?_
    intro _ hw'
    obtain ⟨⟨dq, osq⟩, hw''⟩ := hw'
    subst hw''
    go_wp2_with fail
    go_ret
    exact ⟨rfl, below_grow (unhide HB) (Nat.le_refl _) (below_regrown _ _ _)⟩
  | false =>
    have hf := few_of hG hr
    have K1 := hide fun W h1 h2 => checkM_any m a b c d W hf h1 h2
    have K2 := hide fun W h1 h2 => refCheckM_any m a b c d W hf h1 h2
    clear hr hn s1 s2 hG hf
    generalize mL m a c b d = L at *
    generalize checkM m = V at *
    have hV : (V == V) = true := by simp
    go_enter Try.func3, Try.ntmps3
    go_wp2_with fail
    refine wp_region_quiet_below (by kernel_rfl) (by kernel_rfl) ?_
    refine quiet_load27 (by rfl) _ (by rfl) w.heap.size (by rfl) L (unhide HR) (unhide HL) ?_
    iterate 5 (quiet_step (first
      | (go_at_call 8; exact Calls.regrown_of (unhide KG _ ((unhide HS2).after (below_regrown _ _ _))))))
    refine quiet_load27 (by rfl) _ (by rfl) w.heap.size (by rfl) L (unhide HR) (unhide HL) ?_
    quiet_step (first
      | (go_at_call 10; exact Calls.regrown_of (unhide K1 _ ((unhide HS1).after (below_regrown _ _ _)) ((unhide HS2).after (below_regrown _ _ _)))))
    refine quiet_load27 (by rfl) _ (by rfl) w.heap.size (by rfl) L (unhide HR) (unhide HL) ?_
    repeat (quiet_step (first
      | (go_at_call 11; exact Calls.regrown_of (unhide K2 _ ((unhide HS1).after (below_regrown _ _ _)) ((unhide HS2).after (below_regrown _ _ _))))
      | (go_at_call 9; exact Calls.regrown_of (awake_any _))))
    refine wpQuiet_nil ?_
    intro _ hw'
    obtain ⟨⟨dq, osq⟩, hw''⟩ := hw'
    subst hw''
    go_wp2_with fail
    go_ret
    exact ⟨by first | rfl | simp, below_grow (unhide HB) (Nat.le_refl _) (below_regrown _ _ _)⟩
end Go.Proofs.Ytojhpkeofklemaa

namespace Go.Proofs.Ytojhpkeofklemaa
open Go.RowKit
theorem load_msg_want {ops : Array Oper} {rest : List Oper} {o : Oper} {a : Act} {w : World} {Q : Exit → Act → World → Prop} (hw : Region.wanted o (yielded ops a.tmps) = true) (x : Operand) (ho : o.op = .load 27 x)
    (B : Nat) (hx : a.eval x = .pointer (some ⟨B, 0, none⟩)) (vs : List Value) (hr : VRow w B 27 vs) (hn : vs.length = 41)
    (h : wpList Try.prog ops Q rest (a.put o.dst (.agg vs.toArray)) w) : wpList Try.prog ops Q (o :: rest) a w :=
  wpList_step fun _ hK => by rw [if_pos hw]; exact wp_load_row 27 x ho B hx 27 vs.toArray (0, 0) _ hr Try.underlying27 rfl (by rw [sizeM]; simp [hn]) (hK _ _ h)
open Classical in
theorem some_bool (p : Prop) : ∃ D : Bool, D = true ↔ p := ⟨decide p, by simp⟩
set_option maxRecDepth 100000 in
set_option maxHeartbeats 2000000 in
theorem same_walk (m : Msg) (a b : Option Addr) (c d : Nat) (hr : m.root.length = 32) (hn : m.rows.length ≤ 9223372036854775807) (n : Msg) (a' b' : Option Addr) (c' d' : Nat) (hr' : n.root.length = 32) (hn' : n.rows.length ≤ 9223372036854775807)
    (w : World) (s1 : Sl w a m.ctx) (s2 : RL w b m.rows) (s3 : Sl w a' n.ctx) (s4 : RL w b' n.rows) :
    Calls Try.prog 7 #[.agg (mL m a c b d).toArray, .agg (mL n a' c' b' d').toArray] w fun e w' => e = .returned (.bool true) ∧ Below w.heap.size w w' := by
  have HR := hide ((VRow.new w 27 (mL m a c b d)).alloc (.cells (mL n a' c' b' d').toArray 27))
  have HR' := hide (VRow.newAt (W := w.alloc (.cells (mL m a c b d).toArray 27)) (T := 27) (n := w.heap.size + 1) (vs := mL n a' c' b' d') (by simp))
  have HB := hide ((below_alloc' (w := w) (.cells (mL m a c b d).toArray 27)).alloc (by simp) (.cells (mL n a' c' b' d').toArray 27))
  have HL := hide (mL_len hr a c b d)
  have HL' := hide (mL_len hr' a' c' b' d')
  have HS1 := hide (s1.after (unhide HB))
  have HS2 := hide (s2.after (unhide HB))
  have HS3 := hide (s3.after (unhide HB))
  have HS4 := hide (s4.after (unhide HB))
  have KG := hide fun W h => great_any m a b c d W hr hn h
  have KG' := hide fun W h => great_any n a' b' c' d' W hr' hn' h
  obtain ⟨G, hG⟩ : ∃ G, greatM m = G := ⟨_, rfl⟩
  obtain ⟨G', hG'⟩ : ∃ G, greatM n = G := ⟨_, rfl⟩
  rw [hG] at KG
  rw [hG'] at KG'
  cases G with
  | true =>
    clear hr hn s1 s2 s3 s4 hG hG' hr' hn'
    generalize mL m a c b d = L at *
    generalize mL n a' c' b' d' = L' at *
    go_enter Try.func7, Try.ntmps7
    go_wp2_with ((with_reducible refine at27 ?_); (refine load_msg (by rfl) (.tmp 2) (by rfl) w.heap.size (by rfl) _ (unhide HR) (unhide HL) ?_))
    refine (unhide KG _ (unhide HS2)).mono ?_
    rintro e w1 ⟨rfl, hb⟩
    have HB1 := hide (below_grow (unhide HB) (Nat.le_refl _) hb)
    clear hb
    go_wp2_with fail
    refine (awake_any _).mono ?_
    rintro e w2 ⟨rfl, hb⟩
    have HB2 := hide (below_grow (unhide HB1) (Nat.le_refl _) hb)
    clear hb
    go_wp2_with fail
    go_ret
    exact ⟨rfl, unhide HB2⟩
  | false =>
    cases G' with
    | true =>
      clear hr hn s1 s2 s3 s4 hG hG' hr' hn'
      generalize mL m a c b d = L at *
      generalize mL n a' c' b' d' = L' at *
      go_enter Try.func7, Try.ntmps7
      go_wp2_with ((with_reducible refine at27 ?_); (refine load_msg (by rfl) (.tmp 2) (by rfl) w.heap.size (by rfl) _ (unhide HR) (unhide HL) ?_))
      refine (unhide KG _ (unhide HS2)).mono ?_
      rintro e w1 ⟨rfl, hb⟩
      have HB1 := hide (below_grow (unhide HB) (Nat.le_refl _) hb)
      have HR1' := hide ((unhide HR').after hb)
      have HS41 := hide ((unhide HS4).after hb)
      clear hb
      go_wp2_with ((with_reducible refine at27 ?_); (refine load_msg_want (by rfl) (.tmp 3) (by rfl) (w.heap.size + 1) (by rfl) _ (unhide HR1') (unhide HL') ?_))
      refine (unhide KG' _ (unhide HS41)).mono ?_
      rintro e w1b ⟨rfl, hb⟩
      have HB1b := hide (below_grow (unhide HB1) (Nat.le_refl _) hb)
      clear hb
      go_wp2_with fail
      refine (awake_any _).mono ?_
      rintro e w2 ⟨rfl, hb⟩
      have HB2 := hide (below_grow (unhide HB1b) (Nat.le_refl _) hb)
      clear hb
      go_wp2_with fail
      go_ret
      exact ⟨rfl, unhide HB2⟩
    | false =>
      have hf := few_of hG hr
      have hf' := few_of hG' hr'
      obtain ⟨D, hD⟩ := some_bool (m = n)
      have K1 := hide fun W h1 h2 h3 h4 => sameM_any m n a b a' b' c d c' d' W hf hf' h1 h2 h3 h4 D hD
      have K2 := hide fun W h1 h2 h3 h4 => refSameM_any m n a b a' b' c d c' d' W hf hf' h1 h2 h3 h4 D hD
      have K3 := hide fun W h1 h2 => sameM_any m m a b a b c d c d W hf hf h1 h2 h1 h2 true (by simp)
      clear hr hn s1 s2 s3 s4 hG hG' hr' hn' hf hf' hD
      generalize mL m a c b d = L at *
      generalize mL n a' c' b' d' = L' at *
      go_enter Try.func7, Try.ntmps7
      go_wp2_with ((with_reducible refine at27 ?_); (refine load_msg (by rfl) (.tmp 2) (by rfl) w.heap.size (by rfl) _ (unhide HR) (unhide HL) ?_))
      refine (unhide KG _ (unhide HS2)).mono ?_
      rintro e w1 ⟨rfl, hb⟩
      have HB1 := hide (below_grow (unhide HB) (Nat.le_refl _) hb)
      have HR1 := hide ((unhide HR).after hb)
      have HR1' := hide ((unhide HR').after hb)
      have HT1 := hide ((unhide HS1).after hb)
      have HT2 := hide ((unhide HS2).after hb)
      have HT3 := hide ((unhide HS3).after hb)
      have HT4 := hide ((unhide HS4).after hb)
      clear hb
      go_wp2_with ((with_reducible refine at27 ?_); (refine load_msg_want (by rfl) (.tmp 3) (by rfl) (w.heap.size + 1) (by rfl) _ (unhide HR1') (unhide HL') ?_))
      refine (unhide KG' _ (unhide HT4)).mono ?_
      rintro e w2 ⟨rfl, hb⟩
      have HB2 := hide (below_grow (unhide HB1) (Nat.le_refl _) hb)
      have HR2 := hide ((unhide HR1).after hb)
      have HR2' := hide ((unhide HR1').after hb)
      have HU1 := hide ((unhide HT1).after hb)
      have HU2 := hide ((unhide HT2).after hb)
      have HU3 := hide ((unhide HT3).after hb)
      have HU4 := hide ((unhide HT4).after hb)
      clear hb
      have hDD : (D == D) = true := by simp
      go_wp2_with fail
      refine wp_region_quiet_below (by kernel_rfl) (by kernel_rfl) ?_
      refine quiet_load27 (by rfl) _ (by rfl) w.heap.size (by rfl) L (unhide HR2) (unhide HL) ?_
      refine quiet_load27 (by rfl) _ (by rfl) (w.heap.size + 1) (by rfl) L' (unhide HR2') (unhide HL') ?_
      quiet_step (first | (go_at_call 17; exact Calls.regrown_of (unhide K1 _ ((unhide HU1).after (below_regrown _ _ _)) ((unhide HU2).after (below_regrown _ _ _)) ((unhide HU3).after (below_regrown _ _ _)) ((unhide HU4).after (below_regrown _ _ _)))))
      refine quiet_load27 (by rfl) _ (by rfl) w.heap.size (by rfl) L (unhide HR2) (unhide HL) ?_
      refine quiet_load27 (by rfl) _ (by rfl) (w.heap.size + 1) (by rfl) L' (unhide HR2') (unhide HL') ?_
      iterate 3 (quiet_step (first | (go_at_call 16; exact Calls.regrown_of (unhide K2 _ ((unhide HU1).after (below_regrown _ _ _)) ((unhide HU2).after (below_regrown _ _ _)) ((unhide HU3).after (below_regrown _ _ _)) ((unhide HU4).after (below_regrown _ _ _))))))
      refine quiet_load27 (by rfl) _ (by rfl) w.heap.size (by rfl) L (unhide HR2) (unhide HL) ?_
      refine quiet_load27 (by rfl) _ (by rfl) w.heap.size (by rfl) L (unhide HR2) (unhide HL) ?_
      quiet_step (first | (go_at_call 17; exact Calls.regrown_of (unhide K3 _ ((unhide HU1).after (below_regrown _ _ _)) ((unhide HU2).after (below_regrown _ _ _)))))
      repeat (quiet_step (first | (go_at_call 9; exact Calls.regrown_of (awake_any _))))
      refine wpQuiet_nil ?_
      intro _ hw'
      obtain ⟨⟨dq, osq⟩, hw''⟩ := hw'
      subst hw''
      go_wp2_with fail
      go_ret
      exact ⟨by first | rfl | simp, below_grow (unhide HB2) (Nat.le_refl _) (below_regrown _ _ _)⟩
end Go.Proofs.Ytojhpkeofklemaa
