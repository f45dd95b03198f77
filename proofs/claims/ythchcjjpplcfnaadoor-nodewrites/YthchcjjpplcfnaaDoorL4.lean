/-
  The walk of the statement on which bytes and which digest a node has. The condition: the package's tables hold what its text lays there.
-/
import Derived.Test.YthchcjjpplcfnaaDoorS1
import Derived.Test.YthchcjjpplcfnaaDoorG1
import Derived.Test.YthchcjjpplcfnaaDoorN4
import Derived.Lib.QuietBelow
import Derived.Stop.BytesEq
namespace Go.Proofs.YthchcjjpplcfnaaDoor
open Go.RowKit

theorem quiet_node {ops : Array Oper} {rest : List Oper} {o : Oper} {a : Act} {S : World → Prop} {Q : Act → Prop} (hw : Region.wanted o (yielded ops a.tmps) = true) (x : Operand) (ho : o.op = .load 25 x)
    (B : Nat) (hx : a.eval x = .pointer (some ⟨B, 0, none⟩)) (vs : List Value) (hr : ∀ w', S w' → VRow w' B 25 vs) (hn : vs.length = 2)
    (h : wpQuiet Tryd.prog ops S Q rest (a.put o.dst (.agg vs.toArray))) : wpQuiet Tryd.prog ops S Q (o :: rest) a := by
  refine wpQuiet_step fun K hK => ?_
  rw [if_pos hw]
  refine ⟨.agg vs.toArray, ?_, hK _ h⟩
  intro w' hS
  unfold Oper.quietAt execOp
  simp only [ho, hx, Instr.loadAt, Instr.sureAddr, Sem.run_bind, Sem.run_pure, Result.andThen_ok, run_loadVar_row w' B 25 25 vs.toArray (0, 0) _ (hr w' hS) Tryd.underlying25 rfl (by rw [sizeNd]; simp [hn])]
  exact ⟨rfl, rfl⟩
theorem alikeD (U : List UInt8) (hU : U.length = 32) (w : World) : (Op.equalIn 10000 33 (.agg (U.map byteVal).toArray) (.agg (U.map byteVal).toArray)).run Tryd.prog w = .ok true w := by
  have h := run_equalIn_bytes (P := Tryd.prog) w 9998 33 5 32 Tryd.underlying33 Tryd.underlying5 (fun w => Tryd.sizeOf5 w) U U hU hU
  rw [beq_self_eq_true] at h
  exact h

set_option maxRecDepth 100000 in
set_option maxHeartbeats 8000000 in
theorem writes_walk (n : Nd) (a : Option Addr) (c : Nat) (b : Option Addr) (d : Nat) (hc : Ncome n) (w : World) (h : NdAt w n a c b d) (hG : Hsh.Glob w) (hK : Hsh.RefKeys w) :
    Calls Tryd.prog 3 #[.agg (ndL n a c b d).toArray] w fun e w' => e = .returned (.bool true) ∧ Below w.heap.size w w' := by
  have h2 := hG.lt2
  have HB0 := hide (below_alloc' (w := w) (.cells (ndL n a c b d).toArray 25))
  have HR0 := hide (VRow.new w 25 (ndL n a c b d))
  have HAT0 := hide (h.after (unhide HB0))
  have KG := hide (greatN_any a c b d n hc _ (unhide HAT0))
  have HC := hide hc
  have HGL := hide hG
  have HKY := hide hK
  clear h hc hG hK
  go_enter Tryd.func3, Tryd.ntmps3
  go_wp2_with (refine load_node (by rfl) (.tmp 1) (by rfl) w.heap.size (by rfl) (ndL n a c b d) (unhide HR0) rfl ?_)
  generalize w.alloc (.cells _ 25) = w0 at HB0 HR0 HAT0 KG ⊢
  refine (unhide KG).mono ?_
  rintro e w1 ⟨G, rfl, hb, hGr⟩
  have HB1 := hide (below_grow (unhide HB0) (Nat.le_refl _) hb)
  have HR1 := hide ((unhide HR0).after hb)
  have HAT1 := hide ((unhide HAT0).after hb)
  have HGr := hide hGr
  clear hb hGr KG
  cases G with
  | true =>
    go_wp2_with fail
    refine (awakeN_any _).mono ?_
    rintro e w2 ⟨rfl, hb⟩
    have HB2 := hide (below_grow (unhide HB1) (Nat.le_refl _) hb)
    clear hb
    go_wp2_with fail
    go_ret
    exact ⟨rfl, unhide HB2⟩
  | false =>
    have HOK := hide ((unhide HGr rfl).ok (unhide HC))
    have HDT := hide (unhide HC).data
    have KB := hide fun W h => bytesN_any a c b d n (unhide HOK) W h
    have KRB := hide fun W h => refBytesN_any a c b d n (unhide HOK) (unhide HDT) W h
    have KC := hide fun W h => checkN_any a c b d n (unhide HOK) W h
    have KRC := hide fun W h => refCheckN_any a c b d n (unhide HOK) W h
    have KS := hide fun W h hG h2 => sumN_any a c b d n (unhide HOK) W h hG h2
    have KRS := hide fun W h hG h2 => refSumN_any a c b d n (unhide HOK) (unhide HDT) W h hG h2
    have hsm := alikeD (sumN n) (sumN_len n)
    generalize (sumN n).map byteVal = vs at KS KRS hsm
    generalize str (bytesN n).1 = T at KB KRB
    generalize (bytesN n).2 = E at KB KRB
    generalize chkN n = F at KC KRC
    have hTT : (T.toList == T.toList) = true := beq_self_eq_true _
    have hEE : (E == E) = true := by simp
    have hFF : (F == F) = true := by simp
    go_wp2_with (refine load_node (by rfl) (.tmp 1) (by rfl) w.heap.size (by rfl) (ndL n a c b d) (unhide HR1) rfl ?_)
    refine (unhide KB _ (unhide HAT1)).mono ?_
    rintro e w2 ⟨rfl, hb⟩
    have HB2 := hide (below_grow (unhide HB1) (Nat.le_refl _) hb)
    have HR2 := hide ((unhide HR1).after hb)
    have HAT2 := hide ((unhide HAT1).after hb)
    clear hb
    go_wp2_with (refine load_node (by rfl) (.tmp 1) (by rfl) w.heap.size (by rfl) (ndL n a c b d) (unhide HR2) rfl ?_)
    refine (unhide KRB _ (unhide HAT2)).mono ?_
    rintro e w3 ⟨rfl, hb⟩
    have HB3 := hide (below_grow (unhide HB2) (Nat.le_refl _) hb)
    have HR3 := hide ((unhide HR2).after hb)
    have HAT3 := hide ((unhide HAT2).after hb)
    have HGL3 := hide ((unhide HGL).below (unhide HB3) h2)
    have HKY3 := hide ((unhide HKY).below (unhide HB3) (by omega))
    have HSZ3 := hide (Nat.lt_of_lt_of_le h2 (unhide HB3).size)
    clear hb
    go_wp2_with fail
    refine wp_region_quiet_below (by kernel_rfl) (by kernel_rfl) ?_
    iterate 9 (quiet_step (fail))
    refine quiet_node (by rfl) (.tmp 1) (by rfl) w.heap.size (by rfl) (ndL n a c b d) (by rintro w' ⟨p, rfl⟩; exact (unhide HR3).after (below_regrown _ _ _)) rfl ?_
    quiet_step (first | (go_at_call 8; exact Calls.regrown_of (unhide KC _ ((unhide HAT3).after (below_regrown _ _ _)))))
    refine quiet_node (by rfl) (.tmp 1) (by rfl) w.heap.size (by rfl) (ndL n a c b d) (by rintro w' ⟨p, rfl⟩; exact (unhide HR3).after (below_regrown _ _ _)) rfl ?_
    quiet_step (first | (go_at_call 9; exact Calls.regrown_of (unhide KRC _ ((unhide HAT3).after (below_regrown _ _ _)))))
    iterate 3 (quiet_step (fail))
    refine quiet_node (by rfl) (.tmp 1) (by rfl) w.heap.size (by rfl) (ndL n a c b d) (by rintro w' ⟨p, rfl⟩; exact (unhide HR3).after (below_regrown _ _ _)) rfl ?_
    quiet_step (first | (go_at_call 10; exact Calls.regrown_of (unhide KS _ ((unhide HAT3).after (below_regrown _ _ _)) ((unhide HGL3).below (below_regrown _ _ _) (unhide HSZ3)) (Nat.lt_of_lt_of_le (unhide HSZ3) (below_regrown w3 _ _).size))))
    refine quiet_node (by rfl) (.tmp 1) (by rfl) w.heap.size (by rfl) (ndL n a c b d) (by rintro w' ⟨p, rfl⟩; exact (unhide HR3).after (below_regrown _ _ _)) rfl ?_
    quiet_step (first | (go_at_call 11; exact Calls.regrown_of (unhide KRS _ ((unhide HAT3).after (below_regrown _ _ _)) ((unhide HKY3).below (below_regrown _ _ _) (by have := unhide HSZ3; omega)) (Nat.lt_of_lt_of_le (unhide HSZ3) (below_regrown w3 _ _).size))))
    repeat (quiet_step (first | (go_at_call 5; exact Calls.regrown_of (awakeN_any _))))
    refine wpQuiet_nil ?_
    rintro _ ⟨⟨dq, osq⟩, rfl⟩
    go_wp2_with fail
    go_ret
    exact ⟨by first | rfl | simp, below_grow (unhide HB3) (Nat.le_refl _) (below_regrown _ _ _)⟩
end Go.Proofs.YthchcjjpplcfnaaDoor
