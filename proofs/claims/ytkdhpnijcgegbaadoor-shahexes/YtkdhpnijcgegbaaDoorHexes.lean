/-
  The walk of the first statement on signs: a digest is written as the document says.
-/
import Derived.Test.YtkdhpnijcgegbaaDoorAwake
import Derived.Test.YtkdhpnijcgegbaaDoorRefHex
import Derived.Lib.QuietBelow
namespace Go.Proofs.YtkdhpnijcgegbaaDoor
open Go.RowKit

theorem quiet_load {ops : Array Oper} {rest : List Oper} {o : Oper} {a : Act} {w : World} {Q : Act → Prop} (hgd : o.guard = none) (T : TypeId) (x : Operand) (ho : o.op = .load T x)
    (B : Nat) (hx : a.eval x = .pointer (some ⟨B, 0, none⟩)) (T' : TypeId) (vs : List Value) (hr : VRow w B T' vs) (n m : Nat) (e : TypeId) (hu : Tryd.prog.underlying T = some (.array m e))
    (hi : (Tryd.prog.info? T).map (·.size) = some n) (hn : vs.length = n)
    (h : wpQuiet Tryd.prog ops (fun w' => ∃ p : Regrown, w' = Go.Sort.grow (redrawn w p.d) p.os) Q rest (a.put o.dst (.agg vs.toArray))) :
    wpQuiet Tryd.prog ops (fun w' => ∃ p : Regrown, w' = Go.Sort.grow (redrawn w p.d) p.os) Q (o :: rest) a := by
  refine wpQuiet_step fun K hK => ?_
  have hw : Region.wanted o (yielded ops a.tmps) = true := by simp [Region.wanted, hgd]
  rw [if_pos hw]
  refine ⟨.agg vs.toArray, ?_, hK _ h⟩
  rintro w' ⟨p, rfl⟩
  have hr' : VRow (Go.Sort.grow (redrawn w p.d) p.os) B T' vs := hr.below (below_regrown w p.d p.os) hr.lt
  unfold Oper.quietAt execOp
  simp only [ho, hx, Instr.loadAt, Instr.sureAddr, Sem.run_bind, Sem.run_pure, Result.andThen_ok, run_loadVar_row _ B T' T vs.toArray (0, 0) _ hr' hu rfl (by rw [hi]; simp [hn])]
  exact ⟨rfl, rfl⟩

set_option maxRecDepth 100000 in
set_option maxHeartbeats 1000000 in
theorem hexes_walk (d : List UInt8) (hd : d.length = 32) (w : World) (hG : Glob w) :
    Calls Tryd.prog 5 #[.agg (d.map byteVal).toArray] w fun e w' => e = .returned (.bool true) ∧ Below w.heap.size w w' := by
  have h2 := hG.lt2
  have HG := hide hG
  clear hG
  have HH := hide (hex_any d hd)
  have HF := hide (refHex_any d hd)
  obtain ⟨vs, hvs⟩ : ∃ vs, d.map byteVal = vs := ⟨_, rfl⟩
  have hvl : vs.length = 32 := by rw [← hvs]; simp [hd]
  rw [hvs] at HH HF ⊢
  generalize (⟨(Sha.hex d).toArray⟩ : ByteArray) = X at HH HF
  clear hvs
  go_enter Tryd.func5, Tryd.ntmps5
  go_wp2_with fail
  have HB1 := hide ((Below.refl w.heap.size w).alloc (Nat.le_refl _) (.cells vs.toArray 24))
  have HR1 := hide (VRow.new w 24 vs)
  have hlt : w.heap.size < (w.alloc (.cells vs.toArray 24)).heap.size := (unhide HR1).lt
  have HG1 := hide ((unhide HG).below (unhide HB1) h2)
  generalize w.alloc (.cells vs.toArray 24) = w1 at HB1 HR1 hlt HG1 ⊢
  refine wp_region_quiet_below (by kernel_rfl) (by kernel_rfl) ?_
  refine quiet_load (by rfl) 24 _ (by rfl) w.heap.size (by rfl) 24 vs (unhide HR1) 32 32 5 Tryd.underlying24 size24 hvl ?_
  quiet_step (first | (go_at_call 13; exact Calls.regrown_of (unhide HH _)))
  refine quiet_load (by rfl) 24 _ (by rfl) w.heap.size (by rfl) 24 vs (unhide HR1) 32 32 5 Tryd.underlying24 size24 hvl ?_
  repeat (quiet_step (first
    | (go_at_call 14; exact Calls.regrown_of (unhide HF _))
    | (go_at_call 8; exact Calls.regrown_of (wide_any _ ((unhide HG1).below (below_regrown _ _ _) (by omega))))))
  refine wpQuiet_nil ?_
  intro _ hw'
  obtain ⟨⟨dq, osq⟩, hw''⟩ := hw'
  subst hw''
  go_wp2_with fail
  go_ret
  exact ⟨rfl, (unhide HB1).trans ((below_regrown w1 dq osq).mono (unhide HB1).size)⟩
end Go.Proofs.YtkdhpnijcgegbaaDoor
