/-
  The walks of the statements on signs that are read.
-/
import Derived.Test.YtkdhpnijcgegbaaDoorAwake
import Derived.Test.YtkdhpnijcgegbaaDoorRefRead
import Derived.Stop.BytesEq
namespace Go.Proofs.YtkdhpnijcgegbaaDoor
open Go.RowKit

theorem same24 (U : List UInt8) (hU : U.length = 32) (w : World) : (Op.equalIn 10000 24 (.agg (U.map byteVal).toArray) (.agg (U.map byteVal).toArray)).run Tryd.prog w = .ok true w := by
  have h := run_equalIn_bytes (P := Tryd.prog) w 9998 24 5 32 Tryd.underlying24 Tryd.underlying5 (fun w => Tryd.sizeOf5 w) U U hU hU
  rw [beq_self_eq_true] at h
  exact h

set_option maxRecDepth 100000 in
set_option maxHeartbeats 1000000 in
theorem reads_walk (s : ByteArray) (hs : s.size ≤ maxLen) (w : World) (hG : Glob w) :
    Calls Tryd.prog 6 #[.string s] w fun e w' => e = .returned (.bool true) ∧ Below w.heap.size w w' := by
  have h2 := hG.lt2
  have HG := hide hG
  obtain ⟨U, E, hU⟩ : ∃ U E, Sha.unhex s.data.toList = (U, E) := ⟨_, _, rfl⟩
  have hUl : U.length = 32 := by have := Sha.unhex_len s.data.toList; rwa [hU] at this
  have HA := hide (unhex_any s hs U E hU)
  have HF := hide (refUnhex_any s hs U E hU)
  have hsm := same24 U hUl
  have hone := one_bytes U
  obtain ⟨vs, hvs⟩ : ∃ vs, U.map byteVal = vs := ⟨_, rfl⟩
  have hvl : vs.length = 32 := by rw [← hvs]; simp [hUl]
  rw [hvs] at HA HF hsm hone
  clear hG hU hUl hvs hs
  go_enter Tryd.func6, Tryd.ntmps6
  go_wp2_with (first
    | (go_at_call 15; refine (unhide HA _).mono ?_; rintro e w1 ⟨rfl, hb1⟩; have HB1 := hide hb1; clear hb1)
    | (refine store_row (by rfl) 24 (.tmp 3) (.tmp 10) (by rfl) w1.heap.size vs (by rfl) (by rfl) 24 (Sha.zeros.map byteVal) (VRow.newAt rfl) 32 size24 hvl rfl hone ?_; intro w2 ho2 hr2; have HB2 := hide (((unhide HB1).alloc (unhide HB1).size _).trans (ho2.below (unhide HB1).size)); have HR2 := hide hr2; clear ho2 hr2)
    | (go_at_call 16; refine (unhide HF _).mono ?_; rintro e w3 ⟨rfl, hb3⟩; have HB3 := hide hb3; clear hb3)
    | (refine store_row (by rfl) 24 (.tmp 5) (.tmp 15) (by rfl) w3.heap.size vs (by rfl) (by rfl) 24 (Sha.zeros.map byteVal) (VRow.newAt rfl) 32 size24 hvl rfl hone ?_; intro w4 ho4 hr4; have HO4 := hide ho4; have HR4 := hide hr4; have HS4 := hide ((((unhide HR2).below (unhide HB3) (unhide HR2).lt).alloc _).only ho4 (by have := (unhide HB3).size; have := (unhide HR2).lt; omega)); clear ho4 hr4)
    | (refine load_row (by rfl) 24 (.tmp 3) (by rfl) w1.heap.size (by rfl) 24 vs (unhide HS4) 32 32 5 Tryd.underlying24 size24 hvl ?_)
    | (refine load_row (by rfl) 24 (.tmp 5) (by rfl) w3.heap.size (by rfl) 24 vs (unhide HR4) 32 32 5 Tryd.underlying24 size24 hvl ?_))
  have hs3 := (unhide HB3).size
  have hs2 := (unhide HB2).size
  have HB4 := hide ((((unhide HB2).trans ((unhide HB3).mono (unhide HB2).size)).alloc (by omega) _).trans ((unhide HO4).below (by omega)))
  refine (wide_any w4 ((unhide HG).below (unhide HB4) h2)).mono ?_
  rintro e w5 ⟨rfl, hb5⟩
  have HB5 := hide ((unhide HB4).trans (hb5.mono (unhide HB4).size))
  clear hb5
  go_wp2_with fail
  go_ret
  exact ⟨rfl, unhide HB5⟩
end Go.Proofs.YtkdhpnijcgegbaaDoor
