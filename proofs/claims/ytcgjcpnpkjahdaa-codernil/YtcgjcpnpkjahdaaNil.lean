/-
  The walk of the law that says what none answers.
-/
import Derived.Test.YtcgjcpnpkjahdaaWrites
import Derived.Stop.BytesEq
namespace Go.Proofs.Ytcgjcpnpkjahdaa
open Go.RowKit

theorem same33 (U : List UInt8) (hU : U.length = 32) (w : World) : (Op.equalIn 10000 34 (.agg (U.map byteVal).toArray) (.agg (U.map byteVal).toArray)).run Try.prog w = .ok true w := by
  have h := run_equalIn_bytes (P := Try.prog) w 9998 34 5 32 Try.underlying34 Try.underlying5 (fun w => Try.sizeOf5 w) U U hU hU
  rw [beq_self_eq_true] at h
  exact h

set_option maxRecDepth 100000 in
set_option maxHeartbeats 2000000 in
theorem nil_any {Wr Rd} (P : Prg Wr Rd) (x : Pc) (hx : Pok x) (w : World) :
    Calls Try.prog 6 #[.agg (pcL x).toArray] w fun e w' => e = .returned (.bool true) ∧ Below w.heap.size w w' := by
  have PP := hide P
  have HN := hide hx.2.1
  have HXL := hide (pcL_len hx)
  have HR := hide (VRow.new w 36 (pcL x))
  have HB := hide (below_alloc' (w := w) (.cells (pcL x).toArray 36))
  have KP := hide (put_nil P x hx (w.alloc (.cells (pcL x).toArray 36)))
  have KD := hide P.nrDigest
  have hsm : ∀ w, (Op.equalIn 10000 34 (.agg (zero32.map byteVal).toArray) (.agg #[.int .u8 0, .int .u8 0, .int .u8 0, .int .u8 0, .int .u8 0, .int .u8 0, .int .u8 0, .int .u8 0, .int .u8 0, .int .u8 0, .int .u8 0, .int .u8 0, .int .u8 0, .int .u8 0, .int .u8 0, .int .u8 0, .int .u8 0, .int .u8 0, .int .u8 0, .int .u8 0, .int .u8 0, .int .u8 0, .int .u8 0, .int .u8 0, .int .u8 0, .int .u8 0, .int .u8 0, .int .u8 0, .int .u8 0, .int .u8 0, .int .u8 0, .int .u8 0])).run Try.prog w = .ok true w := same33 zero32 rfl
  generalize (zero32.map byteVal).toArray = Z at KD hsm
  clear P hx
  go_enter Try.func6, Try.ntmps6
  go_wp2_with (refine wpList_load_mid (by rfl) 36 (.tmp 1) (by rfl) w.heap.size 0 (by rfl) (pcL x) _ (unhide HR).range Try.underlying36 rfl (by rw [size35, unhide HXL]) ?_)
  refine (unhide KP).mono ?_
  rintro e w1 ⟨rfl, hb⟩
  replace HB := hide (below_grow (unhide HB) (Nat.le_refl _) hb)
  replace HR := hide ((unhide HR).after hb)
  clear hb
  go_wp2_with fail
  refine ((unhide PP).nrFail 9 _ ⟨by omega, by omega⟩).mono ?_
  rintro e w2 ⟨rfl, hb⟩
  replace HB := hide (below_grow (unhide HB) (Nat.le_refl _) hb)
  replace HR := hide ((unhide HR).after hb)
  clear hb
  go_wp2_with fail
  refine ((unhide PP).nwDone _).mono ?_
  rintro e w3 ⟨rfl, hb⟩
  replace HB := hide (below_grow (unhide HB) (Nat.le_refl _) hb)
  replace HR := hide ((unhide HR).after hb)
  have c2 := (unhide HR).cell 1 _ rfl
  clear hb
  go_wp2_with fail
  refine ((unhide PP).nrNumber x.n _ (unhide HN)).mono ?_
  rintro e w4 ⟨rfl, hb⟩
  replace HB := hide (below_grow (unhide HB) (Nat.le_refl _) hb)
  replace HR := hide ((unhide HR).after hb)
  have c3 := (unhide HR).cell 1 _ rfl
  clear hb c2
  go_wp2_with fail
  refine ((unhide PP).nrText x.n _ (unhide HN)).mono ?_
  rintro e w5 ⟨rfl, hb⟩
  replace HB := hide (below_grow (unhide HB) (Nat.le_refl _) hb)
  replace HR := hide ((unhide HR).after hb)
  clear hb c3
  go_wp2_with fail
  refine ((unhide PP).nrFlag _).mono ?_
  rintro e w6 ⟨rfl, hb⟩
  replace HB := hide (below_grow (unhide HB) (Nat.le_refl _) hb)
  replace HR := hide ((unhide HR).after hb)
  clear hb
  go_wp2_with fail
  refine (unhide KD _).mono ?_
  rintro e w7 ⟨rfl, hb⟩
  replace HB := hide (below_grow (unhide HB) (Nat.le_refl _) hb)
  replace HR := hide ((unhide HR).after hb)
  clear hb
  go_wp2_with fail
  refine ((unhide PP).nrErr _).mono ?_
  rintro e w8 ⟨rfl, hb⟩
  replace HB := hide (below_grow (unhide HB) (Nat.le_refl _) hb)
  replace HR := hide ((unhide HR).after hb)
  clear hb
  go_wp2_with fail
  refine ((unhide PP).nrLeft _).mono ?_
  rintro e w9 ⟨rfl, hb⟩
  replace HB := hide (below_grow (unhide HB) (Nat.le_refl _) hb)
  replace HR := hide ((unhide HR).after hb)
  clear hb
  go_wp2_with fail
  refine ((unhide PP).nrDone _).mono ?_
  rintro e w10 ⟨rfl, hb⟩
  replace HB := hide (below_grow (unhide HB) (Nat.le_refl _) hb)
  replace HR := hide ((unhide HR).after hb)
  clear hb
  go_wp2_with fail
  refine (awake_any (unhide PP) _).mono ?_
  rintro e w11 ⟨rfl, hb⟩
  replace HB := hide (below_grow (unhide HB) (Nat.le_refl _) hb)
  replace HR := hide ((unhide HR).after hb)
  clear hb
  go_wp2_with fail
  go_ret
  exact ⟨rfl, unhide HB⟩
end Go.Proofs.Ytcgjcpnpkjahdaa
