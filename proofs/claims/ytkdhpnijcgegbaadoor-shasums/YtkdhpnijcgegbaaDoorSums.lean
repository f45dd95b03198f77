/-
  The walk of the statement on digests of texts.
-/
import Derived.Test.YtkdhpnijcgegbaaDoorAwake
import Derived.Test.YtkdhpnijcgegbaaDoorRefOf
import Derived.Stop.BytesEq
namespace Go.Proofs.YtkdhpnijcgegbaaDoor
open Go.RowKit

theorem alike24 (U : List UInt8) (hU : U.length = 32) (w : World) : (Op.equalIn 10000 24 (.agg (U.map byteVal).toArray) (.agg (U.map byteVal).toArray)).run Tryd.prog w = .ok true w := by
  have h := run_equalIn_bytes (P := Tryd.prog) w 9998 24 5 32 Tryd.underlying24 Tryd.underlying5 (fun w => Tryd.sizeOf5 w) U U hU hU
  rw [beq_self_eq_true] at h
  exact h

set_option maxRecDepth 100000 in
set_option maxHeartbeats 1000000 in
theorem sums_walk (t : ByteArray) (hs : t.size ≤ maxLen) (w : World) (hG : Glob w) (hK : RefKeys w) :
    Calls Tryd.prog 3 #[.string t] w fun e w' => e = .returned (.bool true) ∧ Below w.heap.size w w' := by
  have h2 := hG.lt2
  have HG := hide hG
  have HK := hide hK
  have HW := hide (wide_any w hG)
  unfold maxLen at hs
  by_cases hbig : 4000 < t.size
  · clear hG hK
    go_enter Tryd.func3, Tryd.ntmps3
    go_wp2_with fail
    refine (unhide HW).mono ?_
    rintro e w1 ⟨rfl, hb1⟩
    go_wp2_with fail
    go_ret
    exact ⟨rfl, hb1⟩
  · obtain ⟨D, hD⟩ : ∃ D, Sha.sha t.data.toList = D := ⟨_, rfl⟩
    have hDl : D.length = 32 := by rw [← hD]; exact Sha.sha_len _
    have HO := hide (fun W (hG : Glob W) => Of_any t (by omega) W hG)
    have HR := hide (fun W (hK : RefKeys W) => refOf_any t (by omega) D hD W hK)
    rw [hD] at HO
    have hsm := alike24 D hDl
    generalize (D.map byteVal) = vs at HO HR hsm
    clear hG hK hD hDl
    go_enter Tryd.func3, Tryd.ntmps3
    go_wp2_with fail
    refine (unhide HW).mono ?_
    rintro e w1 ⟨rfl, hb1⟩
    have HB1 := hide hb1
    clear hb1
    go_wp2_with fail
    refine (unhide HO w1 ((unhide HG).below (unhide HB1) h2)).mono ?_
    rintro e w2 ⟨rfl, hb2⟩
    have HB2 := hide ((unhide HB1).trans (hb2.mono (unhide HB1).size))
    clear hb2
    go_wp2_with fail
    refine (unhide HR w2 ((unhide HK).below (unhide HB2) (by omega))).mono ?_
    rintro e w3 ⟨rfl, hb3⟩
    have HB3 := hide ((unhide HB2).trans (hb3.mono (unhide HB2).size))
    clear hb3
    go_wp2_with fail
    go_ret
    exact ⟨rfl, unhide HB3⟩
end Go.Proofs.YtkdhpnijcgegbaaDoor
