/-
  What none answers: the law's walk.
-/
import Derived.Test.YtbgpdiinkkgieaaAwake
namespace Go.Proofs.Ytbgpdiinkkgieaa
open Go.RowKit

set_option maxRecDepth 100000 in
set_option maxHeartbeats 2000000 in
theorem nilLaw_any {M} (P : Prg M) (peer : Int) (a : Option Addr) (n cap : Nat) (w : World) : Calls Try.prog 4 #[.int .i64 peer, .slice a n cap] w fun e w' => e = .returned (.bool true) ∧ Below w.heap.size w w' := by
  have PP := hide P
  clear P
  go_enter Try.func4, Try.ntmps4
  go_wp2_with fail
  refine ((unhide PP).nPeers _).mono ?_
  rintro e w1 ⟨rfl, hb⟩
  have HB := hide hb
  clear hb
  go_wp2_with fail
  refine ((unhide PP).nRow _ _).mono ?_
  rintro e w2 ⟨r2, c2, rfl, _, _, hb⟩
  replace HB := hide (below_grow (unhide HB) (Nat.le_refl _) hb)
  clear hb
  go_wp2_with fail
  refine ((unhide PP).nRows _).mono ?_
  rintro e w3 ⟨r3, c3, rfl, hb⟩
  replace HB := hide (below_grow (unhide HB) (Nat.le_refl _) hb)
  clear hb
  go_wp2_with fail
  refine ((unhide PP).nLearn _ _ _ _ _).mono ?_
  rintro e w4 ⟨rfl, hb⟩
  replace HB := hide (below_grow (unhide HB) (Nat.le_refl _) hb)
  clear hb
  go_wp2_with fail
  refine ((unhide PP).nMerge _ _ _ _).mono ?_
  rintro e w5 ⟨rfl, hb⟩
  replace HB := hide (below_grow (unhide HB) (Nat.le_refl _) (below_grow (below_alloc' _) (Nat.le_refl _) hb))
  clear hb
  go_wp2_with fail
  refine ((unhide PP).nStable _).mono ?_
  rintro e w6 ⟨r6, c6, rfl, _, _, hb⟩
  replace HB := hide (below_grow (unhide HB) (Nat.le_refl _) hb)
  clear hb
  go_wp2_with fail
  refine ((unhide PP).nSteady _ _ _).mono ?_
  rintro e w7 ⟨rfl, hb⟩
  replace HB := hide (below_grow (unhide HB) (Nat.le_refl _) hb)
  clear hb
  go_wp2_with fail
  refine (awake_any (unhide PP) _).mono ?_
  rintro e w8 ⟨rfl, hb⟩
  replace HB := hide (below_grow (unhide HB) (Nat.le_refl _) hb)
  clear hb
  go_wp2_with fail
  go_ret
  exact ⟨rfl, unhide HB⟩
end Go.Proofs.Ytbgpdiinkkgieaa
