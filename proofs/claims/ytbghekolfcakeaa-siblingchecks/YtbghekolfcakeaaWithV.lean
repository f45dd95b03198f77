/-
  What With answers, the program's: a vector with one more dot, in blocks that are new.
-/
import Derived.Test.YtbghekolfcakeaaRefJoin
import Derived.Test.YtbghekolfcakeaaHelp
namespace Go.Proofs.Ytbghekolfcakeaa
open Go.RowKit

set_option maxRecDepth 100000 in
set_option maxHeartbeats 400000 in
theorem with_fresh (a : Option Addr) (ca : Nat) (xs : List Vc.D) (hx : xs.length ≤ 9223372036854775807) (hca : xs.length ≤ ca) (p c : Int) (w : World) (sa : Sl w a xs) :
    Calls Try.prog 46 #[.slice a xs.length ca, .agg #[.int .i64 p, .int .i64 c]] w fun e w' => ∃ r cap, e = .returned (.slice r (Vc.joins xs [(p, c)]).length cap) ∧ (Vc.joins xs [(p, c)]).length ≤ cap ∧ Sl w' r (Vc.joins xs [(p, c)]) ∧ Below w.heap.size w w' ∧ Fresh w.heap.size r (Vc.joins xs [(p, c)]) := by
  have HB1 := hide ((Below.refl w.heap.size w).alloc (Nat.le_refl _) (.cells #[.int .i64 p, .int .i64 c] 24))
  have hb2 := (unhide HB1).alloc (unhide HB1).size (.cells #[.int .i64 p, .int .i64 c] 24)
  have HB2 := hide hb2
  have K := hide (join_fresh a (some ⟨w.heap.size + 1, 0, none⟩) ca 1 xs [(p, c)] hx (by simp) hca (by simp) _ (sa.after hb2) (by have h := one_sl1 (w.alloc (.cells #[.int .i64 p, .int .i64 c] 24)) p c; rw [World.size_alloc] at h; exact h))
  rw [show [(p, c)].length = 1 from rfl] at K
  obtain ⟨Z, hZ⟩ : ∃ Z, Vc.joins xs [(p, c)] = Z := ⟨_, rfl⟩
  rw [hZ] at K ⊢
  clear hZ sa hb2
  go_enter Try.func46, Try.ntmps46
  go_wp2_with fail
  refine (unhide K).mono ?_
  rintro e w4 ⟨r, cap, rfl, hcap, hsl, hb4, hfr⟩
  have HB4 := hide (below_grow (unhide HB2) (Nat.le_refl _) hb4)
  have HS4 := hide hsl
  have HC4 := hide hcap
  have HF4 := hide (fun ad e h0 => Nat.le_trans (show w.heap.size ≤ _ by simp; omega) (hfr ad e h0))
  clear hb4 hsl hcap hfr
  go_wp2_with fail
  go_ret
  exact ⟨r, cap, rfl, unhide HC4, unhide HS4, unhide HB4, unhide HF4⟩
end Go.Proofs.Ytbghekolfcakeaa
