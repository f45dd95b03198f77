/-
  The walk of the statement on what a list has.
-/
import Derived.Test.YthjbkghpfbdbcaaLeast
import Derived.Test.YthjbkghpfbdbcaaHas
import Derived.Deep.RegionHeld3
namespace Go.Proofs.Ythjbkghpfbdbcaa
open Go.RowKit

set_option maxRecDepth 100000 in
set_option maxHeartbeats 4000000 in
theorem check_walk (a : Option Addr) (ca : Nat) (xs : List Vc.D) (p c : Int) (w : World) (sa : Sl w a xs) :
    Calls Try.prog 3 #[.slice a xs.length ca, .agg #[.int .i64 p, .int .i64 c]] w fun e w' => e = .returned (.bool true) ∧ Below w.heap.size w w' := by
  have HB1 := hide (below_alloc (w := w) (.cells #[.int .i64 p, .int .i64 c] 24))
  have KM := hide (many1 (w.alloc (.cells #[.int .i64 p, .int .i64 c] 24)) a xs.length ca)
  rw [World.size_alloc] at KM
  have HB := hide ((unhide HB1).alloc (unhide HB1).size (.cells #[.slice a xs.length ca] 22))
  have n0 := (below_alloc (w := w.alloc (.cells #[.int .i64 p, .int .i64 c] 24)) (.cells #[.slice a xs.length ca] 22)).cell (p := ⟨w.heap.size, 0, none⟩) (lt_new _ _) |>.trans (new0 w (.int .i64 p) (.int .i64 c) 24)
  have n1 := (below_alloc (w := w.alloc (.cells #[.int .i64 p, .int .i64 c] 24)) (.cells #[.slice a xs.length ca] 22)).cell (p := ⟨w.heap.size, 1, none⟩) (lt_new _ _) |>.trans (new1 w (.int .i64 p) (.int .i64 c) 24)
  have SA := hide (sa.after (unhide HB))
  have hlt : w.heap.size < ((w.alloc (.cells #[.int .i64 p, .int .i64 c] 24)).alloc (.cells #[.slice a xs.length ca] 22)).heap.size := by simp; omega
  clear sa
  by_cases h8 : 80 < xs.length
  · rw [decide_eq_true h8] at KM
    clear h8
    go_enter Try.func3, Try.ntmps3
    go_wp2_with fail
    refine (unhide KM).mono ?_
    rintro e w0 ⟨rfl, hw⟩
    subst hw
    go_wp2_with fail
    refine (awake_any _).mono ?_
    rintro e w9 ⟨rfl, hb⟩
    replace HB := hide (below_grow (unhide HB) (Nat.le_refl _) hb)
    clear hb
    go_wp2_with fail
    go_ret
    exact ⟨rfl, unhide HB⟩
  · rw [decide_eq_false h8] at KM
    have hx : xs.length ≤ 100000 := by omega
    clear h8
    go_enter Try.func3, Try.ntmps3
    go_wp2_with fail
    refine (unhide KM).mono ?_
    rintro e w0 ⟨rfl, hw⟩
    subst hw
    go_wp2_with fail
    generalize (w.alloc (.cells #[.int .i64 p, .int .i64 c] 24)).alloc (.cells #[.slice a xs.length ca] 22) = W0 at HB SA n0 n1 hlt ⊢
    have K1 := hide fun W (h : Sl W a xs) => check_any a ca xs hx W h
    have K2 := hide fun W (h : Sl W a xs) => refCheck_any a ca xs hx W h
    have K3 := hide fun W (h : Sl W a xs) => get_any a ca xs hx p W h
    have K4 := hide fun W (h : Sl W a xs) => refGet_any a ca xs hx p W h
    have K5 := hide fun W (h : Sl W a xs) => has_any a ca xs hx p c W h
    have K6 := hide fun W (h : Sl W a xs) => refHas_any a ca xs hx p c W h
    have K7 := hide fun W (h : Sl W a xs) => size_any a ca xs hx W h
    have K8 := hide fun W (h : Sl W a xs) => refSize_any a ca xs hx W h
    generalize Vc.check xs = C at K1 K2
    generalize Vc.get xs p = G at K3 K4
    generalize has xs (p, c) = H at K5 K6
    generalize Vc.size xs = Z at K7 K8
    clear hx
    have c0 := cell_regrown n0
    have c1 := cell_regrown n1
    refine wp_region_quiet_below (by kernel_rfl) (by kernel_rfl) ?_
    repeat (quiet_step (first
      | (go_at_call 11; exact Calls.regrown_of (unhide K1 _ ((unhide SA).after (below_regrown _ _ _))))
      | (go_at_call 12; exact Calls.regrown_of (unhide K2 _ ((unhide SA).after (below_regrown _ _ _))))
      | (go_at_call 13; exact Calls.regrown_of (unhide K3 _ ((unhide SA).after (below_regrown _ _ _))))
      | (go_at_call 14; exact Calls.regrown_of (unhide K4 _ ((unhide SA).after (below_regrown _ _ _))))
      | (go_at_call 15; exact Calls.regrown_of (unhide K5 _ ((unhide SA).after (below_regrown _ _ _))))
      | (go_at_call 16; exact Calls.regrown_of (unhide K6 _ ((unhide SA).after (below_regrown _ _ _))))
      | (go_at_call 17; exact Calls.regrown_of (unhide K7 _ ((unhide SA).after (below_regrown _ _ _))))
      | (go_at_call 18; exact Calls.regrown_of (unhide K8 _ ((unhide SA).after (below_regrown _ _ _))))
      | (go_at_call 10; exact Calls.regrown_of (awake_any _))))
    refine wpQuiet_nil ?_
    intro _ hw'
    obtain ⟨⟨dq, osq⟩, hw''⟩ := hw'
    subst hw''
    go_wp2_with fail
    go_ret
    exact ⟨rfl, (unhide HB).trans ((below_regrown W0 dq osq).mono (unhide HB).size)⟩
end Go.Proofs.Ythjbkghpfbdbcaa
