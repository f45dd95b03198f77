/-
  What Has answers, the program's and the document's.
-/
import Derived.Test.YtklkacmeopfmhaaGreatGet
import Derived.Lib.QuietBelow
namespace Go.Proofs.YtklkacmeopfmhaaGreat
open Go.RowKit

def has (ds : List Vc.D) (d : Vc.D) : Bool := decide (1 ≤ d.2) && decide (d.2 ≤ Vc.get ds d.1)

set_option maxRecDepth 100000 in
set_option maxHeartbeats 1000000 in
theorem has_any (a : Option Addr) (cap : Nat) (ds : List Vc.D) (hl : ds.length ≤ 9223372036854775807) (p c : Int) (w : World) (h : Sl w a ds) :
    Calls Tryz.prog 81 #[.slice a ds.length cap, .agg #[.int .i64 p, .int .i64 c]] w fun e w' => e = .returned (.bool (has ds (p, c))) ∧ Below w.heap.size w w' := by
  have HB1 := hide ((Below.refl w.heap.size w).alloc (Nat.le_refl _) (.cells #[.int .i64 p, .int .i64 c] 52))
  have HS1 := hide (h.after (unhide HB1))
  have n0 := new0 w (.int .i64 p) (.int .i64 c) 52
  have n1 := new1 w (.int .i64 p) (.int .i64 c) 52
  have KG := hide fun w' (h' : Sl w' a ds) => get_any a cap ds hl p w' h'
  obtain ⟨R, hR⟩ : ∃ R, has ds (p, c) = R := ⟨_, rfl⟩
  rw [hR]
  unfold has at hR
  dsimp only at hR
  have hbd := Vc.get_bd ds p
  generalize Vc.get ds p = G at hR KG hbd
  clear h
  go_enter Tryz.func81, Tryz.ntmps81
  go_wp2_with fail
  generalize w.alloc (.cells #[.int .i64 p, .int .i64 c] 52) = w1 at HB1 HS1 n0 n1 ⊢
  have c0 := cell_regrown n0
  have c1 := cell_regrown n1
  by_cases hc : 1 ≤ c
  · have hd : decide (1 ≤ c) = true := decide_eq_true hc
    rw [hd, Bool.true_and] at hR
    refine wp_region_quiet_below (by kernel_rfl) (by kernel_rfl) ?_
    repeat (quiet_step (first | (go_at_call 96; exact Calls.regrown_of (unhide KG _ ((unhide HS1).after (below_regrown _ _ _))))))
    refine wpQuiet_nil ?_
    intro _ hw'
    obtain ⟨⟨dq, osq⟩, hw''⟩ := hw'
    subst hw''
    go_wp2_with fail
    go_ret
    exact ⟨by first | rfl | exact ret_bool hR, (unhide HB1).trans ((below_regrown w1 dq osq).mono (unhide HB1).size)⟩
  · have hd : decide (1 ≤ c) = false := decide_eq_false hc
    rw [hd, Bool.false_and] at hR
    subst hR
    refine wp_region_quiet_below (by kernel_rfl) (by kernel_rfl) ?_
    repeat (quiet_step (fail))
    refine wpQuiet_nil ?_
    intro _ hw'
    obtain ⟨⟨dq, osq⟩, hw''⟩ := hw'
    subst hw''
    go_wp2_with fail
    go_ret
    exact ⟨by first | rfl | exact ret_bool hR, (unhide HB1).trans ((below_regrown w1 dq osq).mono (unhide HB1).size)⟩

set_option maxRecDepth 100000 in
set_option maxHeartbeats 1000000 in
theorem refHas_any (a : Option Addr) (cap : Nat) (ds : List Vc.D) (hl : ds.length ≤ 9223372036854775807) (p c : Int) (w : World) (h : Sl w a ds) :
    Calls Tryz.prog 86 #[.slice a ds.length cap, .agg #[.int .i64 p, .int .i64 c]] w fun e w' => e = .returned (.bool (has ds (p, c))) ∧ Below w.heap.size w w' := by
  have HB1 := hide ((Below.refl w.heap.size w).alloc (Nat.le_refl _) (.cells #[.int .i64 p, .int .i64 c] 52))
  have HS1 := hide (h.after (unhide HB1))
  have n0 := new0 w (.int .i64 p) (.int .i64 c) 52
  have n1 := new1 w (.int .i64 p) (.int .i64 c) 52
  have KG := hide fun w' (h' : Sl w' a ds) => refGet_any a cap ds hl p w' h'
  obtain ⟨R, hR⟩ : ∃ R, has ds (p, c) = R := ⟨_, rfl⟩
  rw [hR]
  unfold has at hR
  dsimp only at hR
  have hbd := Vc.get_bd ds p
  generalize Vc.get ds p = G at hR KG hbd
  clear h
  go_enter Tryz.func86, Tryz.ntmps86
  go_wp2_with fail
  generalize w.alloc (.cells #[.int .i64 p, .int .i64 c] 52) = w1 at HB1 HS1 n0 n1 ⊢
  have c0 := cell_regrown n0
  have c1 := cell_regrown n1
  by_cases hc : 1 ≤ c
  · have hd : decide (1 ≤ c) = true := decide_eq_true hc
    rw [hd, Bool.true_and] at hR
    refine wp_region_quiet_below (by kernel_rfl) (by kernel_rfl) ?_
    repeat (quiet_step (first | (go_at_call 98; exact Calls.regrown_of (unhide KG _ ((unhide HS1).after (below_regrown _ _ _))))))
    refine wpQuiet_nil ?_
    intro _ hw'
    obtain ⟨⟨dq, osq⟩, hw''⟩ := hw'
    subst hw''
    go_wp2_with fail
    go_ret
    exact ⟨by first | rfl | exact ret_bool hR, (unhide HB1).trans ((below_regrown w1 dq osq).mono (unhide HB1).size)⟩
  · have hd : decide (1 ≤ c) = false := decide_eq_false hc
    rw [hd, Bool.false_and] at hR
    subst hR
    refine wp_region_quiet_below (by kernel_rfl) (by kernel_rfl) ?_
    repeat (quiet_step (fail))
    refine wpQuiet_nil ?_
    intro _ hw'
    obtain ⟨⟨dq, osq⟩, hw''⟩ := hw'
    subst hw''
    go_wp2_with fail
    go_ret
    exact ⟨by first | rfl | exact ret_bool hR, (unhide HB1).trans ((below_regrown w1 dq osq).mono (unhide HB1).size)⟩
end Go.Proofs.YtklkacmeopfmhaaGreat
