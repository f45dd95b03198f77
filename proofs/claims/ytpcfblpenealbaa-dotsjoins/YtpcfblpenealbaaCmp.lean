/-
  How two dots stand to one another: the program's compare (by package cmp), the document's Ahead.
-/
import Derived.Test.YtpcfblpenealbaaRow
import Derived.Test.YtpcfblpenealbaaTaken
import Derived.Lib.QuietBelow
import Derived.Deep.RegionHeld3
import Derived.StillTailTactics
namespace Go.Proofs.Ytpcfblpenealbaa
open Go.RowKit

def cmpI (a b : Int) : Int := if a < b then -1 else if b < a then 1 else 0
def cmpD (a b : Vc.D) : Int := if cmpI a.1 b.1 ≠ 0 then cmpI a.1 b.1 else cmpI a.2 b.2
theorem cmpD_lt (a b : Vc.D) : cmpD a b < 0 ↔ Vc.Ah a b := by
  unfold cmpD cmpI Vc.Ah
  repeat' split
  all_goals omega
theorem cmpD_eq (a b : Vc.D) : cmpD a b = 0 ↔ a = b := by
  constructor
  · intro h
    unfold cmpD cmpI at h
    apply Prod.ext
    all_goals
      revert h
      repeat' split
      all_goals omega
  · rintro rfl
    unfold cmpD cmpI
    simp

set_option maxRecDepth 100000 in
set_option maxHeartbeats 400000 in
theorem isNaN_any (a : Int) (w : World) : Calls Try.prog 57 #[.int .i64 a] w fun e w' => e = .returned (.bool false) ∧ w' = w := by
  go_enter Try.func57, Try.ntmps57
  go_wp2
  go_ret
  exact ⟨by first | rfl | simp, rfl⟩

set_option maxRecDepth 100000 in
set_option maxHeartbeats 400000 in
theorem cmpI_any (a b : Int) (w : World) : Calls Try.prog 50 #[.int .i64 a, .int .i64 b] w fun e w' => e = .returned (.int .i64 (cmpI a b)) ∧ w' = w := by
  unfold cmpI
  go_enter Try.func50, Try.ntmps50
  go_wp2_with (go_at_call 57; refine (isNaN_any _ _).mono ?_; rintro e w1 ⟨rfl, rfl⟩)
  all_goals go_ret
  all_goals refine ⟨ret_int ?_, rfl⟩
  all_goals (first | omega | (split <;> omega) | (repeat' split) <;> omega)

set_option maxRecDepth 100000 in
set_option maxHeartbeats 400000 in
theorem or_any (g : Nat) (x y : Int) (w : World) (h0 : w.cell? ⟨g, 0, none⟩ = some (.int .i64 x)) (h1 : w.cell? ⟨g, 1, none⟩ = some (.int .i64 y)) :
    Calls Try.prog 49 #[.slice (some ⟨g, 0, none⟩) 2 2] w fun e w' => e = .returned (.int .i64 (if x ≠ 0 then x else y)) ∧ w' = w := by
  go_enter Try.func49, Try.ntmps49
  go_wp2_with fail
  go_loopw [8] (fun i wr => ∃ k : Nat, k ≤ 2 ∧ i = .int .i64 k ∧ (1 ≤ k → x = 0) ∧ (2 ≤ k → y = 0) ∧ wr = w) (fun i _ => 2 - (intOf i).toNat)
  case atStart => exact ⟨0, by omega, rfl, by omega, by omega, rfl⟩
  case round =>
    obtain ⟨k, hk, rfl, hx, hy, rfl⟩ := hrel
    rcases (show k = 0 ∨ k = 1 ∨ k = 2 by omega) with rfl | rfl | rfl
    · by_cases hz : x = 0
      · subst hz
        go_wp2_with fail
        go_roundw
        case rel => exact ⟨1, by simp, by go_num, by simp, by simp, by simp⟩
        case measure => simp [intOf]
      · have hb : (x != 0) = true := bne_iff_ne.2 hz
        go_wp2_with fail
        go_ret
        exact ⟨ret_int (by first | rfl | simp [hz]), rfl⟩
    · have hx0 := hx (by omega)
      subst hx0
      by_cases hz : y = 0
      · subst hz
        go_wp2_with fail
        go_roundw
        case rel => exact ⟨2, by simp, by go_num, by simp, by simp, by simp⟩
        case measure => simp [intOf]
      · have hb : (y != 0) = true := bne_iff_ne.2 hz
        go_wp2_with fail
        go_ret
        exact ⟨ret_int (by first | rfl | simp), rfl⟩
    · have hx0 := hx (by omega)
      have hy0 := hy (by omega)
      subst hx0 hy0
      go_wp2_with fail
      go_ret
      exact ⟨ret_int (by first | rfl | simp), rfl⟩

theorem below_drew' {B : Nat} {a w : World} (h : Below B a w) : Below B a w.drew := ⟨h.os, h.tape, h.output, h.size, h.block⟩
theorem cell_drew {W : World} {p : Addr} {v : Value} (h : W.cell? p = some v) : W.drew.cell? p = some v := h

set_option maxRecDepth 100000 in
set_option maxHeartbeats 400000 in
theorem cmpD_any (p c p' c' : Int) (w : World) :
    Calls Try.prog 30 #[.agg #[.int .i64 p, .int .i64 c], .agg #[.int .i64 p', .int .i64 c']] w fun e w' => e = .returned (.int .i64 (cmpD (p, c) (p', c'))) ∧ Below w.heap.size w w' := by
  unfold cmpD
  dsimp only
  have HB0 := hide (((Below.refl w.heap.size w).alloc (Nat.le_refl _) (.cells #[.int .i64 p, .int .i64 c] 26)).alloc (by simp) (.cells #[.int .i64 p', .int .i64 c'] 26))
  have r0 := ((VRow.new w 26 [.int .i64 p, .int .i64 c]).alloc (.cells #[.int .i64 p', .int .i64 c'] 26))
  have r1 := VRow.newAt (W := w.alloc (.cells #[.int .i64 p, .int .i64 c] 26)) (T := 26) (n := w.heap.size + 1) (vs := [.int .i64 p', .int .i64 c']) (by simp)
  have c0 := r0.cell 0 _ rfl
  have c1 := r0.cell 1 _ rfl
  have c2 := r1.cell 0 _ rfl
  have c3 := r1.cell 1 _ rfl
  clear r0 r1
  have K1 := hide (cmpI_any p p')
  have K2 := hide (cmpI_any c c')
  generalize cmpI p p' = x at *
  generalize cmpI c c' = y at *
  have K3 := hide fun g w h0 h1 => or_any g x y w h0 h1
  generalize (if x ≠ 0 then x else y) = R at *
  go_enter Try.func30, Try.ntmps30
  go_wp2_with fail
  generalize (w.alloc (.cells #[.int .i64 p, .int .i64 c] 26)).alloc (.cells #[.int .i64 p', .int .i64 c'] 26) = w0 at HB0 c0 c1 c2 c3 ⊢
  refine wp_region_still_tail 10 (by kernel_rfl) (by kernel_rfl) ?_
  simp only [List.take_succ_cons, List.take_zero, List.drop_succ_cons, List.drop_zero]
  iterate 4 still_step
  still_call (unhide K1 _)
  iterate 4 still_step
  still_call (unhide K2 _)
  refine wpStill_nil ?_
  go_wp2_with fail
  have n0 := VRow.newAt (W := { w0 with drawn := w0.drawn + 1 }) (T := 3) (n := w0.heap.size) (vs := [.int .i64 x, .int .i64 y]) rfl
  refine (unhide K3 _ _ (n0.cell 0 _ rfl) (n0.cell 1 _ rfl)).mono ?_
  rintro e w1 ⟨rfl, rfl⟩
  go_wp2_with fail
  go_ret
  exact ⟨rfl, Below.alloc (below_drew' (unhide HB0)) (unhide HB0).size _⟩
end Go.Proofs.Ytpcfblpenealbaa
