/-
  How two versions stand to each other where leaves are synced: by their peers, then the greater count first.
-/
import Derived.Test.YtbghekolfcakeaaS8
import Derived.RegionTactic
import Derived.Deep.RegionHeld3
namespace Go.Proofs.Ytbghekolfcakeaa
open Go.Shelf Go.RowKit Go.Lib Go.Sort

def cmpI (x y : Int) : Int := if x < y then -1 else if y < x then 1 else 0
def orI (x y : Int) : Int := if x ≠ 0 then x else y

set_option maxRecDepth 100000 in
set_option maxHeartbeats 400000 in
theorem isNaN_any (x : Int) (w : World) : Calls Try.prog 74 #[.int .i64 x] w fun e w' => e = .returned (.bool false) ∧ w' = w := by
  go_enter Try.func74, Try.ntmps74
  go_wp2_with fail
  go_ret
  exact ⟨rfl, rfl⟩

set_option maxRecDepth 100000 in
set_option maxHeartbeats 400000 in
theorem compare_any (x y : Int) (w : World) : Calls Try.prog 58 #[.int .i64 x, .int .i64 y] w fun e w' => e = .returned (.int .i64 (cmpI x y)) ∧ w' = w := by
  obtain ⟨R, hR⟩ : ∃ R, cmpI x y = R := ⟨_, rfl⟩
  rw [hR]
  unfold cmpI at hR
  by_cases h1 : x < y
  · rw [if_pos h1] at hR
    subst hR
    go_enter Try.func58, Try.ntmps58
    go_wp2_with (go_at_call 74; refine (isNaN_any _ _).mono ?_; rintro e w' ⟨rfl, rfl⟩)
    go_ret
    exact ⟨rfl, rfl⟩
  · rw [if_neg h1] at hR
    by_cases h2 : y < x
    · rw [if_pos h2] at hR
      subst hR
      go_enter Try.func58, Try.ntmps58
      go_wp2_with (go_at_call 74; refine (isNaN_any _ _).mono ?_; rintro e w' ⟨rfl, rfl⟩)
      go_ret
      exact ⟨rfl, rfl⟩
    · rw [if_neg h2] at hR
      subst hR
      go_enter Try.func58, Try.ntmps58
      go_wp2_with (go_at_call 74; refine (isNaN_any _ _).mono ?_; rintro e w' ⟨rfl, rfl⟩)
      go_ret
      exact ⟨rfl, rfl⟩

set_option maxRecDepth 100000 in
set_option maxHeartbeats 600000 in
theorem or_any (x y : Int) (B : Nat) (w : World) (h0 : w.cell? ⟨B, 0, none⟩ = some (.int .i64 x)) (h1 : w.cell? ⟨B, 1, none⟩ = some (.int .i64 y)) :
    Calls Try.prog 57 #[.slice (some ⟨B, 0, none⟩) 2 2] w fun e w' => e = .returned (.int .i64 (orI x y)) ∧ w' = w := by
  obtain ⟨R, hR⟩ : ∃ R, orI x y = R := ⟨_, rfl⟩
  rw [hR]
  unfold orI at hR
  go_enter Try.func57, Try.ntmps57
  go_wp2_with fail
  go_loopw [8] (fun i wr => ∃ k : Nat, k ≤ 2 ∧ i = .int .i64 k ∧ (1 ≤ k → x = 0) ∧ (2 ≤ k → y = 0) ∧ wr = w) (fun i _ => 2 - (intOf i).toNat)
  case atStart => exact ⟨0, by omega, rfl, fun h => absurd h (by omega), fun h => absurd h (by omega), rfl⟩
  case round =>
    obtain ⟨k, hk, rfl, hx, hy, rfl⟩ := hrel
    have HX := hide hx
    have HY := hide hy
    have HR := hide hR
    clear hx hy hR
    rcases (show k = 0 ∨ k = 1 ∨ k = 2 by omega) with rfl | rfl | rfl
    · by_cases hx0 : x = 0
      · subst hx0
        go_wp2_with fail
        go_roundw
        case rel => exact ⟨1, by omega, by go_num, fun _ => by trivial, fun h => absurd h (by omega), by trivial⟩
        case measure => simp [intOf]
      · have hxb : (x != 0) = true := bne_iff_ne.2 hx0
        go_wp2_with fail
        go_ret
        exact ⟨ret_int (by rw [← unhide HR, if_pos hx0]), rfl⟩
    · have hx0 : x = 0 := unhide HX (by omega)
      by_cases hy0 : y = 0
      · go_wp2_with fail
        subst hy0
        go_wp2_with fail
        go_roundw
        case rel => exact ⟨2, by omega, by go_num, fun _ => hx0, fun _ => by trivial, by trivial⟩
        case measure => simp [intOf]
      · have hyb : (y != 0) = true := bne_iff_ne.2 hy0
        go_wp2_with fail
        go_ret
        exact ⟨ret_int (by rw [← unhide HR, hx0]; simp), rfl⟩
    · have hx0 : x = 0 := unhide HX (by omega)
      have hy0 : y = 0 := unhide HY (by omega)
      go_wp2_with fail
      go_ret
      exact ⟨ret_int (by rw [← unhide HR, hx0, hy0]; simp), rfl⟩

def cfV (v u : Vc.V) : Int := orI (cmpI v.dot.1 u.dot.1) (cmpI u.dot.2 v.dot.2)
theorem grown_of_below {w w' : World} (h : Below w.heap.size w w') (hd : w.drawn ≤ w'.drawn) : ∃ n os, w' = grow (w.drewN n) os := by
  refine ⟨w'.drawn - w.drawn, w'.heap.extract w.heap.size w'.heap.size, ?_⟩
  obtain ⟨heap, tape, drawn, os, output⟩ := w
  obtain ⟨heap', tape', drawn', os', output'⟩ := w'
  have h1 : os' = os := h.os
  have h2 : tape' = tape := h.tape
  have h3 : output' = output := h.output
  have h4 : heap.size ≤ heap'.size := h.size
  have h5 : ∀ k, k < heap.size → heap'[k]? = heap[k]? := h.block
  have h6 : drawn ≤ drawn' := hd
  subst h1 h2 h3
  have e1 : heap' = heap ++ heap'.extract heap.size heap'.size := by
    apply Array.ext_getElem?
    intro i
    by_cases hi : i < heap.size
    · rw [h5 i hi, Array.getElem?_append_left hi]
    · rw [Array.getElem?_append_right (by omega), Array.getElem?_extract]
      by_cases hi2 : i < heap'.size
      · rw [if_pos (by omega), show heap.size + (i - heap.size) = i by omega]
      · rw [if_neg (by omega), Array.getElem?_eq_none (by omega)]
  have e2 : drawn' = drawn + (drawn' - drawn) := by omega
  show World.mk heap' tape' drawn' os' output' = World.mk (heap ++ heap'.extract heap.size heap'.size) tape' (drawn + (drawn' - drawn)) os' output'
  rw [← e1, ← e2]

set_option maxRecDepth 100000 in
set_option maxHeartbeats 1000000 in
theorem cmp56_any (v u : Vc.V) (r q : Option Addr) (c d : Nat) (w : World) :
    Calls Try.prog 56 #[.agg (verL v r c).toArray, .agg (verL u q d).toArray] w fun e w' => e = .returned (.int .i64 (cfV v u)) ∧ ∃ n os, w' = grow (w.drewN n) os := by
  have RS := (VRow.new w 27 (verL v r c)).alloc (.cells (verL u q d).toArray 27)
  have RT := VRow.newAt (W := w.alloc (.cells (verL v r c).toArray 27)) (T := 27) (n := w.heap.size + 1) (vs := verL u q d) (by simp)
  have KO := hide fun B W h h' => or_any (cmpI v.dot.1 u.dot.1) (cmpI u.dot.2 v.dot.2) B W h h'
  have K1 := hide fun W => compare_any v.dot.1 u.dot.1 W
  have K2 := hide fun W => compare_any u.dot.2 v.dot.2 W
  have HB := hide ((below_alloc1 (w := w) (.cells (verL v r c).toArray 27)).alloc (by simp) (.cells (verL u q d).toArray 27))
  have HD : Hid (w.drawn ≤ ((w.alloc (.cells (verL v r c).toArray 27)).alloc (.cells (verL u q d).toArray 27)).drawn) := hide (Nat.le_refl _)
  have HRS := hide RS
  have HRT := hide RT
  unfold cfV
  generalize orI (cmpI v.dot.1 u.dot.1) (cmpI u.dot.2 v.dot.2) = R at KO ⊢
  generalize cmpI v.dot.1 u.dot.1 = X at *
  generalize cmpI u.dot.2 v.dot.2 = Y at *
  clear RS RT
  unfold verL at *
  go_enter Try.func56, Try.ntmps56
  go_wp2_with fail
  generalize (w.alloc (.cells #[.int .i64 v.dot.1, .int .i64 v.dot.2, .slice r v.past.length c, .bool v.dead, .string v.data] 27)).alloc (.cells #[.int .i64 u.dot.1, .int .i64 u.dot.2, .slice q u.past.length d, .bool u.dead, .string u.data] 27) = w2 at HB HD HRS HRT ⊢
  have SB : Hid (∀ w', Below w2.heap.size w2 w' → w2.drawn ≤ w'.drawn → w'.cell? ⟨w.heap.size, 0, none⟩ = some (.int .i64 v.dot.1) ∧ w'.cell? ⟨w.heap.size, 1, none⟩ = some (.int .i64 v.dot.2) ∧ w'.cell? ⟨w.heap.size + 1, 0, none⟩ = some (.int .i64 u.dot.1) ∧ w'.cell? ⟨w.heap.size + 1, 1, none⟩ = some (.int .i64 u.dot.2) ∧ Below w2.heap.size w2 w' ∧ w2.drawn ≤ w'.drawn) := hide (fun w' hb hd => ⟨((unhide HRS).after hb).cell 0 _ rfl, ((unhide HRS).after hb).cell 1 _ rfl, ((unhide HRT).after hb).cell 0 _ rfl, ((unhide HRT).after hb).cell 1 _ rfl, hb, hd⟩)
  have N0 : Hid ((w2.alloc (.cells #[.int .i64 X, .int .i64 Y] 3)).drew.cell? ⟨w2.heap.size, 0, none⟩ = some (.int .i64 X)) := hide (new0 w2 _ _ 3)
  have N1 : Hid ((w2.alloc (.cells #[.int .i64 X, .int .i64 Y] 3)).drew.cell? ⟨w2.heap.size, 1, none⟩ = some (.int .i64 Y)) := hide (new1 w2 _ _ 3)
  go_region_held3 (fun w' => w'.cell? ⟨w.heap.size, 0, none⟩ = some (.int .i64 v.dot.1) ∧ w'.cell? ⟨w.heap.size, 1, none⟩ = some (.int .i64 v.dot.2) ∧ w'.cell? ⟨w.heap.size + 1, 0, none⟩ = some (.int .i64 u.dot.1) ∧ w'.cell? ⟨w.heap.size + 1, 1, none⟩ = some (.int .i64 u.dot.2) ∧ Below w2.heap.size w2 w' ∧ w2.drawn ≤ w'.drawn)
    (first
      | assumption
      | exact unhide SB _ (below_drew (Below.refl _ _)) (Nat.le_succ _)
      | exact unhide SB _ (keep_alloc' (And.left (And.right (And.right (And.right (And.right (by assumption)))))) _) (And.right (And.right (And.right (And.right (And.right (by assumption))))))
      | skip)
    (first
      | (go_at_call_of 58 v.dot.1; refine (unhide K1 _).mono ?_; rintro e w' ⟨rfl, rfl⟩)
      | (go_at_call 58; refine (unhide K2 _).mono ?_; rintro e w' ⟨rfl, rfl⟩)
      | (go_at_call 57; refine (unhide KO _ _ (unhide N0) (unhide N1)).mono ?_; rintro e w' ⟨rfl, rfl⟩))
  all_goals rename_i hHeld
  all_goals have HBZ := hide hHeld.2.2.2.2.1
  all_goals have HDZ := hide hHeld.2.2.2.2.2
  all_goals clear hHeld
  all_goals go_wp2_with fail
  all_goals go_ret
  all_goals exact ⟨rfl, grown_of_below (below_grow (unhide HB) (Nat.le_refl _) (unhide HBZ)) (Nat.le_trans (unhide HD) (unhide HDZ))⟩

set_option maxRecDepth 100000 in
set_option maxHeartbeats 400000 in
theorem eq60_any (v u : Vc.V) (r q : Option Addr) (c d : Nat) (w : World) :
    Calls Try.prog 60 #[.agg (verL v r c).toArray, .agg (verL u q d).toArray] w fun e w' => e = .returned (.bool (v.dot.1 == u.dot.1)) ∧ ∃ n os, w' = grow (w.drewN n) os := by
  have RS := (VRow.new w 27 (verL v r c)).alloc (.cells (verL u q d).toArray 27)
  have RT := VRow.newAt (W := w.alloc (.cells (verL v r c).toArray 27)) (T := 27) (n := w.heap.size + 1) (vs := verL u q d) (by simp)
  have a0 := RS.cell 0 _ rfl
  have b0 := RT.cell 0 _ rfl
  have HG : Hid ((w.alloc (.cells (verL v r c).toArray 27)).alloc (.cells (verL u q d).toArray 27) = grow (w.drewN 0) #[.cells (verL v r c).toArray 27, .cells (verL u q d).toArray 27]) := hide (by rw [alloc_eq_grow, alloc_eq_grow, grow_grow]; rfl)
  clear RS RT
  unfold verL at *
  go_enter Try.func60, Try.ntmps60
  go_wp2_with fail
  go_ret
  exact ⟨rfl, 0, _, unhide HG⟩

/-- The order that leaves are synced by. -/
def cfT (x y : TP) : Int := cfV x.2.1 y.2.1
def ltT (x y : TP) : Prop := x.2.1.dot.1 < y.2.1.dot.1 ∨ (x.2.1.dot.1 = y.2.1.dot.1 ∧ (y.2.1.dot.2 < x.2.1.dot.2 ∨ (x.2.1.dot.2 = y.2.1.dot.2 ∧ x.1 < y.1)))
theorem cfT_neg (x y : TP) : cfT x y < 0 ↔ x.2.1.dot.1 < y.2.1.dot.1 ∨ (x.2.1.dot.1 = y.2.1.dot.1 ∧ y.2.1.dot.2 < x.2.1.dot.2) := by
  unfold cfT cfV orI cmpI
  by_cases h1 : x.2.1.dot.1 < y.2.1.dot.1
  · simp [h1]
  · by_cases h2 : y.2.1.dot.1 < x.2.1.dot.1
    · simp [h1, h2]; omega
    · by_cases h3 : y.2.1.dot.2 < x.2.1.dot.2
      · simp [h1, h2, h3]; omega
      · by_cases h4 : x.2.1.dot.2 < y.2.1.dot.2
        · simp [h1, h2, h3, h4]
        · simp [h1, h2, h3, h4]
theorem ordT : Ord cfT ltT where
  trans := fun h1 h2 => by unfold ltT at *; omega
  less := fun h => by rw [cfT_neg] at h; unfold ltT; omega
  more := fun h ht => by rw [cfT_neg] at h; unfold ltT; omega
theorem cmpLays (g sz : Nat) (w0 : World) : CmpLays Try.prog 56 #[] encT 5 cfT g 0 sz w0 := fun m os dk _ x y => by
  have := cmp56_any x.2.1 y.2.1 x.2.2.1 y.2.2.1 x.2.2.2 y.2.2.2 (sortWorldK encT 5 w0 g 0 m dk os)
  exact this
end Go.Proofs.Ytbghekolfcakeaa
