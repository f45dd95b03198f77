/-
  The walks of the statements on how two lists stand, and on what is least.
-/
import Derived.Test.YthjbkghpfbdbcaaAwake
import Derived.Test.YthjbkghpfbdbcaaRefWithin
import Derived.Test.YthjbkghpfbdbcaaSize
namespace Go.Proofs.Ythjbkghpfbdbcaa
open Go.RowKit

theorem below_alloc {w : World} (o : Obj) : Below w.heap.size w (w.alloc o) := (Below.refl _ _).alloc (Nat.le_refl _) o

/-- many, of one, two and three lists that were just laid side by side. -/
theorem many1 (w : World) (a : Option Addr) (n c : Nat) :
    Calls Try.prog 9 #[.slice (some ⟨w.heap.size, 0, none⟩) 1 1] (w.alloc (.cells #[.slice a n c] 22)) fun e w' => e = .returned (.bool (decide (80 < n))) ∧ w' = w.alloc (.cells #[.slice a n c] 22) := by
  have hr := VRow.new w 22 [.slice a n c]
  refine many_any w.heap.size 1 (by decide) (fun _ => a) (fun _ => n) (fun _ => c) _ (fun j hj => ?_) _ ?_
  · obtain rfl : j = 0 := by omega
    exact hr.cell 0 _ rfl
  · rw [decide_eq_true_eq]
    exact ⟨fun h => ⟨0, by decide, h⟩, fun ⟨_, _, h⟩ => h⟩
theorem many2 (w : World) (a b : Option Addr) (n c m d : Nat) :
    Calls Try.prog 9 #[.slice (some ⟨w.heap.size, 0, none⟩) 2 2] (w.alloc (.cells #[.slice a n c, .slice b m d] 22)) fun e w' => e = .returned (.bool (decide (80 < n ∨ 80 < m))) ∧ w' = w.alloc (.cells #[.slice a n c, .slice b m d] 22) := by
  have hr := VRow.new w 22 [.slice a n c, .slice b m d]
  refine many_any w.heap.size 2 (by decide) (fun j => if j = 0 then a else b) (fun j => if j = 0 then n else m) (fun j => if j = 0 then c else d) _ (fun j hj => ?_) _ ?_
  · have h2 : j = 0 ∨ j = 1 := by omega
    rcases h2 with rfl | rfl
    · exact hr.cell 0 _ rfl
    · exact hr.cell 1 _ rfl
  · rw [decide_eq_true_eq]
    constructor
    · rintro (h | h)
      · exact ⟨0, by decide, h⟩
      · exact ⟨1, by decide, h⟩
    · rintro ⟨j, hj, h⟩
      have h2 : j = 0 ∨ j = 1 := by omega
      rcases h2 with rfl | rfl
      · exact .inl h
      · exact .inr h
theorem many3 (w : World) (a b b' : Option Addr) (n c m d m' d' : Nat) :
    Calls Try.prog 9 #[.slice (some ⟨w.heap.size, 0, none⟩) 3 3] (w.alloc (.cells #[.slice a n c, .slice b m d, .slice b' m' d'] 22)) fun e w' => e = .returned (.bool (decide (80 < n ∨ 80 < m ∨ 80 < m'))) ∧ w' = w.alloc (.cells #[.slice a n c, .slice b m d, .slice b' m' d'] 22) := by
  have hr := VRow.new w 22 [.slice a n c, .slice b m d, .slice b' m' d']
  refine many_any w.heap.size 3 (by decide) (fun j => if j = 0 then a else if j = 1 then b else b') (fun j => if j = 0 then n else if j = 1 then m else m') (fun j => if j = 0 then c else if j = 1 then d else d') _ (fun j hj => ?_) _ ?_
  · have h2 : j = 0 ∨ j = 1 ∨ j = 2 := by omega
    rcases h2 with rfl | rfl | rfl
    · exact hr.cell 0 _ rfl
    · exact hr.cell 1 _ rfl
    · exact hr.cell 2 _ rfl
  · rw [decide_eq_true_eq]
    constructor
    · rintro (h | h | h)
      · exact ⟨0, by decide, h⟩
      · exact ⟨1, by decide, h⟩
      · exact ⟨2, by decide, h⟩
    · rintro ⟨j, hj, h⟩
      have h2 : j = 0 ∨ j = 1 ∨ j = 2 := by omega
      rcases h2 with rfl | rfl | rfl
      · exact .inl h
      · exact .inr (.inl h)
      · exact .inr (.inr h)

set_option maxRecDepth 100000 in
set_option maxHeartbeats 1000000 in
theorem stands_walk (a b : Option Addr) (ca cb : Nat) (xs ys : List Vc.D) (hca : xs.length ≤ ca) (hcb : ys.length ≤ cb) (w : World) (sa : Sl w a xs) (sb : Sl w b ys) :
    Calls Try.prog 5 #[.slice a xs.length ca, .slice b ys.length cb] w fun e w' => e = .returned (.bool true) ∧ Below w.heap.size w w' := by
  have KM := hide (many2 w a b xs.length ca ys.length cb)
  have HB0 := hide (below_alloc (w := w) (.cells #[.slice a xs.length ca, .slice b ys.length cb] 22))
  have SA0 := hide (sa.after (unhide HB0))
  have SB0 := hide (sb.after (unhide HB0))
  clear sa sb
  by_cases h8 : 80 < xs.length ∨ 80 < ys.length
  · rw [decide_eq_true h8] at KM
    clear h8
    go_enter Try.func5, Try.ntmps5
    go_wp2_with fail
    refine (unhide KM).mono ?_
    rintro e w1 ⟨rfl, hw⟩
    subst hw
    go_wp2_with fail
    refine (awake_any _).mono ?_
    rintro e w9 ⟨rfl, hb9⟩
    have HB9 := hide (below_grow (unhide HB0) (Nat.le_refl _) hb9)
    clear hb9
    go_wp2_with fail
    go_ret
    exact ⟨rfl, unhide HB9⟩
  · rw [decide_eq_false h8] at KM
    have hx : xs.length ≤ 100000 := by omega
    have hy : ys.length ≤ 100000 := by omega
    have K1 := hide fun W (h1 : Sl W a xs) (h2 : Sl W b ys) => within_any a b ca cb xs ys hx hy hca hcb W h1 h2
    have K2 := hide fun W (h1 : Sl W a xs) (h2 : Sl W b ys) => refWithin_any a b ca cb xs ys hx hy W h1 h2
    have K3 := hide fun W (h1 : Sl W a xs) (h2 : Sl W b ys) => compare_any a b ca cb xs ys hx hy hca hcb W h1 h2
    have K4 := hide fun W (h1 : Sl W a xs) (h2 : Sl W b ys) => refCompare_any a b ca cb xs ys hx hy W h1 h2
    obtain ⟨D, hD⟩ : ∃ D : Bool, D = true ↔ xs = ys := ⟨decide (xs = ys), decide_eq_true_iff⟩
    have K5 := hide fun W (h1 : Sl W a xs) (h2 : Sl W b ys) => same_any a b ca cb xs ys hx W h1 h2 D hD
    have K6 := hide fun W (h1 : Sl W a xs) (h2 : Sl W b ys) => refSame_any a b ca cb xs ys hx W h1 h2 D hD
    generalize Vc.within xs ys = X at K1 K2
    generalize Vc.compare xs ys = C at K3 K4
    clear h8 hx hy hca hcb hD
    go_enter Try.func5, Try.ntmps5
    go_wp2_with fail
    refine (unhide KM).mono ?_
    rintro e w1 ⟨rfl, hw⟩
    subst hw
    go_wp2_with fail
    generalize w.alloc (.cells #[.slice a xs.length ca, .slice b ys.length cb] 22) = W0 at HB0 SA0 SB0 ⊢
    refine (unhide K1 _ (unhide SA0) (unhide SB0)).mono ?_
    rintro e w1 ⟨rfl, hb1⟩
    have HB1 := hide (below_grow (unhide HB0) (Nat.le_refl _) hb1)
    have SA1 := hide ((unhide SA0).after hb1)
    have SB1 := hide ((unhide SB0).after hb1)
    clear hb1 SA0 SB0
    go_wp2_with fail
    refine (unhide K2 _ (unhide SA1) (unhide SB1)).mono ?_
    rintro e w2 ⟨rfl, hb2⟩
    have HB2 := hide (below_grow (unhide HB1) (Nat.le_refl _) hb2)
    have SA2 := hide ((unhide SA1).after hb2)
    have SB2 := hide ((unhide SB1).after hb2)
    clear hb2 SA1 SB1
    go_wp2_with fail
    refine (unhide K3 _ (unhide SA2) (unhide SB2)).mono ?_
    rintro e w3 ⟨rfl, hb3⟩
    have HB3 := hide (below_grow (unhide HB2) (Nat.le_refl _) hb3)
    have SA3 := hide ((unhide SA2).after hb3)
    have SB3 := hide ((unhide SB2).after hb3)
    clear hb3 SA2 SB2
    go_wp2_with fail
    refine (unhide K4 _ (unhide SA3) (unhide SB3)).mono ?_
    rintro e w4 ⟨rfl, hb4⟩
    have HB4 := hide (below_grow (unhide HB3) (Nat.le_refl _) hb4)
    have SA4 := hide ((unhide SA3).after hb4)
    have SB4 := hide ((unhide SB3).after hb4)
    clear hb4 SA3 SB3
    go_wp2_with fail
    refine (unhide K5 _ (unhide SA4) (unhide SB4)).mono ?_
    rintro e w5 ⟨rfl, hb5⟩
    have HB5 := hide (below_grow (unhide HB4) (Nat.le_refl _) hb5)
    have SA5 := hide ((unhide SA4).after hb5)
    have SB5 := hide ((unhide SB4).after hb5)
    clear hb5 SA4 SB4
    go_wp2_with fail
    refine (unhide K6 _ (unhide SA5) (unhide SB5)).mono ?_
    rintro e w6 ⟨rfl, hb6⟩
    have HB6 := hide (below_grow (unhide HB5) (Nat.le_refl _) hb6)
    clear hb6 SA5 SB5
    go_wp2_with fail
    refine (awake_any _).mono ?_
    rintro e w9 ⟨rfl, hb9⟩
    have HB9 := hide (below_grow (unhide HB6) (Nat.le_refl _) hb9)
    clear hb9
    go_wp2_with fail
    go_ret
    exact ⟨rfl, unhide HB9⟩
end Go.Proofs.Ythjbkghpfbdbcaa
