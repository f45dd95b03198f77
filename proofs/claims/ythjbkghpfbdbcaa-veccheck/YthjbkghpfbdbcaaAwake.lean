/-
  That chapter 5's example holds, and whether one of some lists is longer than 80.
-/
import Derived.Test.YthjbkghpfbdbcaaMeet
import Derived.Test.YthjbkghpfbdbcaaWithin
namespace Go.Proofs.Ythjbkghpfbdbcaa
open Go.RowKit

set_option maxRecDepth 100000 in
set_option maxHeartbeats 400000 in
theorem many_any (g n : Nat) (hn : n ≤ 100) (A : Nat → Option Addr) (L C : Nat → Nat) (w : World) (hc : ∀ j, j < n → w.cell? ⟨g, j, none⟩ = some (.slice (A j) (L j) (C j))) (B : Bool) (hB : B = true ↔ ∃ j, j < n ∧ 80 < L j) :
    Calls Try.prog 9 #[.slice (some ⟨g, 0, none⟩) n n] w fun e w' => e = .returned (.bool B) ∧ w' = w := by
  have HC := hide hc
  have HB := hide hB
  clear hc hB
  go_enter Try.func9, Try.ntmps9
  go_wp2_with fail
  go_loopw [3] (fun i wr => ∃ k : Nat, k ≤ n ∧ i = .int .i64 k ∧ (∀ j, j < k → ¬ 80 < L j) ∧ wr = w) (fun i _ => n - (intOf i).toNat)
  case atStart => exact ⟨0, Nat.zero_le _, rfl, fun j hj => absurd hj (Nat.not_lt_zero _), rfl⟩
  case round =>
    obtain ⟨k, hk, rfl, hall, rfl⟩ := hrel
    have HALL := hide hall
    clear hall
    by_cases hlt : k < n
    · have c0 := unhide HC k hlt
      obtain ⟨l, hl⟩ : ∃ l, L k = l := ⟨_, rfl⟩
      rw [hl] at c0
      by_cases h8 : 80 < l
      · obtain rfl : B = true := (unhide HB).2 ⟨k, hlt, by omega⟩
        clear hl
        go_wp2_with fail
        go_ret
        exact ⟨rfl, rfl⟩
      · have HALL2 : Hid (∀ j, j < k + 1 → ¬ 80 < L j) := hide (fun j hj => by
          by_cases e : j = k
          · subst e; omega
          · exact unhide HALL j (by omega))
        clear hl
        go_wp2_with fail
        go_roundw
        case rel => exact ⟨k + 1, by omega, by go_num, unhide HALL2, by first | rfl | trivial⟩
        case measure => simp [intOf]; omega
    · obtain rfl : B = false := by
        cases B with
        | false => rfl
        | true =>
          obtain ⟨j, hj, h8⟩ := (unhide HB).1 rfl
          exact absurd h8 (unhide HALL j (by omega))
      go_wp2_with fail
      go_ret
      exact ⟨rfl, rfl⟩

theorem two_sl (w : World) (p c p' c' : Int) : Sl (w.alloc (.cells #[.int .i64 p, .int .i64 c, .int .i64 p', .int .i64 c'] 24)) (some ⟨w.heap.size, 0, none⟩) [(p, c), (p', c')] := fun _ => by
  have hr := VRow.new w 24 [.int .i64 p, .int .i64 c, .int .i64 p', .int .i64 c']
  refine ⟨w.heap.size, 0, rfl, lt_new _ _, fun j d hj => ?_⟩
  have hj2 : j = 0 ∨ j = 1 := by have := (List.getElem?_eq_some_iff.1 hj).1; simp at this; omega
  rcases hj2 with rfl | rfl
  · simp at hj
    subst hj
    exact ⟨hr.cell 0 _ rfl, hr.cell 1 _ rfl⟩
  · simp at hj
    subst hj
    exact ⟨hr.cell 2 _ rfl, hr.cell 3 _ rfl⟩

set_option maxRecDepth 100000 in
set_option maxHeartbeats 1000000 in
theorem awake_any (w : World) : Calls Try.prog 10 #[] w fun e w' => e = .returned (.bool true) ∧ Below w.heap.size w w' := by
  have HB0 := hide (((Below.refl w.heap.size w).alloc (Nat.le_refl _) (.cells #[.int .i64 0, .int .i64 2, .int .i64 3, .int .i64 1] 24)).alloc (Nat.le_of_lt (lt_new _ _)) (.cells #[.int .i64 0, .int .i64 1, .int .i64 5, .int .i64 4] 24))
  have sa := (two_sl w 0 2 3 1).after ((Below.refl _ _).alloc (Nat.le_refl _) (.cells #[.int .i64 0, .int .i64 1, .int .i64 5, .int .i64 4] 24))
  have sb := two_sl (w.alloc (.cells #[.int .i64 0, .int .i64 2, .int .i64 3, .int .i64 1] 24)) 0 1 5 4
  rw [World.size_alloc] at sb
  have KJ := hide fun W (h1 : Sl W (some ⟨w.heap.size, 0, none⟩) Vc.exA) (h2 : Sl W (some ⟨w.heap.size + 1, 0, none⟩) Vc.exB) => join_any (some ⟨w.heap.size, 0, none⟩) (some ⟨w.heap.size + 1, 0, none⟩) 2 2 Vc.exA Vc.exB (by decide) (by decide) (by decide) (by decide) W h1 h2
  have KM := hide fun W (h1 : Sl W (some ⟨w.heap.size, 0, none⟩) Vc.exA) (h2 : Sl W (some ⟨w.heap.size + 1, 0, none⟩) Vc.exB) => meet_any (some ⟨w.heap.size, 0, none⟩) (some ⟨w.heap.size + 1, 0, none⟩) 2 2 Vc.exA Vc.exB (by decide) (by decide) (by decide) (by decide) W h1 h2
  have KC := hide fun W (h1 : Sl W (some ⟨w.heap.size, 0, none⟩) Vc.exA) (h2 : Sl W (some ⟨w.heap.size + 1, 0, none⟩) Vc.exB) => compare_any (some ⟨w.heap.size, 0, none⟩) (some ⟨w.heap.size + 1, 0, none⟩) 2 2 Vc.exA Vc.exB (by decide) (by decide) (by decide) (by decide) W h1 h2
  rw [Vc.ex_join] at KJ
  rw [Vc.ex_meet] at KM
  rw [Vc.ex_apart] at KC
  rw [show [((0 : Int), (2 : Int)), (3, 1), (5, 4)].length = 3 from rfl] at KJ
  rw [show [((0 : Int), (1 : Int))].length = 1 from rfl] at KM
  rw [show Vc.exA.length = 2 from rfl, show Vc.exB.length = 2 from rfl] at KJ KM KC
  have HSA := hide (show Sl _ _ Vc.exA from sa)
  have HSB := hide (show Sl _ _ Vc.exB from sb)
  clear sa sb
  go_enter Try.func10, Try.ntmps10
  go_wp2_with fail
  generalize (w.alloc (.cells #[.int .i64 0, .int .i64 2, .int .i64 3, .int .i64 1] 24)).alloc (.cells #[.int .i64 0, .int .i64 1, .int .i64 5, .int .i64 4] 24) = W1 at HB0 HSA HSB ⊢
  refine (unhide KJ _ (unhide HSA) (unhide HSB)).mono ?_
  rintro e w1 ⟨r, cap, rfl, hcap, hsl, hb1⟩
  have HB1 := hide (below_grow (unhide HB0) (Nat.le_refl _) hb1)
  have HSA1 := hide ((unhide HSA).after hb1)
  have HSB1 := hide ((unhide HSB).after hb1)
  obtain ⟨g, o, rfl, hg, hc⟩ := hsl (by decide)
  have j1 : w1.cell? ⟨g, o + 2 * 2 + 1, none⟩ = some (.int .i64 4) := (hc 2 _ rfl).2
  clear hb1 hc hsl
  go_wp2_with fail
  refine (unhide KM _ (unhide HSA1) (unhide HSB1)).mono ?_
  rintro e w2 ⟨r2, cap2, rfl, hcap2, hsl2, hb2⟩
  have HB2 := hide (below_grow (unhide HB1) (Nat.le_refl _) hb2)
  have HSA2 := hide ((unhide HSA1).after hb2)
  have HSB2 := hide ((unhide HSB1).after hb2)
  obtain ⟨g2, o2, rfl, hg2, hc2⟩ := hsl2 (by decide)
  have j2 : w2.cell? ⟨g, o + 5, none⟩ = some (.int .i64 4) := (hb2.cell (p := ⟨g, o + 5, none⟩) hg).trans j1
  have m0 : w2.cell? ⟨g2, o2, none⟩ = some (.int .i64 0) := (hc2 0 _ rfl).1
  have m1 : w2.cell? ⟨g2, o2 + 1, none⟩ = some (.int .i64 1) := (hc2 0 _ rfl).2
  clear hb2 hc2 hsl2 j1 hg hg2
  go_wp2_with fail
  refine (unhide KC _ (unhide HSA2) (unhide HSB2)).mono ?_
  rintro e w3 ⟨rfl, hb3⟩
  have HB3 := hide (below_grow (unhide HB2) (Nat.le_refl _) hb3)
  clear hb3
  go_wp2_with fail
  go_ret
  exact ⟨rfl, unhide HB3⟩
end Go.Proofs.Ythjbkghpfbdbcaa
