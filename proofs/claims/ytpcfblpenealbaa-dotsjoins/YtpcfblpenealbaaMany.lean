/-
  Whether one of some sets has more dots than are asked of.
-/
import Derived.Test.YtpcfblpenealbaaRow
namespace Go.Proofs.Ytpcfblpenealbaa
open Go.RowKit

set_option maxRecDepth 100000 in
set_option maxHeartbeats 1000000 in
theorem many_any (g n : Nat) (hn : n ≤ 100) (A A' : Nat → Option Addr) (L C L' C' : Nat → Nat) (w : World) (hc : ∀ j, j < n → w.cell? ⟨g, j * 2, none⟩ = some (.slice (A j) (L j) (C j)) ∧ w.cell? ⟨g, j * 2 + 1, none⟩ = some (.slice (A' j) (L' j) (C' j))) (B : Bool) (hB : B = true ↔ ∃ j, j < n ∧ (80 < L j ∨ 60 < L' j)) :
    Calls Try.prog 8 #[.slice (some ⟨g, 0, none⟩) n n] w fun e w' => e = .returned (.bool B) ∧ w' = w := by
  have HC := hide hc
  have HB := hide hB
  clear hc hB
  go_enter Try.func8, Try.ntmps8
  go_wp2_with fail
  go_loopw [3] (fun i wr => ∃ k : Nat, k ≤ n ∧ i = .int .i64 k ∧ (∀ j, j < k → ¬ (80 < L j ∨ 60 < L' j)) ∧ wr = w) (fun i _ => n - (intOf i).toNat)
  case atStart => exact ⟨0, Nat.zero_le _, rfl, fun j hj => absurd hj (Nat.not_lt_zero _), rfl⟩
  case round =>
    obtain ⟨k, hk, rfl, hall, rfl⟩ := hrel
    have HALL := hide hall
    clear hall
    by_cases hlt : k < n
    · obtain ⟨c0, c1⟩ := unhide HC k hlt
      obtain ⟨l, hl⟩ : ∃ l, L k = l := ⟨_, rfl⟩
      obtain ⟨l', hl'⟩ : ∃ l', L' k = l' := ⟨_, rfl⟩
      rw [hl] at c0
      rw [hl'] at c1
      by_cases h8 : 80 < l
      · obtain rfl : B = true := (unhide HB).2 ⟨k, hlt, .inl (by omega)⟩
        have hd : decide ((80 : Int) < (l : Int)) = true := decide_eq_true (by omega)
        clear hl hl'
        go_wp2_with fail
        go_ret
        exact ⟨rfl, rfl⟩
      · have hd : decide ((80 : Int) < (l : Int)) = false := decide_eq_false (by omega)
        by_cases h6 : 60 < l'
        · obtain rfl : B = true := (unhide HB).2 ⟨k, hlt, .inr (by omega)⟩
          have hd' : decide ((60 : Int) < (l' : Int)) = true := decide_eq_true (by omega)
          clear hl hl'
          go_wp2_with fail
          go_ret
          exact ⟨rfl, rfl⟩
        · have hd' : decide ((60 : Int) < (l' : Int)) = false := decide_eq_false (by omega)
          have HALL2 : Hid (∀ j, j < k + 1 → ¬ (80 < L j ∨ 60 < L' j)) := hide (fun j hj => by
            by_cases e : j = k
            · subst e; omega
            · exact unhide HALL j (by omega))
          clear hl hl'
          go_wp2_with fail
          go_roundw
          case rel => exact ⟨k + 1, by omega, by go_num, unhide HALL2, by first | rfl | trivial⟩
          case measure => simp [intOf]; omega
    · obtain rfl : B = false := by
        cases B with
        | false => rfl
        | true =>
          obtain ⟨j, hj, h8⟩ := (unhide HB).1 rfl
          exact absurd h8 (unhide HALL j (by omega))
      go_wp2_with fail
      go_ret
      exact ⟨rfl, rfl⟩

theorem many1 (w : World) (a b : Option Addr) (n c m d : Nat) :
    Calls Try.prog 8 #[.slice (some ⟨w.heap.size, 0, none⟩) 1 1] (w.alloc (.cells #[.slice a n c, .slice b m d] 24)) fun e w' => e = .returned (.bool (decide (80 < n ∨ 60 < m))) ∧ w' = w.alloc (.cells #[.slice a n c, .slice b m d] 24) := by
  have hr := VRow.new w 24 [.slice a n c, .slice b m d]
  refine many_any w.heap.size 1 (by decide) (fun _ => a) (fun _ => b) (fun _ => n) (fun _ => c) (fun _ => m) (fun _ => d) _ (fun j hj => ?_) _ ?_
  · obtain rfl : j = 0 := by omega
    exact ⟨hr.cell 0 _ rfl, hr.cell 1 _ rfl⟩
  · rw [decide_eq_true_eq]
    exact ⟨fun h => ⟨0, by decide, h⟩, fun ⟨_, _, h⟩ => h⟩
theorem many2 (w : World) (a b a' b' : Option Addr) (n c m d n' c' m' d' : Nat) :
    Calls Try.prog 8 #[.slice (some ⟨w.heap.size, 0, none⟩) 2 2] (w.alloc (.cells #[.slice a n c, .slice b m d, .slice a' n' c', .slice b' m' d'] 24)) fun e w' => e = .returned (.bool (decide ((80 < n ∨ 60 < m) ∨ (80 < n' ∨ 60 < m')))) ∧ w' = w.alloc (.cells #[.slice a n c, .slice b m d, .slice a' n' c', .slice b' m' d'] 24) := by
  have hr := VRow.new w 24 [.slice a n c, .slice b m d, .slice a' n' c', .slice b' m' d']
  refine many_any w.heap.size 2 (by decide) (fun j => if j = 0 then a else a') (fun j => if j = 0 then b else b') (fun j => if j = 0 then n else n') (fun j => if j = 0 then c else c') (fun j => if j = 0 then m else m') (fun j => if j = 0 then d else d') _ (fun j hj => ?_) _ ?_
  · rcases (show j = 0 ∨ j = 1 by omega) with rfl | rfl
    · exact ⟨hr.cell 0 _ rfl, hr.cell 1 _ rfl⟩
    · exact ⟨hr.cell 2 _ rfl, hr.cell 3 _ rfl⟩
  · rw [decide_eq_true_eq]
    constructor
    · rintro (h | h)
      · exact ⟨0, by decide, by simpa using h⟩
      · exact ⟨1, by decide, by simpa using h⟩
    · rintro ⟨j, hj, h⟩
      rcases (show j = 0 ∨ j = 1 by omega) with rfl | rfl
      · exact .inl (by simpa using h)
      · exact .inr (by simpa using h)
end Go.Proofs.Ytpcfblpenealbaa
