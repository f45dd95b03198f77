/-
  Whether a node may be: the program's first, unless, checkKids and Check. Conditions: those that each theorem names.
-/
import Derived.Test.YthchcjjpplcfnaaDoorK1
import Derived.Test.YthchcjjpplcfnaaDoorP1
import Derived.Test.YthchcjjpplcfnaaDoorQMath
namespace Go.Proofs.YthchcjjpplcfnaaDoor
open Go.RowKit

/-- An error, unless something is so. -/
def unl (is : Bool) (e : Int) : Int := if is = true then 0 else e
theorem unless_any (is : Bool) (e : Int) (w : World) : Calls Tryd.prog 29 #[.bool is, .int .i64 e] w fun x w' => x = .returned (.int .i64 (unl is e)) ∧ w' = w := by
  go_enter Tryd.func29, Tryd.ntmps29
  cases is with
  | true =>
    go_wp2_with fail
    go_ret
    exact ⟨rfl, rfl⟩
  | false =>
    go_wp2_with fail
    go_ret
    exact ⟨rfl, rfl⟩

/-- What the first error of a row of checks is. -/
def IsFirst (E : Nat → Int) (n : Nat) (R : Int) : Prop := (∃ j, j < n ∧ E j = R ∧ R ≠ 0 ∧ ∀ i, i < j → E i = 0) ∨ (R = 0 ∧ ∀ i, i < n → E i = 0)
theorem IsFirst.at {E : Nat → Int} {n : Nat} {R : Int} (h : IsFirst E n R) {j : Nat} (hj : j < n) (he : E j ≠ 0) (ha : ∀ i, i < j → E i = 0) : E j = R := by
  rcases h with ⟨k, hk, e, hR, hz⟩ | ⟨_, hz⟩
  · rcases Nat.lt_trichotomy k j with h1 | h1 | h1
    · exact absurd ((e.symm).trans (ha k h1)) hR
    · rw [← h1]; exact e
    · exact absurd (hz j h1) he
  · exact absurd (hz j hj) he
theorem IsFirst.none {E : Nat → Int} {n : Nat} {R : Int} (h : IsFirst E n R) (ha : ∀ i, i < n → E i = 0) : R = 0 := by
  rcases h with ⟨k, hk, e, hR, _⟩ | ⟨h0, _⟩
  · exact absurd ((e.symm).trans (ha k hk)) hR
  · exact h0
set_option maxRecDepth 100000 in
set_option maxHeartbeats 1000000 in
theorem firstN_any (g n c : Nat) (hn : n ≤ 10) (F : Nat → Nat) (A C : Nat → Array Value) (E : Nat → Int) (R : Int) (hR : IsFirst E n R) (w : World)
    (hc : ∀ j, j < n → w.cell? ⟨g, j, none⟩ = some (.func (.func (F j)) (A j) (C j))) (hg : g < w.heap.size)
    (hcf : ∀ j, j < n → ∀ args w, (callFunc (F j) args).run Tryd.prog w = .ok (.enter (F j) args) w)
    (KF : ∀ j, j < n → (∀ i, i < j → E i = 0) → ∀ W, Below w.heap.size w W → Calls Tryd.prog (F j) (A j ++ C j) W fun e w' => e = .returned (.int .i64 (E j)) ∧ Below W.heap.size W w') :
    Calls Tryd.prog 25 #[.slice (some ⟨g, 0, none⟩) n c] w fun e w' => e = .returned (.int .i64 R) ∧ Below w.heap.size w w' := by
  have HC := hide hc
  have HCF := hide hcf
  have HKF := hide KF
  have HR := hide hR
  clear hc hcf KF hR
  go_enter Tryd.func25, Tryd.ntmps25
  go_wp2_with fail
  go_loopw [8] (fun i wr => ∃ j : Nat, j ≤ n ∧ i = .int .i64 j ∧ (∀ i, i < j → E i = 0) ∧ Below w.heap.size w wr) (fun i _ => n - (intOf i).toNat)
  case atStart => exact ⟨0, Nat.zero_le _, rfl, fun i h => absurd h (Nat.not_lt_zero _), Below.refl _ _⟩
  case round =>
    obtain ⟨j, hj, rfl, hz, hb⟩ := hrel
    have HZ := hide hz
    have HB := hide hb
    clear hz hb
    by_cases hlt : j < n
    · have x0 : wr.cell? ⟨g, j, none⟩ = some (.func (.func (F j)) (A j) (C j)) := ((unhide HB).cell (p := ⟨g, j, none⟩) hg).trans (unhide HC j hlt)
      have hcf := unhide HCF j hlt
      have KN := hide (unhide HKF j hlt (unhide HZ) wr (unhide HB))
      have HA := hide fun he => (unhide HR).at hlt he (unhide HZ)
      have HZ2 : Hid (E j = 0 → ∀ i, i < j + 1 → E i = 0) := hide fun h0 i hi => by
        rcases Nat.lt_succ_iff_lt_or_eq.1 hi with h | h
        · exact unhide HZ i h
        · rw [h]; exact h0
      generalize F j = f at x0 KN hcf
      generalize A j = fa at x0 KN
      generalize C j = ca at x0 KN
      generalize E j = r at KN HA HZ2
      go_wp2_with fail
      refine (unhide KN).mono ?_
      rintro e w2 ⟨rfl, hb⟩
      have HB2 := hide (below_grow (unhide HB) (Nat.le_refl _) hb)
      clear hb x0 KN
      by_cases hr : r = 0
      · subst hr
        have HZ3 := hide (unhide HZ2 rfl)
        go_wp2_with fail
        go_roundw
        case rel => exact ⟨j + 1, by omega, by go_num, unhide HZ3, unhide HB2⟩
        case measure => simp [intOf]; omega
      · have hne : (r != 0) = true := bne_iff_ne.2 hr
        have HA2 := hide (unhide HA hr)
        go_wp2_with fail
        go_ret
        exact ⟨ret_int (unhide HA2), unhide HB2⟩
    · obtain rfl : j = n := by omega
      have HA2 := hide ((unhide HR).none (unhide HZ))
      go_wp2_with fail
      go_ret
      exact ⟨ret_int (unhide HA2).symm, unhide HB⟩
end Go.Proofs.YthchcjjpplcfnaaDoor
