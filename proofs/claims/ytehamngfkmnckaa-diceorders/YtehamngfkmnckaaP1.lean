/-
  What the program's below, Below and Next answer; which numbers are left, gone through one behind the other.
-/
import Derived.Test.YtehamngfkmnckaaPrg
namespace Go.Proofs.Ytehamngfkmnckaa
open Go.RowKit

/-- Those below k that are left, rising. -/
def stays (g : List Bool) : Nat → List Nat
  | 0 => []
  | k + 1 => if g[k]? = some false then stays g k ++ [k] else stays g k
theorem stays_false {g : List Bool} {k : Nat} (h : g[k]? = some false) : stays g (k + 1) = stays g k ++ [k] := if_pos h
theorem stays_true {g : List Bool} {k : Nat} (h : g[k]? = some true) : stays g (k + 1) = stays g k := if_neg (by rw [h]; simp)
theorem stays_le (g : List Bool) : ∀ k, (stays g k).length ≤ k
  | 0 => Nat.le_refl _
  | k + 1 => by
    have := stays_le g k
    rw [stays]
    split
    · rw [List.length_append]; simp; omega
    · omega
theorem stays_prefix (g : List Bool) (j : Nat) : ∀ m, stays g j <+: stays g (j + m)
  | 0 => List.prefix_rfl
  | m + 1 => by
    refine (stays_prefix g j m).trans ?_
    rw [← Nat.add_assoc, stays]
    split
    · exact List.prefix_append _ _
    · exact List.prefix_rfl
theorem stays_count (g : List Bool) : ∀ k, k ≤ g.length → (stays g k).length + Dc.lefts (g.drop k) = Dc.lefts g
  | 0, _ => by simp [stays]
  | k + 1, h => by
    have ih := stays_count g k (by omega)
    have hn := Dc.lefts_next (g := g) (i := k) (by omega)
    obtain ⟨b, hb⟩ : ∃ b, g[k]? = some b := ⟨_, List.getElem?_eq_getElem (by omega)⟩
    rw [hb] at hn
    cases b with
    | false =>
      rw [if_neg (by simp)] at hn
      rw [stays_false hb, List.length_append]
      simp
      omega
    | true =>
      rw [if_pos (by rfl)] at hn
      rw [stays_true hb]
      omega
theorem stays_all (g : List Bool) : (stays g g.length).length = Dc.lefts g := by
  have := stays_count g g.length (Nat.le_refl _)
  rw [List.drop_of_length_le (Nat.le_refl _)] at this
  simpa [Dc.lefts] using this
theorem stays_pick (g : List Bool) (K : Nat) : ∀ k, k ≤ g.length → (∀ p, (stays g k)[K]? = some p → Dc.pickAt g K = p) ∧ ((stays g k).length ≤ K → Dc.pickAt g K = k + Dc.pickAt (g.drop k) (K - (stays g k).length))
  | 0, _ => ⟨fun p h => by simp [stays] at h, fun _ => by simp [stays]⟩
  | k + 1, h => by
    obtain ⟨h1, h2⟩ := stays_pick g K k (by omega)
    obtain ⟨b, hb⟩ : ∃ b, g[k]? = some b := ⟨_, List.getElem?_eq_getElem (by omega)⟩
    have hn := Dc.pick_next (g := g) (i := k) (k := K - (stays g k).length) (by omega)
    rw [hb] at hn
    cases b with
    | true =>
      rw [if_pos (by rfl)] at hn
      rw [stays_true hb]
      exact ⟨h1, fun hl => by have := h2 hl; omega⟩
    | false =>
      rw [if_neg (by simp)] at hn
      rw [stays_false hb]
      refine ⟨fun p hp => ?_, fun hl => ?_⟩
      · by_cases hK : K < (stays g k).length
        · rw [List.getElem?_append_left hK] at hp
          exact h1 p hp
        · rw [List.getElem?_append_right (by omega)] at hp
          have hz : K - (stays g k).length = 0 := by
            have := (List.getElem?_eq_some_iff.1 hp).1
            simp at this
            omega
          rw [hz] at hp
          simp at hp
          have := h2 (by omega)
          rw [if_pos hz] at hn
          omega
      · rw [List.length_append] at hl ⊢
        simp at hl ⊢
        have := h2 (by omega)
        rw [if_neg (by omega)] at hn
        rw [show K - ((stays g k).length + 1) = K - (stays g k).length - 1 by omega]
        omega

def belowN (x n : Int) : Int := if n < 1 then 0 else x % n
theorem belowN_is {x n : Int} (h0 : 0 ≤ x) (h1 : 1 ≤ n) (hn : n ≤ 9223372036854775807) : wrap64 (x.tmod n) = x % n := by
  rw [Int.tmod_eq_emod_of_nonneg h0]
  have h2 := Int.emod_nonneg x (show n ≠ 0 by omega)
  have h3 := Int.emod_lt_of_pos x (show 0 < n by omega)
  generalize x % n = y at h2 h3
  simp only [wrap64]
  omega

set_option maxRecDepth 100000 in
theorem below_any (x n : Int) (h0 : 0 ≤ x) (hx : x < 18446744073709551616) (hn : n ≤ 9223372036854775807) (w : World) : Calls Try.prog 15 #[.int .u64 x, .int .i64 n] w fun e w' => e = .returned (.int .i64 (belowN x n)) ∧ w' = w := by
  by_cases h1 : n < 1
  · have d1 : decide (n < 1) = true := decide_eq_true h1
    have e : belowN x n = 0 := if_pos h1
    rw [e]
    go_enter Try.func15, Try.ntmps15
    go_wp2_with fail
    go_ret
    exact ⟨rfl, rfl⟩
  · have d1 : decide (n < 1) = false := decide_eq_false h1
    have e : belowN x n = x % n := if_neg h1
    rw [e, ← belowN_is h0 (by omega) hn]
    go_enter Try.func15, Try.ntmps15
    go_wp2_with fail
    go_ret
    exact ⟨by rw [Int.tmod_eq_emod_of_nonneg h0]; rfl, rfl⟩

set_option maxRecDepth 100000 in
theorem Below_any (draw n : Int) (hn : n ≤ 9223372036854775807) (w : World) : Calls Try.prog 7 #[.int .i64 draw, .int .i64 n] w fun e w' => e = .returned (.int .i64 (belowE draw n)) ∧ w' = w := by
  have h0 := Int.emod_nonneg draw (show (18446744073709551616 : Int) ≠ 0 by decide)
  have h1 := Int.emod_lt_of_pos draw (show (0 : Int) < 18446744073709551616 by decide)
  have K := hide (below_any (draw % 18446744073709551616) n h0 h1 hn w)
  rw [show belowN (draw % 18446744073709551616) n = belowE draw n from rfl] at K
  have hw : IntKind.u64.wrap draw = draw % 18446744073709551616 := IntKind.wrap_u64 draw
  rw [← hw] at K
  clear h0 h1 hw
  go_enter Try.func7, Try.ntmps7
  go_wp2_with fail
  refine (unhide K).mono ?_
  rintro e w1 ⟨rfl, hw⟩
  have hw' := hw.symm
  subst hw'
  go_wp2_with fail
  go_ret
  exact ⟨rfl, rfl⟩

set_option maxRecDepth 100000 in
theorem Next_any (draw : Int) (w : World) : Calls Try.prog 9 #[.int .i64 draw] w fun e w' => e = .returned (.int .i64 (nextE draw)) ∧ w' = w := by
  go_enter Try.func9, Try.ntmps9
  go_wp2_with fail
  go_ret
  exact ⟨ret_int (next_is draw), rfl⟩
end Go.Proofs.Ytehamngfkmnckaa
