/-
  What Unhex answers: the digest that signs say, or why they say none.
-/
import Derived.Test.YtkdhpnijcgegbaaDoorSigns
import Derived.Test.YtkdhpnijcgegbaaDoorDig
import Derived.Laws.ResultCell
namespace Go.Proofs.YtkdhpnijcgegbaaDoor
open Go.RowKit

theorem Sha.unhex_len (s : List UInt8) : (Sha.unhex s).1.length = 32 := by
  unfold Sha.unhex
  split
  · simp [Sha.zeros]
  · split
    · simp [Sha.zeros]
    · split
      · simp [Sha.zeros]
      · exact Sha.part_len _ _

set_option maxRecDepth 100000 in
theorem numberOf_some (c : UInt8) (n : Nat) (h : Sha.num c = some n) (w : World) :
    Calls Tryd.prog 25 #[.int .u8 (c.toNat : Int)] w fun e w' => e = .returned (.tuple #[.int .u8 (n : Int), .bool true]) ∧ w' = w := by
  have hc := c.toNat_lt
  unfold Sha.num at h
  split at h
  · rename_i h1
    obtain ⟨h1, h2⟩ := h1
    simp only [Option.some.injEq] at h
    have e1 : (c.toNat : Int) - 48 = (n : Int) := by omega
    clear h
    generalize c.toNat = x at *
    go_enter Tryd.func25, Tryd.ntmps25
    go_wp2
    go_ret2
    exact ⟨rfl, rfl⟩
  · split at h
    · rename_i h0 h1
      obtain ⟨h1, h2⟩ := h1
      simp only [Option.some.injEq] at h
      have e1 : (c.toNat : Int) - 97 + 10 = (n : Int) := by omega
      clear h h0
      generalize c.toNat = x at *
      go_enter Tryd.func25, Tryd.ntmps25
      go_wp2
      go_ret2
      exact ⟨rfl, rfl⟩
    · cases h

set_option maxRecDepth 100000 in
theorem numberOf_none (c : UInt8) (h : Sha.num c = none) (w : World) :
    Calls Tryd.prog 25 #[.int .u8 (c.toNat : Int)] w fun e w' => e = .returned (.tuple #[.int .u8 0, .bool false]) ∧ w' = w := by
  have hc := c.toNat_lt
  unfold Sha.num at h
  split at h
  · cases h
  · split at h
    · cases h
    · rename_i h1 h2
      generalize c.toNat = x at *
      by_cases a1 : x < 48
      · go_enter Tryd.func25, Tryd.ntmps25
        go_wp2
        go_ret2
        exact ⟨rfl, rfl⟩
      · by_cases a2 : x < 97
        · have a3 : 57 < x := by omega
          go_enter Tryd.func25, Tryd.ntmps25
          go_wp2
          go_ret2
          exact ⟨rfl, rfl⟩
        · have a3 : 102 < x := by omega
          go_enter Tryd.func25, Tryd.ntmps25
          go_wp2
          go_ret2
          exact ⟨rfl, rfl⟩
end Go.Proofs.YtkdhpnijcgegbaaDoor
