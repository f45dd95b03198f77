/-
  The program's Reader: flags. Conditions: those that each theorem names.
-/
import Derived.Test.YtklkacmeopfmhaaCP3
namespace Go.Proofs.Ytklkacmeopfmhaa
open Go.RowKit

def aheadF1 (b : List UInt8) : Bool × Nat × Int :=
  match b with
  | [] => (false, 0, 5)
  | x :: _ => if 1 < x.toNat then (false, 0, 7) else (x == 1, 1, 0)
theorem rFlag_ahead (st : St) : rFlag st = (got st (aheadF1 st.1).2.2 false (aheadF1 st.1).1, cut st (aheadF1 st.1).2.1 (aheadF1 st.1).2.2) := by
  obtain ⟨b, e⟩ := st
  unfold rFlag got cut aheadF1
  by_cases h0 : e ≠ 0
  · simp [h0]
  · have h0' : e = 0 := by simpa using h0
    subst h0'
    cases b with
    | nil => rfl
    | cons x r =>
      by_cases h1 : 1 < x.toNat
      · simp [h1]
      · simp [h1]
theorem aheadF1_ok (b : List UInt8) : (aheadF1 b).2.2 = 0 → (aheadF1 b).2.1 ≤ b.length := by
  unfold aheadF1
  cases b with
  | nil => intro h; cases h
  | cons x r =>
    dsimp only
    split
    · intro h; cases h
    · intro _; simp

set_option maxRecDepth 100000 in
set_option maxHeartbeats 400000 in
theorem flagAhead_any (b : List UInt8) (hs : b.length ≤ 50000000) (w : World) :
    Calls Try.prog 92 #[.string (str b)] w fun e w' => e = .returned (.tuple #[.bool (aheadF1 b).1, .int .i64 (aheadF1 b).2.1, .int .i64 (aheadF1 b).2.2]) ∧ w' = w := by
  cases b with
  | nil =>
    rw [show str [] = ⟨#[]⟩ from rfl, show aheadF1 [] = (false, 0, 5) from rfl]
    go_enter Try.func92, Try.ntmps92
    go_wp2_with fail
    go_ret3
    exact ⟨rfl, rfl⟩
  | cons x r =>
    have hemp := str_emp x r
    have hsz : 1 ≤ (str (x :: r)).size := by rw [str_size]; simp
    have hsm : (str (x :: r)).size ≤ 9223372036854775807 := by rw [str_size]; omega
    have HX : (str (x :: r)).extract 0 1 = str [x] := ext_head (x :: r) 1
    have q0 : ((str [x]).toList == [0]) = (x == 0) := by rw [ByteArray.toList_eq, str_data]; simp
    have q1 : ((str [x]).toList == [1]) = (x == 1) := by rw [ByteArray.toList_eq, str_data]; simp
    generalize str [x] = Y at *
    by_cases hx : 1 < x.toNat
    · rw [show aheadF1 (x :: r) = (false, 0, 7) from by simp [aheadF1, hx]]
      have n0 : (x == 0) = false := by rw [beq_eq_false_iff_ne]; rintro rfl; simp at hx
      have n1 : (x == 1) = false := by rw [beq_eq_false_iff_ne]; rintro rfl; simp at hx
      rw [n0] at q0
      rw [n1] at q1
      generalize str (x :: r) = S at *
      go_enter Try.func92, Try.ntmps92
      go_wp2_with fail
      go_ret3
      exact ⟨rfl, rfl⟩
    · rw [show aheadF1 (x :: r) = (x == 1, 1, 0) from by simp [aheadF1, hx]]
      generalize str (x :: r) = S at *
      have hcases : x = 0 ∨ x = 1 := by
        by_cases h0 : x = 0
        · exact .inl h0
        · refine .inr (UInt8.toNat_inj.1 ?_)
          have h2 : x.toNat ≠ 0 := fun h => h0 (UInt8.toNat_inj.1 (by simpa using h))
          show x.toNat = 1
          omega
      rcases hcases with rfl | rfl
      · rw [show ((0 : UInt8) == 0) = true from rfl] at q0
        go_enter Try.func92, Try.ntmps92
        go_wp2_with fail
        go_ret3
        exact ⟨rfl, rfl⟩
      · rw [show ((1 : UInt8) == 0) = false from rfl] at q0
        rw [show ((1 : UInt8) == 1) = true from rfl] at q1
        go_enter Try.func92, Try.ntmps92
        go_wp2_with fail
        go_ret3
        exact ⟨rfl, rfl⟩

set_option maxRecDepth 100000 in
set_option maxHeartbeats 400000 in
theorem rflag_any {w : World} {p : Addr} {st : St} {own : Nat → Prop} (h : Rd w p st own) (hs : st.1.length ≤ 50000000) :
    Calls Try.prog 77 #[.pointer (some p)] w (Turned Rd own p w (rFlag st).2 (.bool (rFlag st).1)) := by
  have KT := hide (takeF_any h (aheadF1 st.1).1 (aheadF1 st.1).2.1 (aheadF1 st.1).2.2 hs (aheadF1_ok st.1) (fun _ => (flagAhead_any st.1 hs w).mono (by rintro e w' ⟨rfl, rfl⟩; exact ⟨rfl, Below.refl _ _⟩)))
  rw [rFlag_ahead]
  dsimp only
  generalize got st (aheadF1 st.1).2.2 false (aheadF1 st.1).1 = V at KT ⊢
  generalize cut st (aheadF1 st.1).2.1 (aheadF1 st.1).2.2 = C at KT ⊢
  clear h hs
  go_enter Try.func77, Try.ntmps77
  go_wp2_with (go_at_call 91; refine (unhide KT).mono ?_; intro e w2 hm; have HM := hide hm; clear hm; obtain rfl : e = .returned (.bool V) := (unhide HM).choose_spec.1)
  go_ret
  exact unhide HM
set_option maxRecDepth 100000 in
theorem rflag_nil (w : World) : Calls Try.prog 77 #[.pointer none] w (Told w (.bool false)) := by
  have KT := hide (takeF_nil w)
  go_enter Try.func77, Try.ntmps77
  go_wp2_with (go_at_call 91; refine (unhide KT).mono ?_; rintro e w2 ⟨rfl, hb⟩; have HB2 := hide hb; clear hb)
  go_ret
  exact ⟨rfl, unhide HB2⟩
end Go.Proofs.Ytklkacmeopfmhaa
