/-
  What the document's Name answers.
-/
import Derived.Test.YtdibhedofbnbfaaRefCmp
namespace Go.Proofs.Ytdibhedofbnbfaa
open Go.RowKit

theorem sign_true (b : UInt8) (h : Pt.sign b = true) : (97 ≤ b.toNat ∧ b.toNat ≤ 122) ∨ (48 ≤ b.toNat ∧ b.toNat ≤ 57) ∨ b.toNat = 46 ∨ b.toNat = 95 ∨ b.toNat = 45 := by
  unfold Pt.sign at h
  simp only [Bool.or_eq_true, Bool.and_eq_true, decide_eq_true_eq] at h
  omega
theorem sign_false (b : UInt8) (h : Pt.sign b = false) : (b.toNat < 97 ∨ 122 < b.toNat) ∧ (b.toNat < 48 ∨ 57 < b.toNat) ∧ b.toNat ≠ 46 ∧ b.toNat ≠ 95 ∧ b.toNat ≠ 45 := by
  have : ¬ Pt.sign b = true := by rw [h]; decide
  unfold Pt.sign at this
  simp only [Bool.or_eq_true, Bool.and_eq_true, decide_eq_true_eq] at this
  omega

set_option maxRecDepth 100000 in
set_option maxHeartbeats 1000000 in
theorem refName_any (s : ByteArray) (hs : s.size ≤ 100000) (w : World) :
    Calls Try.prog 12 #[.string s] w fun e w' => e = .returned (.bool (Pt.isName s.data.toList)) ∧ w' = w := by
  have hsz : s.data.toList.length = s.size := rfl
  obtain ⟨N, hN⟩ : ∃ N, Pt.isName s.data.toList = N := ⟨_, rfl⟩
  rw [hN]
  have HI := hide (Pt.isName_iff s.data.toList)
  rw [hN, hsz] at HI
  have HT := hide (Lib.toList_data s)
  clear hN hsz
  have no : (¬ (N = true)) → N = false := fun h => by cases N with | false => rfl | true => exact absurd rfl h
  by_cases h1 : s.size < 1
  · obtain rfl := no fun h => by have := (unhide HI).1 h; omega
    clear no
    go_enter Try.func12, Try.ntmps12
    go_wp2_with fail
    go_ret
    exact ⟨rfl, rfl⟩
  · by_cases h2 : 12 < s.size
    · obtain rfl := no fun h => by have := (unhide HI).1 h; omega
      clear no
      go_enter Try.func12, Try.ntmps12
      go_wp2_with fail
      go_ret
      exact ⟨rfl, rfl⟩
    · cases h3 : (s.toList == [46]) with
      | true =>
        obtain rfl := no fun h => ((unhide HI).1 h).2.2.1 (by rw [← unhide HT]; exact beq_iff_eq.1 h3)
        clear no
        go_enter Try.func12, Try.ntmps12
        go_wp2_with fail
        go_ret
        exact ⟨rfl, rfl⟩
      | false =>
        cases h4 : (s.toList == [46, 46]) with
        | true =>
          obtain rfl := no fun h => ((unhide HI).1 h).2.2.2.1 (by rw [← unhide HT]; exact beq_iff_eq.1 h4)
          clear no
          go_enter Try.func12, Try.ntmps12
          go_wp2_with fail
          go_ret
          exact ⟨rfl, rfl⟩
        | false =>
          have n3 : s.data.toList ≠ [46] := fun h => by rw [unhide HT, h] at h3; cases h3
          have n4 : s.data.toList ≠ [46, 46] := fun h => by rw [unhide HT, h] at h4; cases h4
          have N3 := hide n3
          have N4 := hide n4
          have NO := hide no
          clear n3 n4 no
          go_enter Try.func12, Try.ntmps12
          go_wp2_with fail
          go_loopw [3] (fun i wr => ∃ k : Nat, k ≤ s.size ∧ i = .int .i64 k ∧ (∀ (j : Nat) (hj : j < s.size), j < k → Pt.sign s[j] = true) ∧ wr = w) (fun i _ => s.size - (intOf i).toNat)
          case atStart => exact ⟨0, Nat.zero_le _, rfl, fun j _ hj => absurd hj (Nat.not_lt_zero _), rfl⟩
          case round =>
            obtain ⟨k, hk, rfl, hall, rfl⟩ := hrel
            have HALL := hide hall
            clear hall
            by_cases hlt : k < s.size
            · cases hsi : Pt.sign s[k] with
              | true =>
                have hx := sign_true _ hsi
                have HALL2 : Hid (∀ (j : Nat) (hj : j < s.size), j < k + 1 → Pt.sign s[j] = true) := by
                  intro j hj hjk
                  by_cases e : j = k
                  · subst e; exact hsi
                  · exact unhide HALL j hj (by omega)
                clear hsi
                rcases hx with ⟨x1, x2⟩ | ⟨x1, x2⟩ | x1 | x1 | x1
                all_goals
                  go_wp2_with fail
                  go_roundw
                  case rel => exact ⟨k + 1, by omega, by go_num, unhide HALL2, by first | rfl | trivial⟩
                  case measure => simp [intOf]; omega
              | false =>
                have hx := sign_false _ hsi
                obtain rfl := unhide NO fun h => by
                  have := ((unhide HI).1 h).2.2.2.2 s[k] (List.getElem_mem (l := s.data.toList) hlt)
                  rw [hsi] at this
                  cases this
                clear hsi
                obtain ⟨x1, x2, x3, x4, x5⟩ := hx
                have y3 : ((s[k].toNat : Int) != 46) = true := by rw [bne_iff_ne]; omega
                have y4 : ((s[k].toNat : Int) != 95) = true := by rw [bne_iff_ne]; omega
                have y5 : ((s[k].toNat : Int) != 45) = true := by rw [bne_iff_ne]; omega
                have z : s[k].toNat < 48 ∨ (57 < s[k].toNat ∧ s[k].toNat < 97) ∨ 122 < s[k].toNat := by omega
                clear x1 x2 x3 x4 x5
                rcases z with z | ⟨z, z2⟩ | z
                all_goals
                  go_wp2_with fail
                  go_ret
                  exact ⟨rfl, rfl⟩
            · obtain rfl : k = s.size := by omega
              obtain rfl : N = true := (unhide HI).2 ⟨by omega, by omega, unhide N3, unhide N4, fun x hx => by
                obtain ⟨j, hj, rfl⟩ := List.mem_iff_getElem.1 hx
                exact unhide HALL j hj hj⟩
              go_wp2_with fail
              go_ret
              exact ⟨rfl, rfl⟩
end Go.Proofs.Ytdibhedofbnbfaa
