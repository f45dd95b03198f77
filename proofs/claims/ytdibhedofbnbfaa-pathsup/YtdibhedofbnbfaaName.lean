/-
  What Name, isPath, Check and long answer, and that chapter 4's examples hold.
-/
import Derived.Test.YtdibhedofbnbfaaSplit
namespace Go.Proofs.Ytdibhedofbnbfaa
open Go.RowKit

theorem below_grow {n : Nat} {w w1 w2 : World} (h : Below n w w1) (hn : n ≤ w.heap.size) (h2 : Below w1.heap.size w1 w2) : Below n w w2 := h.trans (h2.mono (Nat.le_trans hn h.size))

set_option maxRecDepth 100000 in
set_option maxHeartbeats 1000000 in
theorem name_any (s : ByteArray) (hs : s.size ≤ 100000) (w : World) :
    Calls Try.prog 11 #[.string s] w fun e w' => e = .returned (.bool (Pt.isName s.data.toList)) ∧ Below w.heap.size w w' := by
  have HC := hide (split_any s hs)
  have HN := hide (Pt.parts_one s.data.toList)
  have hP4 := Pt.parts_le s.data.toList
  obtain ⟨PS, hPS⟩ : ∃ PS, Pt.parts s.data.toList = PS := ⟨_, rfl⟩
  rw [hPS] at HC HN hP4
  have HL := hide (row4_len PS hP4)
  have H1 := hide (row4_one PS)
  generalize row4 PS = R at HC HL H1
  clear hPS hs
  go_enter Try.func11, Try.ntmps11
  go_wp2_with (first
    | (go_at_call 28; refine (unhide HC _).mono ?_; rintro e w1 ⟨rfl, hb1⟩; have HB1 := hide hb1; clear hb1)
    | (refine store_row (by rfl) 38 _ _ (by rfl) w1.heap.size R (by rfl) (by rfl) 38 (row4 []) (VRow.newAt rfl) 4 size38 (unhide HL) rfl (unhide H1) ?_; intro w2 ho2 hr2; have HB2 := hide (((unhide HB1).alloc (unhide HB1).size _).trans (ho2.below (unhide HB1).size)); clear ho2 hr2))
  go_ret
  refine ⟨ret_bool ?_, unhide HB2⟩
  rw [← unhide HN, Bool.eq_iff_iff, beq_iff_eq, decide_eq_true_eq]
  omega

set_option maxRecDepth 100000 in
set_option maxHeartbeats 1000000 in
theorem isPath_any (s : ByteArray) (hs : s.size ≤ 100000) (w : World) :
    Calls Try.prog 29 #[.string s] w fun e w' => e = .returned (.bool (Pt.isPath s.data.toList)) ∧ Below w.heap.size w w' := by
  have HC := hide (split_any s hs)
  have HN := hide (Pt.parts_pos s.data.toList)
  have hP4 := Pt.parts_le s.data.toList
  obtain ⟨PS, hPS⟩ : ∃ PS, Pt.parts s.data.toList = PS := ⟨_, rfl⟩
  rw [hPS] at HC HN hP4
  have HL := hide (row4_len PS hP4)
  have H1 := hide (row4_one PS)
  generalize row4 PS = R at HC HL H1
  clear hPS hs
  go_enter Try.func29, Try.ntmps29
  go_wp2_with (first
    | (go_at_call 28; refine (unhide HC _).mono ?_; rintro e w1 ⟨rfl, hb1⟩; have HB1 := hide hb1; clear hb1)
    | (refine store_row (by rfl) 38 _ _ (by rfl) w1.heap.size R (by rfl) (by rfl) 38 (row4 []) (VRow.newAt rfl) 4 size38 (unhide HL) rfl (unhide H1) ?_; intro w2 ho2 hr2; have HB2 := hide (((unhide HB1).alloc (unhide HB1).size _).trans (ho2.below (unhide HB1).size)); clear ho2 hr2))
  go_ret
  refine ⟨ret_bool ?_, unhide HB2⟩
  rw [← unhide HN]

set_option maxRecDepth 100000 in
set_option maxHeartbeats 400000 in
theorem check_any (s : ByteArray) (hs : s.size ≤ 100000) (w : World) :
    Calls Try.prog 13 #[.string s] w fun e w' => e = .returned (.int .i64 (Pt.check s.data.toList)) ∧ Below w.heap.size w w' := by
  have HC := hide (isPath_any s hs)
  have hsz : s.data.toList.length = s.size := rfl
  unfold Pt.check
  rw [hsz]
  by_cases h51 : 51 < s.size
  · rw [if_pos h51]
    clear hsz
    go_enter Try.func13, Try.ntmps13
    go_wp2_with fail
    go_ret
    exact ⟨rfl, Below.refl _ _⟩
  · rw [if_neg h51]
    cases hp : Pt.isPath s.data.toList with
    | true =>
      rw [hp] at HC
      rw [if_pos rfl]
      clear hsz hp
      go_enter Try.func13, Try.ntmps13
      go_wp2_with (go_at_call 29; refine (unhide HC _).mono ?_; rintro e w1 ⟨rfl, hb1⟩; have HB1 := hide hb1; clear hb1)
      go_ret
      exact ⟨rfl, unhide HB1⟩
    | false =>
      rw [hp] at HC
      rw [if_neg (by decide)]
      clear hsz hp
      go_enter Try.func13, Try.ntmps13
      go_wp2_with (go_at_call 29; refine (unhide HC _).mono ?_; rintro e w1 ⟨rfl, hb1⟩; have HB1 := hide hb1; clear hb1)
      go_ret
      exact ⟨rfl, unhide HB1⟩

set_option maxRecDepth 100000 in
set_option maxHeartbeats 1000000 in
theorem awake_any (w : World) : Calls Try.prog 10 #[] w fun e w' => e = .returned (.bool true) ∧ Below w.heap.size w w' := by
  have c1 : Pt.check [97, 47, 98, 46, 99] = 0 := by decide
  have c2 : Pt.check [97, 47, 47, 98] = 1 := by decide
  have c3 : Pt.check [97, 47, 46, 46] = 1 := by decide
  have c4 : Pt.cmpT [97, 47, 98] [97, 45, 98] = -1 := by decide
  have c5 : Pt.isName [120, 95, 49] = true := by decide
  have h1 := check_any ⟨#[97, 47, 98, 46, 99]⟩ (by decide)
  rw [c1] at h1
  have h2 := check_any ⟨#[97, 47, 47, 98]⟩ (by decide)
  rw [c2] at h2
  have h3 := check_any ⟨#[97, 47, 46, 46]⟩ (by decide)
  rw [c3] at h3
  have h4 := compare_any ⟨#[97, 47, 98]⟩ ⟨#[97, 45, 98]⟩ (by decide) (by decide)
  rw [c4] at h4
  have h5 := name_any ⟨#[120, 95, 49]⟩ (by decide)
  rw [c5] at h5
  have H1 := hide h1
  have H2 := hide h2
  have H3 := hide h3
  have H4 := hide h4
  have H5 := hide h5
  clear h1 h2 h3 h4 h5 c1 c2 c3 c4 c5
  go_enter Try.func10, Try.ntmps10
  go_wp2_with fail
  refine (unhide H1 _).mono ?_
  rintro e w1 ⟨rfl, hb1⟩
  have HB1 := hide hb1
  clear hb1
  go_wp2_with fail
  refine (unhide H2 _).mono ?_
  rintro e w2 ⟨rfl, hb2⟩
  have HB2 := hide (below_grow (unhide HB1) (Nat.le_refl _) hb2)
  clear hb2
  go_wp2_with fail
  refine (unhide H3 _).mono ?_
  rintro e w3 ⟨rfl, hb3⟩
  have HB3 := hide (below_grow (unhide HB2) (Nat.le_refl _) hb3)
  clear hb3
  go_wp2_with fail
  refine (unhide H4 _).mono ?_
  rintro e w4 ⟨rfl, n4, rfl⟩
  go_wp2_with fail
  refine (unhide H5 _).mono ?_
  rintro e w5 ⟨rfl, hb5⟩
  have HB5 := hide (below_grow (below_drewN (unhide HB3) n4) (Nat.le_refl _) hb5)
  clear hb5
  go_wp2_with fail
  go_ret
  exact ⟨rfl, unhide HB5⟩

set_option maxRecDepth 100000 in
set_option maxHeartbeats 1000000 in
theorem long_any (b off cap : Nat) (ss : List ByteArray) (a : Option Addr) (ha : 0 < ss.length → a = some ⟨b, off, none⟩) (hl : ss.length ≤ maxLen) (w : World)
    (hc : ∀ (i : Nat) (x : ByteArray), ss[i]? = some x → w.cell? ⟨b, off + i, none⟩ = some (.string x)) (L : Bool) (hL : L = ss.any fun x => decide (400 < x.size)) :
    Calls Try.prog 9 #[.slice a ss.length cap] w fun e w' => e = .returned (.bool L) ∧ w' = w := by
  unfold maxLen at hl
  have HC := hide hc
  have HL := hide hL
  have HA := hide ha
  clear hc hL ha
  go_enter Try.func9, Try.ntmps9
  go_wp2_with fail
  go_loopw [3] (fun i wr => ∃ k : Nat, k ≤ ss.length ∧ i = .int .i64 k ∧ (∀ (j : Nat) (x : ByteArray), j < k → ss[j]? = some x → x.size ≤ 400) ∧ wr = w) (fun i _ => ss.length - (intOf i).toNat)
  case atStart => exact ⟨0, Nat.zero_le _, rfl, fun j _ hj => absurd hj (Nat.not_lt_zero _), rfl⟩
  case round =>
    obtain ⟨k, hk, rfl, hall, rfl⟩ := hrel
    have HALL := hide hall
    clear hall
    by_cases hlt : k < ss.length
    · obtain ⟨x, hx⟩ : ∃ x, ss[k]? = some x := ⟨_, List.getElem?_eq_getElem hlt⟩
      have hcell := unhide HC k x hx
      obtain rfl := unhide HA (by omega)
      by_cases hbig : 400 < x.size
      · obtain rfl : L = true := by
          rw [unhide HL, List.any_eq_true]
          exact ⟨x, List.mem_of_getElem? hx, decide_eq_true hbig⟩
        clear hx
        go_wp2_with fail
        go_ret
        exact ⟨rfl, rfl⟩
      · have HALL2 : Hid (∀ (j : Nat) (x : ByteArray), j < k + 1 → ss[j]? = some x → x.size ≤ 400) := by
          intro j y hj hy
          by_cases e : j = k
          · subst e
            rw [hx] at hy
            cases hy
            omega
          · exact unhide HALL j y (by omega) hy
        clear hx
        go_wp2_with fail
        go_roundw
        case rel => exact ⟨k + 1, by omega, by go_num, unhide HALL2, by first | rfl | trivial⟩
        case measure => simp [intOf]; omega
    · obtain rfl : L = false := by
        rw [unhide HL, List.any_eq_false]
        intro x hx
        obtain ⟨j, hj⟩ := List.mem_iff_getElem?.1 hx
        have := unhide HALL j x (by have := (List.getElem?_eq_some_iff.1 hj).1; omega) hj
        rw [decide_eq_true_eq]
        omega
      go_wp2_with fail
      go_ret
      exact ⟨rfl, rfl⟩
end Go.Proofs.Ytdibhedofbnbfaa
