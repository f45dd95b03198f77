/-
  What Up and Last answer: the directory in which a path is, and its last name.
-/
import Derived.Test.YtdibhedofbnbfaaJoin
import Derived.Test.YtdibhedofbnbfaaUnder
namespace Go.Proofs.Ytdibhedofbnbfaa
open Go.RowKit

theorem bang_get (s : ByteArray) (j : Nat) (h : j < s.size) : s.data[j]! = s[j] := getElem!_pos s.data j h

theorem none_slash (s : ByteArray) (h : ∀ j, j < s.size → ((s.data[j]!).toNat : Int) ≠ 47) : ∀ x ∈ s.data.toList, x ≠ 47 := by
  intro x hx e
  obtain ⟨j, hj, rfl⟩ := List.mem_iff_getElem.1 hx
  have hj' : j < s.size := hj
  refine h j hj' ?_
  rw [bang_get s j hj']
  have : s[j] = 47 := e
  rw [this]
  rfl

theorem cut_slash (s : ByteArray) (i : Nat) (hi : i < s.size) (h47 : ((s.data[i]!).toNat : Int) = 47) (h : ∀ j, i < j → j < s.size → ((s.data[j]!).toNat : Int) ≠ 47) :
    s.data.toList = (s.extract 0 i).data.toList ++ 47 :: (s.extract (i + 1) s.size).data.toList ∧ ∀ x ∈ (s.extract (i + 1) s.size).data.toList, x ≠ 47 := by
  have hl : s.data.toList.length = s.size := rfl
  have e1 : (s.extract 0 i).data.toList = s.data.toList.take i := by rw [extract_list, List.drop_zero]
  have e2 : (s.extract (i + 1) s.size).data.toList = s.data.toList.drop (i + 1) := by rw [extract_list, List.take_of_length_le (by omega)]
  rw [bang_get s i hi] at h47
  have h8 : s[i] = 47 := UInt8.toNat_inj.1 (by show s[i].toNat = 47; omega)
  refine ⟨?_, ?_⟩
  · rw [e1, e2]
    conv => lhs; rw [← List.take_append_drop i s.data.toList]
    rw [List.drop_eq_getElem_cons (by omega)]
    have : s.data.toList[i] = 47 := h8
    rw [this]
  · rw [e2]
    intro x hx e
    obtain ⟨j, hj, rfl⟩ := List.mem_iff_getElem.1 hx
    rw [List.length_drop] at hj
    rw [List.getElem_drop] at e
    refine h (i + 1 + j) (by omega) (by omega) ?_
    rw [bang_get s (i + 1 + j) (by omega)]
    have : s[i + 1 + j] = 47 := e
    rw [this]
    rfl

theorem ret_str {a b : ByteArray} (h : a = b) : Ending.returned (.string a) = .returned (.string b) := by rw [h]
theorem one_of : (⟨#[47]⟩ : ByteArray).size = 1 := rfl

set_option maxRecDepth 100000 in
set_option maxHeartbeats 1000000 in
theorem up_any (s : ByteArray) (hs : s.size ≤ 100000) (U : ByteArray) (hU : U.data.toList = Pt.up s.data.toList) (w : World) :
    Calls Try.prog 20 #[.string s] w fun e w' => e = .returned (.string U) ∧ Below w.heap.size w w' := by
  have K1 := hide (isPath_any s hs)
  have K2 := hide (Try.strings_LastIndex_one s ⟨#[47]⟩ one_of (by omega))
  have e47 : (((⟨#[47]⟩ : ByteArray)[0]'(by decide)).toNat : Int) = 47 := rfl
  rw [e47] at K2
  unfold Pt.up at hU
  cases hp : Pt.isPath s.data.toList with
  | false =>
    rw [hp, if_neg (by decide)] at hU
    obtain rfl : U = ⟨#[]⟩ := data_inj _ _ hU
    rw [hp] at K1
    clear hp hU K2 e47
    go_enter Try.func20, Try.ntmps20
    go_wp2_with (go_at_call 29; refine (unhide K1 _).mono ?_; rintro e w1 ⟨rfl, hb1⟩; have HB1 := hide hb1; clear hb1)
    go_ret
    exact ⟨rfl, unhide HB1⟩
  | true =>
    rw [hp, if_pos rfl] at hU
    rw [hp] at K1
    clear hp e47
    rcases Lib.lastIndexByte_spec s 47 with ⟨e, hn⟩ | ⟨i, hi, e, h47, hn⟩
    · rw [(Pt.one_up _ (none_slash s hn)).1] at hU
      have HU : Hid (ByteArray.empty = U) := hide (data_inj _ _ hU.symm)
      rw [e] at K2
      have hmax : ∀ w : World, (Builtin.max_ #[3, 3] 3 #[.int .i64 0, .int .i64 (-1)]).run Try.prog w = .ok (.int .i64 0) w := by intro w; rfl
      clear e hn hU
      go_enter Try.func20, Try.ntmps20
      go_wp2_with (first
        | (go_at_call 29; refine (unhide K1 _).mono ?_; rintro e w1 ⟨rfl, hb1⟩; have HB1 := hide hb1; clear hb1)
        | (go_at_call 33; refine (unhide K2 _).mono ?_; rintro e w2 ⟨rfl, rfl⟩))
      go_ret
      exact ⟨ret_str (unhide HU), unhide HB1⟩
    · obtain ⟨hcut, hno⟩ := cut_slash s i hi h47 hn
      rw [hcut, (Pt.more_up _ _ hno).1] at hU
      have HU : Hid (s.extract 0 i = U) := hide (data_inj _ _ hU.symm)
      rw [e] at K2
      have hmax : ∀ w : World, (Builtin.max_ #[3, 3] 3 #[.int .i64 0, .int .i64 (i : Int)]).run Try.prog w = .ok (.int .i64 (i : Int)) w := by
        intro w
        simp [Builtin.max_, Builtin.max2]
        omega
      clear e hn hU hcut hno h47
      go_enter Try.func20, Try.ntmps20
      go_wp2_with (first
        | (go_at_call 29; refine (unhide K1 _).mono ?_; rintro e w1 ⟨rfl, hb1⟩; have HB1 := hide hb1; clear hb1)
        | (go_at_call 33; refine (unhide K2 _).mono ?_; rintro e w2 ⟨rfl, rfl⟩))
      go_ret
      exact ⟨ret_str (unhide HU), unhide HB1⟩

set_option maxRecDepth 100000 in
set_option maxHeartbeats 1000000 in
theorem last_any (s : ByteArray) (hs : s.size ≤ 100000) (U : ByteArray) (hU : U.data.toList = Pt.last s.data.toList) (w : World) :
    Calls Try.prog 22 #[.string s] w fun e w' => e = .returned (.string U) ∧ Below w.heap.size w w' := by
  have K1 := hide (isPath_any s hs)
  have K2 := hide (Try.strings_LastIndex_one s ⟨#[47]⟩ one_of (by omega))
  have e47 : (((⟨#[47]⟩ : ByteArray)[0]'(by decide)).toNat : Int) = 47 := rfl
  rw [e47] at K2
  unfold Pt.last at hU
  cases hp : Pt.isPath s.data.toList with
  | false =>
    rw [hp, if_neg (by decide)] at hU
    obtain rfl : U = ⟨#[]⟩ := data_inj _ _ hU
    rw [hp] at K1
    clear hp hU K2 e47
    go_enter Try.func22, Try.ntmps22
    go_wp2_with (go_at_call 29; refine (unhide K1 _).mono ?_; rintro e w1 ⟨rfl, hb1⟩; have HB1 := hide hb1; clear hb1)
    go_ret
    exact ⟨rfl, unhide HB1⟩
  | true =>
    rw [hp, if_pos rfl] at hU
    rw [hp] at K1
    clear hp e47
    rcases Lib.lastIndexByte_spec s 47 with ⟨e, hn⟩ | ⟨i, hi, e, h47, hn⟩
    · rw [(Pt.one_up _ (none_slash s hn)).2] at hU
      have HU : Hid (s = U) := hide (data_inj _ _ hU.symm)
      rw [e] at K2
      clear e hn hU
      go_enter Try.func22, Try.ntmps22
      go_wp2_with (first
        | (go_at_call 29; refine (unhide K1 _).mono ?_; rintro e w1 ⟨rfl, hb1⟩; have HB1 := hide hb1; clear hb1)
        | (go_at_call 33; refine (unhide K2 _).mono ?_; rintro e w2 ⟨rfl, rfl⟩))
      go_ret
      exact ⟨ret_str (unhide HU), unhide HB1⟩
    · obtain ⟨hcut, hno⟩ := cut_slash s i hi h47 hn
      rw [hcut, (Pt.more_up _ _ hno).2] at hU
      have HU : Hid (s.extract (i + 1) s.size = U) := hide (data_inj _ _ hU.symm)
      rw [e] at K2
      clear e hn hU hcut hno h47
      go_enter Try.func22, Try.ntmps22
      go_wp2_with (first
        | (go_at_call 29; refine (unhide K1 _).mono ?_; rintro e w1 ⟨rfl, hb1⟩; have HB1 := hide hb1; clear hb1)
        | (go_at_call 33; refine (unhide K2 _).mono ?_; rintro e w2 ⟨rfl, rfl⟩))
      go_ret
      exact ⟨ret_str (unhide HU), unhide HB1⟩
end Go.Proofs.Ytdibhedofbnbfaa
