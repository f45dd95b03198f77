/-
  What the leaves answer: whether a byte may stand in a name; a text cut at its first slash; which of two texts stands ahead.
-/
import Derived.Test.YtdibhedofbnbfaaRows
import Derived.Test.YtdibhedofbnbfaaMath
import Derived.Test.YtdibhedofbnbfaaShelf
import Derived.WalkKit
import Derived.WalkSpells
import Derived.WalkLawsBesides
import Derived.BigQuiet
import Derived.Outline
namespace Go.Proofs.Ytdibhedofbnbfaa
open Go.RowKit

theorem hide {p : Prop} (h : p) : Hid p := h
theorem unhide {p : Prop} (h : Hid p) : p := h
theorem ret_bool {a b : Bool} (h : a = b) : Ending.returned (.bool a) = .returned (.bool b) := by rw [h]

set_option maxRecDepth 100000 in
set_option maxHeartbeats 400000 in
theorem sign_any (c : UInt8) (w : World) :
    Calls Try.prog 38 #[.int .u8 (c.toNat : Int)] w fun e w' => e = .returned (.bool (Pt.sign c)) ∧ w' = w := by
  have hc := c.toNat_lt
  unfold Pt.sign
  generalize c.toNat = x at *
  go_enter Try.func38, Try.ntmps38
  go_wp2
  all_goals go_ret
  all_goals refine ⟨ret_bool (Bool.eq_iff_iff.2 ?_), rfl⟩
  all_goals simp only [Bool.or_eq_true, Bool.and_eq_true, decide_eq_true_eq, beq_iff_eq, true_iff]
  all_goals omega

theorem indexByte_none (c : UInt8) : ∀ l : List UInt8, (∀ x ∈ l, x ≠ c) → Lib.indexByte l c = -1
  | [], _ => rfl
  | b :: l, h => by
    have hb : (b == c) = false := by simpa using h b (List.mem_cons_self ..)
    unfold Lib.indexByte
    rw [hb, indexByte_none c l fun x hx => h x (List.mem_cons_of_mem _ hx)]
    rfl
theorem indexByte_at (c : UInt8) : ∀ p r : List UInt8, (∀ x ∈ p, x ≠ c) → Lib.indexByte (p ++ c :: r) c = (p.length : Int)
  | [], r, _ => by simp [Lib.indexByte]
  | b :: p, r, h => by
    have hb : (b == c) = false := by simpa using h b (List.mem_cons_self ..)
    rw [List.cons_append]
    unfold Lib.indexByte
    rw [hb, indexByte_at c p r fun x hx => h x (List.mem_cons_of_mem _ hx)]
    have : ((p.length : Int) == -1) = false := by simp
    simp [this]

/-- A text, what stands ahead of its first slash, what behind it, and whether there is one. -/
inductive CutAt (s : ByteArray) : ByteArray → ByteArray → Bool → Prop
  | none (h : ∀ x ∈ s.data.toList, x ≠ 47) : CutAt s s ⟨#[]⟩ false
  | some (p r : List UInt8) (h : ∀ x ∈ p, x ≠ 47) (e : s.data.toList = p ++ 47 :: r) : CutAt s (s.extract 0 p.length) (s.extract (p.length + 1) s.size) true

theorem split_at : ∀ l : List UInt8, (∀ x ∈ l, x ≠ 47) ∨ ∃ p r, (∀ x ∈ p, x ≠ 47) ∧ l = p ++ 47 :: r
  | [] => .inl (by intro x hx; cases hx)
  | b :: l => by
    by_cases hb : b = 47
    · exact .inr ⟨[], l, fun x hx => absurd hx List.not_mem_nil, by rw [hb]; rfl⟩
    · rcases split_at l with h | ⟨p, r, h, e⟩
      · refine .inl fun x hx => ?_
        rcases List.mem_cons.1 hx with rfl | hx
        · exact hb
        · exact h x hx
      · refine .inr ⟨b :: p, r, fun x hx => ?_, by rw [e]; rfl⟩
        rcases List.mem_cons.1 hx with rfl | hx
        · exact hb
        · exact h x hx

theorem cut_ex (s : ByteArray) : ∃ P R f, CutAt s P R f := by
  rcases split_at s.data.toList with h | ⟨p, r, h, e⟩
  · exact ⟨_, _, _, .none h⟩
  · exact ⟨_, _, _, .some p r h e⟩

theorem extract_list (s : ByteArray) (a b : Nat) : (s.extract a b).data.toList = (s.data.toList.take b).drop a := by
  rw [ByteArray.data_extract, Array.toList_extract, List.extract_eq_take_drop, List.drop_take]

theorem CutAt.pieces {s P R : ByteArray} {f : Bool} (h : CutAt s P R f) : Pt.pieces s.data.toList = if f = true then P.data.toList :: Pt.pieces R.data.toList else [P.data.toList] := by
  cases h with
  | none h => exact Pt.pieces_none _ h
  | some p r h e =>
    rw [if_pos rfl]
    have hl : s.size = p.length + (r.length + 1) := by
      have := congrArg List.length e
      simpa using this
    have e1 : (s.extract 0 p.length).data.toList = p := by rw [extract_list, e]; simp
    have e2 : (s.extract (p.length + 1) s.size).data.toList = r := by
      rw [extract_list, hl, e, List.take_of_length_le (by simp)]
      simp
    rw [e1, e2, e]
    exact Pt.pieces_cut p r h

theorem CutAt.lt {s P R : ByteArray} {f : Bool} (h : CutAt s P R f) (hf : f = true) : R.size < s.size := by
  cases h with
  | none h => cases hf
  | some p r h e =>
    have hl : s.size = p.length + (r.length + 1) := by
      have := congrArg List.length e
      simpa using this
    rw [ByteArray.size_extract]
    omega

set_option maxRecDepth 100000 in
set_option maxHeartbeats 400000 in
theorem cutLite_any (s P R : ByteArray) (f : Bool) (hc : CutAt s P R f) (hs : s.size ≤ maxLen) (w : World) :
    Calls Try.prog 46 #[.string s, .string ⟨#[47]⟩] w fun e w' => e = .returned (.tuple #[.string P, .string R, .bool f]) ∧ ∃ n, w' = w.drewN n := by
  unfold maxLen at hs
  cases hc with
  | none h =>
    have hi := indexByte_none 47 _ h
    have H := hide (Try.stringslite_Index_one s 47)
    rw [hi] at H
    clear h hi
    go_enter Try.func46, Try.ntmps46
    go_wp2_with (go_at_call 51; refine (unhide H _).mono ?_; rintro e w' ⟨rfl, rfl⟩)
    go_ret3
    exact ⟨rfl, 0, rfl⟩
  | some p r h e =>
    have hl : s.size = p.length + (r.length + 1) := by
      have := congrArg List.length e
      simpa using this
    have hi := indexByte_at 47 p r h
    have H := hide (Try.stringslite_Index_one s 47)
    rw [e, hi] at H
    clear h hi e
    generalize p.length = k at *
    have hk1 : k + 1 ≤ s.size := by omega
    clear hl
    go_enter Try.func46, Try.ntmps46
    go_wp2_with (go_at_call 51; refine (unhide H _).mono ?_; rintro e w' ⟨rfl, rfl⟩)
    go_quiet (fail)
    go_wp2
    go_ret3
    exact ⟨rfl, nq, rfl⟩

set_option maxRecDepth 100000 in
theorem cut_any (s P R : ByteArray) (f : Bool) (hc : CutAt s P R f) (hs : s.size ≤ maxLen) (w : World) :
    Calls Try.prog 36 #[.string s, .string ⟨#[47]⟩] w fun e w' => e = .returned (.tuple #[.string P, .string R, .bool f]) ∧ ∃ n, w' = w.drewN n := by
  have H := hide (cutLite_any s P R f hc hs)
  clear hc
  go_enter Try.func36, Try.ntmps36
  go_wp2_with (go_at_call 46; refine (unhide H _).mono ?_; rintro e w' ⟨rfl, n, rfl⟩)
  go_ret3
  exact ⟨rfl, n, rfl⟩

theorem cmpB_lib : ∀ a b : List UInt8, Lib.compareBytes a b = Pt.cmpB a b
  | [], [] => rfl
  | [], _ :: _ => rfl
  | _ :: _, [] => rfl
  | a :: l, b :: m => by
    have ih := cmpB_lib l m
    show Lib.compareBytes (a :: l) (b :: m) = if Pt.cmp8 a b = 0 then Pt.cmpB l m else Pt.cmp8 a b
    unfold Lib.compareBytes Pt.cmp8
    by_cases h : a < b
    · simp [h]
    · by_cases h' : b < a
      · simp [h, h']
      · simp [h, h', ih]

theorem CutAt.ahead {s P R : ByteArray} {f : Bool} (h : CutAt s P R f) : P.size ≤ s.size ∧ R.size ≤ s.size := by
  cases h with
  | none h => exact ⟨Nat.le_refl _, Nat.zero_le _⟩
  | some p r h e => rw [ByteArray.size_extract, ByteArray.size_extract]; omega

theorem cmpT_step {A B P R Q T : ByteArray} {f g : Bool} (ha : CutAt A P R f) (hb : CutAt B Q T g) :
    Pt.cmpT A.data.toList B.data.toList = if Pt.cmpB P.data.toList Q.data.toList = 0 then (if f = true then (if g = true then Pt.cmpT R.data.toList T.data.toList else 1) else (if g = true then -1 else 0)) else Pt.cmpB P.data.toList Q.data.toList := by
  unfold Pt.cmpT
  rw [ha.pieces, hb.pieces]
  obtain ⟨x, l, hx⟩ := Pt.pieces_cons R.data.toList
  obtain ⟨y, m, hy⟩ := Pt.pieces_cons T.data.toList
  cases f <;> cases g <;> simp only [if_true, if_false, Bool.false_eq_true, Pt.cmpP_cons, hx, hy, Pt.cmpP_nil, Pt.cmpP_nil_cons, Pt.cmpP_cons_nil]

def strLen : Value → Nat
  | .string s => s.size
  | _ => 0

set_option maxRecDepth 100000 in
set_option maxHeartbeats 1000000 in
theorem compare_any (a b : ByteArray) (ha : a.size ≤ maxLen) (hb : b.size ≤ maxLen) (w : World) :
    Calls Try.prog 26 #[.string a, .string b] w fun e w' => e = .returned (.int .i64 (Pt.cmpT a.data.toList b.data.toList)) ∧ ∃ n, w' = w.drewN n := by
  obtain ⟨C, hC⟩ : ∃ C, Pt.cmpT a.data.toList b.data.toList = C := ⟨_, rfl⟩
  rw [hC]
  have HC := hide hC
  have HA := hide ha
  have HB := hide hb
  clear hC ha hb
  go_enter Try.func26, Try.ntmps26
  go_wp2_with fail
  go_loopw [0, 1] (fun x y wr => ∃ A B : ByteArray, x = .string A ∧ y = .string B ∧ A.size ≤ maxLen ∧ B.size ≤ maxLen ∧ Pt.cmpT A.data.toList B.data.toList = C ∧ ∃ q, wr = w.drewN q) (fun x _ _ => strLen x)
  case atStart => exact ⟨a, b, rfl, rfl, unhide HA, unhide HB, unhide HC, 0, rfl⟩
  case round =>
    clear HA HB HC
    obtain ⟨A, B, rfl, rfl, hA, hB, hAB, q, rfl⟩ := hrel
    obtain ⟨P, R, f, ca⟩ := cut_ex A
    obtain ⟨Q, T, g, cb⟩ := cut_ex B
    rw [cmpT_step ca cb] at hAB
    have h1 := hide (cut_any A P R f ca hA)
    have h2 := hide (cut_any B Q T g cb hB)
    have hR : Hid (R.size ≤ maxLen) := hide (Nat.le_trans ca.ahead.2 hA)
    have hT : Hid (T.size ≤ maxLen) := hide (Nat.le_trans cb.ahead.2 hB)
    have hlt : Hid (f = true → R.size < A.size) := hide ca.lt
    have h3 := hide (Try.strings_Compare P Q)
    rw [cmpB_lib] at h3
    clear ca cb hA hB
    by_cases h0 : Pt.cmpB P.data.toList Q.data.toList = 0
    · rw [if_pos h0] at hAB
      rw [h0] at h3
      clear h0
      cases f with
      | false =>
        cases g with
        | false =>
          obtain rfl : (0 : Int) = C := hAB
          go_wp2_with fail
          refine (unhide h1 _).mono ?_
          rintro e w1 ⟨rfl, n1, rfl⟩
          go_wp2_with fail
          refine (unhide h2 _).mono ?_
          rintro e w1 ⟨rfl, n2, rfl⟩
          go_wp2_with (go_at_call 37; refine (unhide h3 _).mono ?_; rintro e w' ⟨rfl, rfl⟩)
          go_ret
          exact ⟨rfl, _, rfl⟩
        | true =>
          obtain rfl : (-1 : Int) = C := hAB
          go_wp2_with fail
          refine (unhide h1 _).mono ?_
          rintro e w1 ⟨rfl, n1, rfl⟩
          go_wp2_with fail
          refine (unhide h2 _).mono ?_
          rintro e w1 ⟨rfl, n2, rfl⟩
          go_wp2_with (go_at_call 37; refine (unhide h3 _).mono ?_; rintro e w' ⟨rfl, rfl⟩)
          go_ret
          exact ⟨rfl, _, rfl⟩
      | true =>
        cases g with
        | false =>
          obtain rfl : (1 : Int) = C := hAB
          go_wp2_with fail
          refine (unhide h1 _).mono ?_
          rintro e w1 ⟨rfl, n1, rfl⟩
          go_wp2_with fail
          refine (unhide h2 _).mono ?_
          rintro e w1 ⟨rfl, n2, rfl⟩
          go_wp2_with (go_at_call 37; refine (unhide h3 _).mono ?_; rintro e w' ⟨rfl, rfl⟩)
          go_ret
          exact ⟨rfl, _, rfl⟩
        | true =>
          have HAB : Hid (Pt.cmpT R.data.toList T.data.toList = C) := hAB
          clear hAB
          go_wp2_with fail
          refine (unhide h1 _).mono ?_
          rintro e w1 ⟨rfl, n1, rfl⟩
          go_wp2_with fail
          refine (unhide h2 _).mono ?_
          rintro e w1 ⟨rfl, n2, rfl⟩
          go_wp2_with (go_at_call 37; refine (unhide h3 _).mono ?_; rintro e w' ⟨rfl, rfl⟩)
          go_roundw
          case rel => exact ⟨R, T, rfl, rfl, unhide hR, unhide hT, unhide HAB, _, rfl⟩
          case measure => simp only [strLen]; exact unhide hlt trivial
    · rw [if_neg h0] at hAB
      rw [hAB] at h3 h0
      have hb0 : (C == 0) = false := by simpa using h0
      clear h0 hAB
      go_wp2_with fail
      refine (unhide h1 _).mono ?_
      rintro e w1 ⟨rfl, n1, rfl⟩
      go_wp2_with fail
      refine (unhide h2 _).mono ?_
      rintro e w1 ⟨rfl, n2, rfl⟩
      go_wp2_with (go_at_call 37; refine (unhide h3 _).mono ?_; rintro e w' ⟨rfl, rfl⟩)
      go_ret
      exact ⟨rfl, _, rfl⟩
end Go.Proofs.Ytdibhedofbnbfaa
