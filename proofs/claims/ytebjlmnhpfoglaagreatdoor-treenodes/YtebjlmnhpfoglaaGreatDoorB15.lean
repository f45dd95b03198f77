/-
  The library's functions on strings that package paths calls, at this program: each is the library's own contract, applied to this program's numbers (no walk of their text). Conditions: those that each theorem names.
-/
import Derived.Shelf.Small.Strs
import Derived.Shelf.Small.Wraps
import Derived.Shelf.Strings.Search1
import Derived.Shelf.Strings.Search2
import Derived.Shelf.Strings.LastIndex
import Derived.Shelf.Strings.Prefix
import Derived.Test.YtebjlmnhpfoglaaGreatDoorProg
import Derived.Test.YtebjlmnhpfoglaaGreatDoorB12
import Derived.WalkKit
import Derived.WalkSpells
import Derived.WalkLawsBesides
import Derived.BigQuiet
import Derived.Outline
import Derived.Test.YtebjlmnhpfoglaaGreatDoorB14
import Derived.Lib.AppendZeros
import Derived.Test.YtebjlmnhpfoglaaGreatDoorB04
import Derived.Deep.RegionHeld3
namespace Go.Proofs
open Go.Shelf
def Tryz.lays106_ren : Go.Shelf.Ren := ⟨fun | 106 => 102 | 213 => 124 | 265 => 141 | n => n, fun | 9 => 9 | 3 => 3 | n => n, fun | n => n⟩
theorem Tryz.lays106 : Go.Proofs.Lays.n106 Tryz.prog Tryz.lays106_ren := {
  mixed := by kernel_rfl
  f106 := Tryz.func102.trans (congrArg some (by kernel_rfl))
  f213 := Tryz.func124.trans (congrArg some (by kernel_rfl))
  f265 := Tryz.func141.trans (congrArg some (by kernel_rfl))
  t3 := Tryz.underlying3
  a3 := Tryz.isAgg3
  z3 := Tryz.sizeOf3
  v3 := Tryz.zeroValue3
  t9 := Tryz.underlying9
  a9 := Tryz.isAgg9
  z9 := Tryz.sizeOf9
  v9 := Tryz.zeroValue9 }
open Go.RowKit in
theorem Tryz.strings_Compare (a b : ByteArray) (w : World) :
    Calls Tryz.prog 102 #[.string a, .string b] w fun e w' => e = .returned (.int .i64 (Lib.compareBytes a.data.toList b.data.toList)) ∧ w' = w := Any.strings_Compare Tryz.lays106 a b w
def Tryz.lays103_ren : Go.Shelf.Ren := ⟨fun | 103 => 109 | 210 => 134 | 206 => 135 | n => n, fun | 9 => 9 | 4 => 4 | 24 => 140 | 3 => 3 | n => n, fun | n => n⟩
theorem Tryz.lays103 : Go.Proofs.Lays.n103 Tryz.prog Tryz.lays103_ren := {
  mixed := by kernel_rfl
  f103 := Tryz.func109.trans (congrArg some (by kernel_rfl))
  f206 := Tryz.func135.trans (congrArg some (by kernel_rfl))
  f210 := Tryz.func134.trans (congrArg some (by kernel_rfl))
  t3 := Tryz.underlying3
  a3 := Tryz.isAgg3
  z3 := Tryz.sizeOf3
  v3 := Tryz.zeroValue3
  t4 := Tryz.underlying4
  a4 := Tryz.isAgg4
  z4 := Tryz.sizeOf4
  v4 := Tryz.zeroValue4
  t9 := Tryz.underlying9
  a9 := Tryz.isAgg9
  z9 := Tryz.sizeOf9
  v9 := Tryz.zeroValue9
  t24 := Tryz.underlying140
  a24 := Tryz.isAgg140
  z24 := Tryz.sizeOf140
  v24 := Tryz.zeroValue140 }
open Go.RowKit in
theorem Tryz.strings_CutPrefix (s p : ByteArray) (w : World) :
    Calls Tryz.prog 109 #[.string s, .string p] w fun e w' => e = .returned (.tuple #[.string ⟨(Lib.trimPrefix s.data.toList p.data.toList).toArray⟩, .bool (Lib.hasPrefix s.data.toList p.data.toList)]) ∧ w' = w := Any.strings_CutPrefix Tryz.lays103 s p w
def Tryz.lays219_ren : Go.Shelf.Ren := ⟨fun | 219 => 140 | 217 => 161 | 225 => 162 | 224 => 163 | 267 => 164 | 266 => 174 | 314 => 175 | n => n, fun | 9 => 9 | 3 => 3 | 4 => 4 | 5 => 5 | 46 => 99 | 146 => 171 | 51 => 94 | n => n, fun | 1 => 1 | n => n⟩
theorem Tryz.lays219 : Go.Proofs.Lays.n219 Tryz.prog Tryz.lays219_ren := {
  mixed := by kernel_rfl
  f217 := Tryz.func161.trans (congrArg some (by kernel_rfl))
  f219 := Tryz.func140.trans (congrArg some (by kernel_rfl))
  f224 := Tryz.func163.trans (congrArg some (by kernel_rfl))
  f225 := Tryz.func162.trans (congrArg some (by kernel_rfl))
  f266 := Tryz.func174.trans (congrArg some (by kernel_rfl))
  f267 := Tryz.func164.trans (congrArg some (by kernel_rfl))
  f314 := Tryz.func175.trans (congrArg some (by kernel_rfl))
  t3 := Tryz.underlying3
  a3 := Tryz.isAgg3
  z3 := Tryz.sizeOf3
  v3 := Tryz.zeroValue3
  t4 := Tryz.underlying4
  a4 := Tryz.isAgg4
  z4 := Tryz.sizeOf4
  v4 := Tryz.zeroValue4
  t5 := Tryz.underlying5
  a5 := Tryz.isAgg5
  z5 := Tryz.sizeOf5
  v5 := Tryz.zeroValue5
  t9 := Tryz.underlying9
  a9 := Tryz.isAgg9
  z9 := Tryz.sizeOf9
  v9 := Tryz.zeroValue9
  t46 := Tryz.underlying99
  a46 := Tryz.isAgg99
  z46 := Tryz.sizeOf99
  v46 := Tryz.zeroValue99
  t51 := Tryz.underlying94
  a51 := Tryz.isAgg94
  z51 := Tryz.sizeOf94
  v51 := Tryz.zeroValue94
  t146 := Tryz.underlying171
  a146 := Tryz.isAgg171
  z146 := Tryz.sizeOf171
  v146 := Tryz.zeroValue171
  g1 := by kernel_rfl }
open Go.RowKit Go.Lib in
theorem Tryz.stringslite_Index_one (s : ByteArray) (c : UInt8) (w : World) :
    Calls Tryz.prog 140 #[.string s, .string ⟨#[c]⟩] w fun e w' => e = .returned (.int .i64 (Lib.indexByte s.data.toList c)) ∧ w' = w := Any.stringslite_Index_one Tryz.lays219 s c w
def Tryz.lays148_ren : Go.Shelf.Ren := ⟨fun | 148 => 113 | 222 => 136 | 223 => 137 | 269 => 158 | n => n, fun | 9 => 9 | 3 => 3 | 4 => 4 | 5 => 5 | 146 => 171 | 51 => 94 | 46 => 99 | n => n, fun | n => n⟩
theorem Tryz.lays148 : Go.Proofs.Lays.n148 Tryz.prog Tryz.lays148_ren := {
  mixed := by kernel_rfl
  f148 := Tryz.func113.trans (congrArg some (by kernel_rfl))
  f222 := Tryz.func136.trans (congrArg some (by kernel_rfl))
  f223 := Tryz.func137.trans (congrArg some (by kernel_rfl))
  f269 := Tryz.func158.trans (congrArg some (by kernel_rfl))
  t3 := Tryz.underlying3
  a3 := Tryz.isAgg3
  z3 := Tryz.sizeOf3
  v3 := Tryz.zeroValue3
  t4 := Tryz.underlying4
  a4 := Tryz.isAgg4
  z4 := Tryz.sizeOf4
  v4 := Tryz.zeroValue4
  t5 := Tryz.underlying5
  a5 := Tryz.isAgg5
  z5 := Tryz.sizeOf5
  v5 := Tryz.zeroValue5
  t9 := Tryz.underlying9
  a9 := Tryz.isAgg9
  z9 := Tryz.sizeOf9
  v9 := Tryz.zeroValue9
  t46 := Tryz.underlying99
  a46 := Tryz.isAgg99
  z46 := Tryz.sizeOf99
  v46 := Tryz.zeroValue99
  t51 := Tryz.underlying94
  a51 := Tryz.isAgg94
  z51 := Tryz.sizeOf94
  v51 := Tryz.zeroValue94
  t146 := Tryz.underlying171
  a146 := Tryz.isAgg171
  z146 := Tryz.sizeOf171
  v146 := Tryz.zeroValue171 }
open Go.RowKit Go.Lib in
theorem Tryz.strings_LastIndex_one (s sub : ByteArray) (h1 : sub.size = 1) (hs : s.size < 4611686018427387904) (w : World) :
    Calls Tryz.prog 113 #[.string s, .string sub] w fun e w' => e = .returned (.int .i64 (Lib.lastIndexByte s ((sub[0]'(by omega)).toNat : Int))) ∧ w' = w := Any.strings_LastIndex_one Tryz.lays148 s sub h1 hs w
def Tryz.lays99_ren : Go.Shelf.Ren := ⟨fun | 99 => 110 | 206 => 135 | n => n, fun | 9 => 9 | 4 => 4 | 3 => 3 | n => n, fun | n => n⟩
theorem Tryz.lays99 : Go.Proofs.Lays.n99 Tryz.prog Tryz.lays99_ren := {
  mixed := by kernel_rfl
  f99 := Tryz.func110.trans (congrArg some (by kernel_rfl))
  f206 := Tryz.func135.trans (congrArg some (by kernel_rfl))
  t3 := Tryz.underlying3
  a3 := Tryz.isAgg3
  z3 := Tryz.sizeOf3
  v3 := Tryz.zeroValue3
  t4 := Tryz.underlying4
  a4 := Tryz.isAgg4
  z4 := Tryz.sizeOf4
  v4 := Tryz.zeroValue4
  t9 := Tryz.underlying9
  a9 := Tryz.isAgg9
  z9 := Tryz.sizeOf9
  v9 := Tryz.zeroValue9 }
open Go.RowKit Go.Lib in
theorem Tryz.strings_HasPrefix (s p : ByteArray) (w : World) :
    Calls Tryz.prog 110 #[.string s, .string p] w fun e w' => e = .returned (.bool (Lib.hasPrefix s.data.toList p.data.toList)) ∧ w' = w := Any.strings_HasPrefix Tryz.lays99 s p w
end Go.Proofs

/-
  What the leaves answer: whether a byte may stand in a name; a text cut at its first slash; which of two texts stands ahead.
-/

namespace Go.Proofs.YtebjlmnhpfoglaaGreatDoor.Pth
open Go.RowKit

theorem indexByte_none (c : UInt8) : ∀ l : List UInt8, (∀ x ∈ l, x ≠ c) → Lib.indexByte l c = -1
  | [], _ => rfl
  | b :: l, h => by
    have hb : (b == c) = false := by simpa using h b (List.mem_cons_self ..)
    unfold Lib.indexByte
    rw [hb, indexByte_none c l fun x hx => h x (List.mem_cons_of_mem _ hx)]
    rfl
theorem indexByte_at (c : UInt8) : ∀ p r : List UInt8, (∀ x ∈ p, x ≠ c) → Lib.indexByte (p ++ c :: r) c = (p.length : Int)
  | [], r, _ => by simp [Lib.indexByte]
  | b :: p, r, h => by
    have hb : (b == c) = false := by simpa using h b (List.mem_cons_self ..)
    rw [List.cons_append]
    unfold Lib.indexByte
    rw [hb, indexByte_at c p r fun x hx => h x (List.mem_cons_of_mem _ hx)]
    have : ((p.length : Int) == -1) = false := by simp
    simp [this]

theorem split_at : ∀ l : List UInt8, (∀ x ∈ l, x ≠ 47) ∨ ∃ p r, (∀ x ∈ p, x ≠ 47) ∧ l = p ++ 47 :: r
  | [] => .inl (by intro x hx; cases hx)
  | b :: l => by
    by_cases hb : b = 47
    · exact .inr ⟨[], l, fun x hx => absurd hx List.not_mem_nil, by rw [hb]; rfl⟩
    · rcases split_at l with h | ⟨p, r, h, e⟩
      · refine .inl fun x hx => ?_
        rcases List.mem_cons.1 hx with rfl | hx
        · exact hb
        · exact h x hx
      · refine .inr ⟨b :: p, r, fun x hx => ?_, by rw [e]; rfl⟩
        rcases List.mem_cons.1 hx with rfl | hx
        · exact hb
        · exact h x hx

theorem cut_ex (s : ByteArray) : ∃ P R f, CutAt s P R f := by
  rcases split_at s.data.toList with h | ⟨p, r, h, e⟩
  · exact ⟨_, _, _, .none h⟩
  · exact ⟨_, _, _, .some p r h e⟩

theorem CutAt.pieces {s P R : ByteArray} {f : Bool} (h : CutAt s P R f) : Pt.pieces s.data.toList = if f = true then P.data.toList :: Pt.pieces R.data.toList else [P.data.toList] := by
  cases h with
  | none h => exact Pt.pieces_none _ h
  | some p r h e =>
    rw [if_pos rfl]
    have hl : s.size = p.length + (r.length + 1) := by
      have := congrArg List.length e
      simpa using this
    have e1 : (s.extract 0 p.length).data.toList = p := by rw [extract_list, e]; simp
    have e2 : (s.extract (p.length + 1) s.size).data.toList = r := by
      rw [extract_list, hl, e, List.take_of_length_le (by simp)]
      simp
    rw [e1, e2, e]
    exact Pt.pieces_cut p r h

theorem CutAt.lt {s P R : ByteArray} {f : Bool} (h : CutAt s P R f) (hf : f = true) : R.size < s.size := by
  cases h with
  | none h => cases hf
  | some p r h e =>
    have hl : s.size = p.length + (r.length + 1) := by
      have := congrArg List.length e
      simpa using this
    rw [ByteArray.size_extract]
    omega

set_option maxRecDepth 100000 in
set_option maxHeartbeats 400000 in
theorem cutLite_any (s P R : ByteArray) (f : Bool) (hc : CutAt s P R f) (hs : s.size ≤ maxLen) (w : World) :
    Calls Tryz.prog 123 #[.string s, .string ⟨#[47]⟩] w fun e w' => e = .returned (.tuple #[.string P, .string R, .bool f]) ∧ ∃ n, w' = w.drewN n := by
  unfold maxLen at hs
  cases hc with
  | none h =>
    have hi := indexByte_none 47 _ h
    have H := hide (Tryz.stringslite_Index_one s 47)
    rw [hi] at H
    clear h hi
    go_enter Tryz.func123, Tryz.ntmps123
    go_wp2_with (go_at_call 140; refine (unhide H _).mono ?_; rintro e w' ⟨rfl, rfl⟩)
    go_ret3
    exact ⟨rfl, 0, rfl⟩
  | some p r h e =>
    have hl : s.size = p.length + (r.length + 1) := by
      have := congrArg List.length e
      simpa using this
    have hi := indexByte_at 47 p r h
    have H := hide (Tryz.stringslite_Index_one s 47)
    rw [e, hi] at H
    clear h hi e
    generalize p.length = k at *
    have hk1 : k + 1 ≤ s.size := by omega
    clear hl
    go_enter Tryz.func123, Tryz.ntmps123
    go_wp2_with (go_at_call 140; refine (unhide H _).mono ?_; rintro e w' ⟨rfl, rfl⟩)
    go_quiet (fail)
    go_wp2
    go_ret3
    exact ⟨rfl, nq, rfl⟩

set_option maxRecDepth 100000 in
theorem cut_any (s P R : ByteArray) (f : Bool) (hc : CutAt s P R f) (hs : s.size ≤ maxLen) (w : World) :
    Calls Tryz.prog 101 #[.string s, .string ⟨#[47]⟩] w fun e w' => e = .returned (.tuple #[.string P, .string R, .bool f]) ∧ ∃ n, w' = w.drewN n := by
  have H := hide (cutLite_any s P R f hc hs)
  clear hc
  go_enter Tryz.func101, Tryz.ntmps101
  go_wp2_with (go_at_call 123; refine (unhide H _).mono ?_; rintro e w' ⟨rfl, n, rfl⟩)
  go_ret3
  exact ⟨rfl, n, rfl⟩

theorem cmpB_lib : ∀ a b : List UInt8, Lib.compareBytes a b = Pt.cmpB a b
  | [], [] => rfl
  | [], _ :: _ => rfl
  | _ :: _, [] => rfl
  | a :: l, b :: m => by
    have ih := cmpB_lib l m
    show Lib.compareBytes (a :: l) (b :: m) = if Pt.cmp8 a b = 0 then Pt.cmpB l m else Pt.cmp8 a b
    unfold Lib.compareBytes Pt.cmp8
    by_cases h : a < b
    · simp [h]
    · by_cases h' : b < a
      · simp [h, h']
      · simp [h, h', ih]

theorem CutAt.ahead {s P R : ByteArray} {f : Bool} (h : CutAt s P R f) : P.size ≤ s.size ∧ R.size ≤ s.size := by
  cases h with
  | none h => exact ⟨Nat.le_refl _, Nat.zero_le _⟩
  | some p r h e => rw [ByteArray.size_extract, ByteArray.size_extract]; omega

theorem cmpT_step {A B P R Q T : ByteArray} {f g : Bool} (ha : CutAt A P R f) (hb : CutAt B Q T g) :
    Pt.cmpT A.data.toList B.data.toList = if Pt.cmpB P.data.toList Q.data.toList = 0 then (if f = true then (if g = true then Pt.cmpT R.data.toList T.data.toList else 1) else (if g = true then -1 else 0)) else Pt.cmpB P.data.toList Q.data.toList := by
  unfold Pt.cmpT
  rw [ha.pieces, hb.pieces]
  obtain ⟨x, l, hx⟩ := Pt.pieces_cons R.data.toList
  obtain ⟨y, m, hy⟩ := Pt.pieces_cons T.data.toList
  cases f <;> cases g <;> simp only [if_true, if_false, Bool.false_eq_true, Pt.cmpP_cons, hx, hy, Pt.cmpP_nil, Pt.cmpP_nil_cons, Pt.cmpP_cons_nil]

def strLen : Value → Nat
  | .string s => s.size
  | _ => 0

set_option maxRecDepth 100000 in
set_option maxHeartbeats 1000000 in
theorem compare_any (a b : ByteArray) (ha : a.size ≤ maxLen) (hb : b.size ≤ maxLen) (w : World) :
    Calls Tryz.prog 67 #[.string a, .string b] w fun e w' => e = .returned (.int .i64 (Pt.cmpT a.data.toList b.data.toList)) ∧ ∃ n, w' = w.drewN n := by
  obtain ⟨C, hC⟩ : ∃ C, Pt.cmpT a.data.toList b.data.toList = C := ⟨_, rfl⟩
  rw [hC]
  have HC := hide hC
  have HA := hide ha
  have HB := hide hb
  clear hC ha hb
  go_enter Tryz.func67, Tryz.ntmps67
  go_wp2_with fail
  go_loopw [0, 1] (fun x y wr => ∃ A B : ByteArray, x = .string A ∧ y = .string B ∧ A.size ≤ maxLen ∧ B.size ≤ maxLen ∧ Pt.cmpT A.data.toList B.data.toList = C ∧ ∃ q, wr = w.drewN q) (fun x _ _ => strLen x)
  case atStart => exact ⟨a, b, rfl, rfl, unhide HA, unhide HB, unhide HC, 0, rfl⟩
  case round =>
    clear HA HB HC
    obtain ⟨A, B, rfl, rfl, hA, hB, hAB, q, rfl⟩ := hrel
    obtain ⟨P, R, f, ca⟩ := cut_ex A
    obtain ⟨Q, T, g, cb⟩ := cut_ex B
    rw [cmpT_step ca cb] at hAB
    have h1 := hide (cut_any A P R f ca hA)
    have h2 := hide (cut_any B Q T g cb hB)
    have hR : Hid (R.size ≤ maxLen) := hide (Nat.le_trans ca.ahead.2 hA)
    have hT : Hid (T.size ≤ maxLen) := hide (Nat.le_trans cb.ahead.2 hB)
    have hlt : Hid (f = true → R.size < A.size) := hide ca.lt
    have h3 := hide (Tryz.strings_Compare P Q)
    rw [cmpB_lib] at h3
    clear ca cb hA hB
    by_cases h0 : Pt.cmpB P.data.toList Q.data.toList = 0
    · rw [if_pos h0] at hAB
      rw [h0] at h3
      clear h0
      cases f with
      | false =>
        cases g with
        | false =>
          obtain rfl : (0 : Int) = C := hAB
          go_wp2_with fail
          refine (unhide h1 _).mono ?_
          rintro e w1 ⟨rfl, n1, rfl⟩
          go_wp2_with fail
          refine (unhide h2 _).mono ?_
          rintro e w1 ⟨rfl, n2, rfl⟩
          go_wp2_with (go_at_call 102; refine (unhide h3 _).mono ?_; rintro e w' ⟨rfl, rfl⟩)
          go_ret
          exact ⟨rfl, _, rfl⟩
        | true =>
          obtain rfl : (-1 : Int) = C := hAB
          go_wp2_with fail
          refine (unhide h1 _).mono ?_
          rintro e w1 ⟨rfl, n1, rfl⟩
          go_wp2_with fail
          refine (unhide h2 _).mono ?_
          rintro e w1 ⟨rfl, n2, rfl⟩
          go_wp2_with (go_at_call 102; refine (unhide h3 _).mono ?_; rintro e w' ⟨rfl, rfl⟩)
          go_ret
          exact ⟨rfl, _, rfl⟩
      | true =>
        cases g with
        | false =>
          obtain rfl : (1 : Int) = C := hAB
          go_wp2_with fail
          refine (unhide h1 _).mono ?_
          rintro e w1 ⟨rfl, n1, rfl⟩
          go_wp2_with fail
          refine (unhide h2 _).mono ?_
          rintro e w1 ⟨rfl, n2, rfl⟩
          go_wp2_with (go_at_call 102; refine (unhide h3 _).mono ?_; rintro e w' ⟨rfl, rfl⟩)
          go_ret
          exact ⟨rfl, _, rfl⟩
        | true =>
          have HAB : Hid (Pt.cmpT R.data.toList T.data.toList = C) := hAB
          clear hAB
          go_wp2_with fail
          refine (unhide h1 _).mono ?_
          rintro e w1 ⟨rfl, n1, rfl⟩
          go_wp2_with fail
          refine (unhide h2 _).mono ?_
          rintro e w1 ⟨rfl, n2, rfl⟩
          go_wp2_with (go_at_call 102; refine (unhide h3 _).mono ?_; rintro e w' ⟨rfl, rfl⟩)
          go_roundw
          case rel => exact ⟨R, T, rfl, rfl, unhide hR, unhide hT, unhide HAB, _, rfl⟩
          case measure => simp only [strLen]; exact unhide hlt trivial
    · rw [if_neg h0] at hAB
      rw [hAB] at h3 h0
      have hb0 : (C == 0) = false := by simpa using h0
      clear h0 hAB
      go_wp2_with fail
      refine (unhide h1 _).mono ?_
      rintro e w1 ⟨rfl, n1, rfl⟩
      go_wp2_with fail
      refine (unhide h2 _).mono ?_
      rintro e w1 ⟨rfl, n2, rfl⟩
      go_wp2_with (go_at_call 102; refine (unhide h3 _).mono ?_; rintro e w' ⟨rfl, rfl⟩)
      go_ret
      exact ⟨rfl, _, rfl⟩
end Go.Proofs.YtebjlmnhpfoglaaGreatDoor.Pth

/-
  Where a path stands in a tree: what find and Get answer. Conditions: those that each theorem names.
-/

namespace Go.Proofs.YtebjlmnhpfoglaaGreatDoor
open Go.RowKit

theorem below_drewN' {w : World} (n : Nat) : Below w.heap.size w (w.drewN n) := Pth.below_drewN (Below.refl _ _) n

theorem leaf_pasts {l : List Vc.V} (h : Vc.checkLeaf l = 0) : ∀ v ∈ l, v.past.length ≤ 64 := by
  have key : ∀ (l : List Vc.V) (p : Int), Vc.VUp p l → ∀ v ∈ l, v.past.length ≤ 64 := by
    intro l
    induction l with
    | nil => intro _ _ v hv; cases hv
    | cons a l ih =>
      intro p hu v hv
      rcases List.mem_cons.1 hv with rfl | hv
      · exact Vc.vec_len hu.1.past
      · exact ih _ hu.2.2 v hv
  exact key l _ ((Vc.checkLeaf_zero l).1 h).up

set_option maxRecDepth 100000 in
set_option maxHeartbeats 400000 in
theorem find1_any (x : En) (r : Option Addr) (c : Nat) (p : ByteArray) (hx : x.1.size ≤ maxLen) (hp : p.size ≤ maxLen) (w : World) :
    Calls Tryz.prog 66 #[.agg (entL x r c).toArray, .string p] w fun e w' => e = .returned (.int .i64 (cmpE x.1 p)) ∧ Below w.heap.size w w' := by
  have K := hide fun W => Pth.compare_any x.1 p hx hp W
  rw [show Pth.Pt.cmpT x.1.data.toList p.data.toList = cmpE x.1 p from rfl] at K
  generalize cmpE x.1 p = C at K ⊢
  have HB := hide (below_alloc1 (w := w) (.cells (entL x r c).toArray 33))
  have a0 := (VRow.new w 33 (entL x r c)).cell 0 _ rfl
  clear hx hp
  unfold entL at *
  go_enter Tryz.func66, Tryz.ntmps66
  go_wp2_with fail
  refine (unhide K _).mono ?_
  rintro e w1 ⟨rfl, n, rfl⟩
  have HB1 := hide (below_grow (unhide HB) (Nat.le_refl _) (below_drewN' n))
  go_wp2_with fail
  go_ret
  exact ⟨rfl, unhide HB1⟩

set_option maxRecDepth 100000 in
set_option maxHeartbeats 2000000 in
theorem bin_any (a : Option Addr) (cap : Nat) (t : List En) (hl : t.length ≤ 100000) (hs : Srt t) (hps : ∀ x ∈ t, x.1.size ≤ maxLen) (p : ByteArray) (hp : p.size ≤ maxLen) (w : World) (h : EL w a t) :
    Calls Tryz.prog 65 #[.slice a t.length cap, .string p, .func (.func 66) #[] #[]] w fun e w' => e = .returned (.tuple #[.int .i64 (cntT t p : Nat), .bool (hasT t p)]) ∧ Below w.heap.size w w' := by
  have HS := hide h
  have HR := hide hs
  have HP := hide hp
  have HPS := hide hps
  obtain ⟨n, hn⟩ : ∃ n, t.length = n := ⟨_, rfl⟩
  obtain ⟨C, hC⟩ : ∃ C, cntT t p = C := ⟨_, rfl⟩
  have HN := hide hn
  have HC := hide hC
  obtain ⟨D, hD⟩ : ∃ D, hasT t p = D := ⟨_, rfl⟩
  have HD := hide hD
  have hcn : C ≤ n := by rw [← hC, ← hn]; exact cnt_le t p
  rw [hn] at hl ⊢
  rw [hC, hD]
  clear hD
  clear h hs hps hp hn hC
  go_enter Tryz.func65, Tryz.ntmps65
  go_wp2_with fail
  go_loopw [9, 10] (fun x y wr => ∃ i j : Nat, x = .int .i64 i ∧ y = .int .i64 j ∧ i ≤ C ∧ C ≤ j ∧ j ≤ n ∧ Below w.heap.size w wr) (fun x y _ => (intOf y).toNat - (intOf x).toNat)
  case atStart => exact ⟨0, n, rfl, rfl, Nat.zero_le _, hcn, Nat.le_refl _, Below.refl _ _⟩
  case round =>
    obtain ⟨i, j, rfl, rfl, hiC, hCj, hjn, hb⟩ := hrel
    have HB := hide hb
    have HS1 := hide ((unhide HS).after hb)
    clear hb
    by_cases hlt : i < j
    · obtain ⟨k, hk⟩ : ∃ k : Nat, k = (i + j) / 2 := ⟨_, rfl⟩
      have hk1 : i ≤ k := by omega
      have hk2 : k < j := by omega
      obtain ⟨x, hx⟩ : ∃ x, t[k]? = some x := ⟨_, List.getElem?_eq_getElem (by rw [unhide HN]; omega)⟩
      obtain ⟨g, o, rfl, hg, hcell⟩ := unhide HS1 (by rw [unhide HN]; omega)
      obtain ⟨r, c, x0, x1, _, _⟩ := hcell k x hx
      have hkn : k < n := by omega
      have KC := hide fun W => find1_any x r c p (unhide HPS x (List.mem_of_getElem? hx)) (unhide HP) W
      have HLT : Hid (cmpE x.1 p < 0 ↔ k < C) := hide (by rw [← unhide HC]; exact cnt_lt (unhide HR) hx)
      generalize cmpE x.1 p = R at KC HLT
      have hki : ((i : Int) + (j : Int)) / 2 = (k : Int) := by omega
      have HK := hide hk
      clear hx hcell hg hk
      unfold entL at KC
      by_cases hR : R < 0
      · have hRb : decide (R < 0) = true := decide_eq_true hR
        have HAH := hide ((unhide HLT).1 hR)
        clear HLT hR hcn
        go_wp2_with fail
        refine (unhide KC _).mono ?_
        rintro e w2 ⟨rfl, hb2⟩
        have HB2 := hide (below_grow (unhide HB) (Nat.le_refl _) hb2)
        clear hb2 x0 x1 KC
        go_wp2_with fail
        go_roundw
        case rel => exact ⟨k + 1, j, by go_num, rfl, unhide HAH, hCj, hjn, unhide HB2⟩
        case measure => simp [intOf]; omega
      · have hRb : decide (R < 0) = false := decide_eq_false hR
        have HAH := hide (fun h => hR ((unhide HLT).2 h))
        clear HLT hR hcn
        go_wp2_with fail
        refine (unhide KC _).mono ?_
        rintro e w2 ⟨rfl, hb2⟩
        have HB2 := hide (below_grow (unhide HB) (Nat.le_refl _) hb2)
        clear hb2 x0 x1 KC
        go_wp2_with fail
        go_roundw
        case rel => exact ⟨i, k, rfl, rfl, hiC, Nat.le_of_not_lt (unhide HAH), by omega, unhide HB2⟩
        case measure => simp [intOf]; omega
    · obtain rfl : i = j := by omega
      obtain rfl : i = C := by omega
      by_cases hin : i < n
      · obtain ⟨x, hx⟩ : ∃ x, t[i]? = some x := ⟨_, List.getElem?_eq_getElem (by rw [unhide HN]; omega)⟩
        obtain ⟨g, o, rfl, hg, hcell⟩ := unhide HS1 (by rw [unhide HN]; omega)
        obtain ⟨r, c, x0, x1, _, _⟩ := hcell i x hx
        have KC := hide fun W => find1_any x r c p (unhide HPS x (List.mem_of_getElem? hx)) (unhide HP) W
        have HEQ : Hid (hasT t p = decide (cmpE x.1 p = 0)) := hide (has_cnt (unhide HR) (by rw [unhide HC]; exact hx))
        rw [show decide (cmpE x.1 p = 0) = (cmpE x.1 p == 0) by rw [Bool.eq_iff_iff]; simp] at HEQ
        generalize cmpE x.1 p = R at KC HEQ
        have hgi : decide ((i : Int) < (n : Int)) = true := decide_eq_true (by omega)
        clear hx hcell hg hcn
        unfold entL at KC
        have hd := unhide HEQ
        rw [unhide HD] at hd
        subst hd
        go_wp2_with fail
        refine (unhide KC _).mono ?_
        rintro e w2 ⟨rfl, hb2⟩
        have HB2 := hide (below_grow (unhide HB) (Nat.le_refl _) hb2)
        clear hb2 x0 x1 KC
        go_wp2_with fail
        refine bodyPost_ret (results_tmp2 rfl _ _ _) rfl ⟨rfl, unhide HB2⟩
      · obtain rfl : i = n := by omega
        have HEQ : Hid (hasT t p = false) := hide (has_end (unhide HR) (by rw [unhide HC, unhide HN]; exact Nat.le_refl _))
        have hd := unhide HEQ
        rw [unhide HD] at hd
        subst hd
        clear hcn
        go_wp2_with fail
        refine bodyPost_ret (results_tmp2 rfl _ _ _) rfl ⟨rfl, unhide HB⟩

set_option maxRecDepth 100000 in
set_option maxHeartbeats 400000 in
theorem find_any (a : Option Addr) (cap : Nat) (t : List En) (hl : t.length ≤ 100000) (hs : Srt t) (hps : ∀ x ∈ t, x.1.size ≤ maxLen) (p : ByteArray) (hp : p.size ≤ maxLen) (w : World) (h : EL w a t) :
    Calls Tryz.prog 37 #[.slice a t.length cap, .string p] w fun e w' => e = .returned (.tuple #[.int .i64 (cntT t p : Nat), .bool (hasT t p)]) ∧ Below w.heap.size w w' := by
  have K := hide (bin_any a cap t hl hs hps p hp w h)
  generalize cntT t p = C at K ⊢
  generalize hasT t p = D at K ⊢
  clear h hs hps
  go_enter Tryz.func37, Tryz.ntmps37
  go_wp2_with fail
  refine (unhide K).mono ?_
  rintro e w1 ⟨rfl, hb⟩
  have HB := hide hb
  clear hb K
  go_wp2_with fail
  refine bodyPost_ret (results_tmp2 rfl _ _ _) rfl ⟨rfl, unhide HB⟩

set_option maxRecDepth 100000 in
set_option maxHeartbeats 400000 in
theorem treeGet_any (p0 : Option Addr) (t : List En) (ht : Tr t) (p : ByteArray) (hp : p.size ≤ maxLen) (w : World) (h : TrAt w p0 t) :
    Calls Tryz.prog 17 #[.pointer p0, .string p] w (MadeV All w (getT t p)) := by
  have K := hide (all_any p0 t w h)
  have HT := hide ht
  obtain ⟨G, hG⟩ : ∃ G, getT t p = G := ⟨_, rfl⟩
  have HGT := hide hG
  rw [hG]
  clear h ht hG
  go_enter Tryz.func17, Tryz.ntmps17
  go_wp2_with fail
  refine (unhide K).mono ?_
  rintro e w0 ⟨a, c, rfl, hc, hel, hw⟩
  have hw' := hw.symm
  subst hw'
  have hfew := (unhide HT).few
  have KF := hide (find_any a c t (by omega) (unhide HT).srt (fun x hx => by have := path_size ((unhide HT).path x hx); unfold maxLen; omega) p hp w hel)
  have HE := hide hel
  clear hel hw hc K hfew
  go_wp2_with fail
  refine (unhide KF).mono ?_
  rintro e w1 ⟨rfl, hb⟩
  have HB := hide hb
  have HE1 := hide ((unhide HE).after hb)
  clear hb KF
  cases hh : hasT t p with
  | false =>
    have hg := (has_get (unhide HT).srt).1 hh
    rw [unhide HGT] at hg
    subst hg
    clear hh
    go_wp2_with fail
    go_ret
    exact ⟨_, _, rfl, Nat.le_refl _, SV.none _ _, Prov.none _ _ _, unhide HB⟩
  | true =>
    obtain ⟨x, hx, _, hx2⟩ := (has_get (unhide HT).srt).2 hh
    rw [unhide HGT] at hx2
    subst hx2
    obtain ⟨n, hn⟩ : ∃ n, t.length = n := ⟨_, rfl⟩
    obtain ⟨C, hC⟩ : ∃ C, cntT t p = C := ⟨_, rfl⟩
    rw [hn, hC]
    rw [hC] at hx
    have hcn : C < n := by rw [← hn]; exact (List.getElem?_eq_some_iff.1 hx).1
    obtain ⟨g, o, rfl, hg, hcell⟩ := unhide HE1 (by rw [hn]; omega)
    obtain ⟨r, d, x0, x1, h5, h6⟩ := hcell C x hx
    have hm := (unhide HT).leaf x (List.mem_of_getElem? hx)
    have hf := leaf_fewT hm.2
    have KC := hide (copy_any All r d x.2 (by omega) (fun v hv => by
      have := leaf_pasts hm.2 v hv
      omega) w1 (fun _ _ => trivial) h6 (prov_all _ _ _))
    clear hx hcell hg hh hn hC hm hf h5 h6 HGT
    go_wp2_with fail
    refine (unhide KC).mono ?_
    rintro e w2 ⟨r2, c2, rfl, h1, h2, h3, hb2⟩
    have HX := hide (And.intro h1 (And.intro h2 (And.intro h3 (below_grow (unhide HB) (Nat.le_refl _) hb2))))
    clear h1 h2 h3 hb2 KC x0 x1
    go_wp2_with fail
    go_ret
    exact ⟨r2, c2, rfl, (unhide HX).1, (unhide HX).2.1, (unhide HX).2.2.1, (unhide HX).2.2.2⟩
end Go.Proofs.YtebjlmnhpfoglaaGreatDoor

/-
  Rows of entries, one behind the other (Concat, Grow); a path with a leaf as a list (entryOf). Conditions: those that each theorem names.
-/

namespace Go.Proofs.YtebjlmnhpfoglaaGreatDoor
open Go.RowKit

theorem zeroCells_sizeE (z : Array Value) (n : Nat) : (Builtin.zeroCells z n).size = n * z.size := by simp [Builtin.zeroCells]
theorem grow_runE (w : World) (n : Nat) (h0 : 0 < n) (hn : n ≤ 200000) : ∃ C, n ≤ C ∧ C ≤ maxLen ∧ ∃ cur : Array Value, cur.size = C * 2 ∧ ∀ ty, (Builtin.append_ #[22, 3] ty #[.slice none 0 0, .int .i64 n]).run Tryz.prog w = .ok (.slice (some ⟨w.heap.size, 0, none⟩) n C) (w.drew.alloc (.cells cur 33)) := by
  obtain ⟨i0, hi, hz0, hz1, hz2⟩ := info_parts infoEn
  refine ⟨grownCap w n 0 33, grownCap_ge w n 0 33, grownCap_le_maxLen w n 0 33 (by unfold maxLen; omega), _, ?_, fun ty => Lib.run_append_nil_zeros w 22 3 ty 33 i0 _ .i64 .i64 Tryz.underlying22 Tryz.underlying3 hi hz0 n h0 (by omega) (by omega) (by rw [hz2]; omega)⟩
  have := grownCap_ge w n 0 33
  rw [Array.size_append, zeroCells_sizeE, zeroCells_sizeE]
  show n * 2 + (grownCap w n 0 33 - n) * 2 = _
  omega
theorem append_runE {w : World} {ops : Array Oper} {rest : List Oper} {o : Oper} {a : Act} {Q : Exit → Act → World → Prop} (hgd : o.guard = none) (s x : Operand)
    (ho : o.op = .call { callee := .builtin .append, args := #[s, x], argTypes := #[22, 3] }) (vs vx v' : Value) (w' : World) (hs : a.eval s = vs) (hx : a.eval x = vx) (hrun : ∀ ty, (Builtin.append_ #[22, 3] ty #[vs, vx]).run Tryz.prog w = .ok v' w')
    (h : wpList Tryz.prog ops Q rest (a.put o.dst v') w') : wpList Tryz.prog ops Q (o :: rest) a w := by
  refine wpList_plain hgd fun K hK => ?_
  unfold Oper.wp
  simp [execOp, ho, resolve, invoke, builtin, hs, hx, hrun, Result.andThen]
  exact hK _ _ h
def LeftE (w : World) (es : List En) (e : Ending) (w' : World) : Prop := ∃ l, e = .returned l ∧ OE w' w.heap.size l es ∧ Below w.heap.size w w'

set_option maxRecDepth 100000 in
set_option maxHeartbeats 600000 in
theorem growE_any (n : Nat) (hn : n ≤ 150000) (w : World) : Calls Tryz.prog 68 #[.slice none 0 0, .int .i64 n] w (LeftE w []) := by
  by_cases h0 : 0 < n
  · obtain ⟨C, hC, hM, cur, hcur, hrun⟩ := grow_runE w n h0 (by omega)
    have HE : Hid (OE (w.drew.alloc (.cells cur 33)) w.heap.size (.slice (some ⟨w.heap.size, 0, none⟩) 0 C) []) := hide ⟨[], rfl, ⟨rfl, .inr ⟨w.heap.size, C, cur, rfl, Nat.le_refl _, heap_alloc_new w.drew (.cells cur 33), Nat.zero_le _, hM, hcur, rfl⟩⟩, fun _ h => by cases h⟩
    have HB : Hid (Below w.heap.size w (w.drew.alloc (.cells cur 33))) := hide ((below_drew (Below.refl _ _)).alloc (Nat.le_refl _) _)
    have h0z : (0 : Int) < (n : Int) := by omega
    have h1z : ¬ (n : Int) < 0 := by omega
    have hwn : IntKind.i64.wrap (n : Int) = (n : Int) := wrap_small (by omega) (by omega)
    have HRUN := hide hrun
    clear hcur hM hrun
    go_enter Tryz.func68, Tryz.ntmps68
    go_wp2_with (at_builtin; refine append_runE (by rfl) _ _ (by rfl) _ _ _ _ (by rfl) (by rfl) (unhide HRUN) ?_)
    go_ret
    exact ⟨_, rfl, unhide HE, unhide HB⟩
  · obtain rfl : n = 0 := by omega
    go_enter Tryz.func68, Tryz.ntmps68
    go_wp2_with fail
    go_ret
    exact ⟨_, rfl, OE.nil _ _, Below.refl _ _⟩

set_option maxRecDepth 100000 in
set_option maxHeartbeats 2000000 in
theorem concatE_any (B : Nat) (ra rb rc : Option Addr) (ca cb cc : Nat) (a b c : List En) (ha : a.length ≤ 1000) (hb : b.length ≤ 1000) (hc : c.length ≤ 1000) (w : World) (hr : VRow w B 22 [.slice ra a.length ca, .slice rb b.length cb, .slice rc c.length cc])
    (sa : EL w ra a) (sb : EL w rb b) (sc : EL w rc c) : Calls Tryz.prog 38 #[.slice (some ⟨B, 0, none⟩) 3 3] w (LeftE w (a ++ (b ++ c))) := by
  have RR := hide hr
  have SA := hide sa
  have SB := hide sb
  have SC := hide sc
  have K := hide fun n hn W => growE_any n hn W
  obtain ⟨na, hna⟩ : ∃ n, a.length = n := ⟨_, rfl⟩
  obtain ⟨nb, hnb⟩ : ∃ n, b.length = n := ⟨_, rfl⟩
  obtain ⟨nc, hnc⟩ : ∃ n, c.length = n := ⟨_, rfl⟩
  have HNA := hide hna
  have HNB := hide hnb
  have HNC := hide hnc
  rw [hna] at RR ha
  rw [hnb] at RR hb
  rw [hnc] at RR hc
  have x0 := (unhide RR).cell 0 _ rfl
  have x1 := (unhide RR).cell 1 _ rfl
  have x2 := (unhide RR).cell 2 _ rfl
  clear hr sa sb sc hna hnb hnc
  go_enter Tryz.func38, Tryz.ntmps38
  go_wp2_with fail
  go_loopw [3, 11] (fun s i wr => ∃ k : Nat, k ≤ 3 ∧ i = .int .i64 k ∧ s = .int .i64 ((if k = 0 then 0 else if k = 1 then na else if k = 2 then na + nb else na + nb + nc : Nat) : Nat) ∧ wr = w) (fun _ i _ => 3 - (intOf i).toNat)
  case atStart => exact ⟨0, by omega, rfl, rfl, rfl⟩
  case round =>
    obtain ⟨k, hk, rfl, rfl, rfl⟩ := hrel
    rcases (show k = 0 ∨ k = 1 ∨ k = 2 ∨ k = 3 by omega) with rfl | rfl | rfl | rfl
    · have h1 : ¬ (na : Int) < 0 := by omega
      go_wp2_with fail
      go_roundw
      case rel => exact ⟨1, by omega, by go_num, by first | rfl | simp, by trivial⟩
      case measure => simp [intOf]
    · have h1 : ¬ (na : Int) + (nb : Int) < 0 := by omega
      have h2 : IntKind.i64.wrap ((na : Int) + (nb : Int)) = (na : Int) + (nb : Int) := wrap_small (by omega) (by omega)
      go_wp2_with fail
      go_roundw
      case rel => exact ⟨2, by omega, by go_num, by first | rfl | simp, by trivial⟩
      case measure => simp [intOf]
    · have h1 : ¬ (na : Int) + (nb : Int) + (nc : Int) < 0 := by omega
      have h2 : IntKind.i64.wrap ((na : Int) + (nb : Int) + (nc : Int)) = (na : Int) + (nb : Int) + (nc : Int) := wrap_small (by omega) (by omega)
      go_wp2_with fail
      go_roundw
      case rel => exact ⟨3, by omega, by go_num, by first | rfl | simp, by trivial⟩
      case measure => simp [intOf]
    · rw [show (if 3 = 0 then 0 else if 3 = 1 then na else if 3 = 2 then na + nb else na + nb + nc) = na + nb + nc from rfl]
      obtain ⟨nn, hnn⟩ : ∃ n, n = na + nb + nc := ⟨_, rfl⟩
      rw [← hnn]
      have KG := hide (unhide K nn (by omega) wr)
      have HNN := hide hnn
      clear hnn
      go_wp2_with fail
      refine (unhide KG).mono ?_
      rintro e w1 ⟨l0, rfl, hov0, hb0⟩
      have HO0 := hide hov0
      have HB0 := hide hb0
      clear hov0 hb0 x0 x1 x2
      go_wp2_with fail
      generalize wr = w at *
      go_loopw [6, 27] (fun l i wr => ∃ k : Nat, k ≤ 3 ∧ i = .int .i64 k ∧ OE wr w.heap.size l (if k = 0 then [] else if k = 1 then a else if k = 2 then a ++ b else a ++ (b ++ c)) ∧ Below w.heap.size w wr) (fun _ i _ => 3 - (intOf i).toNat)
      case atStart => exact ⟨0, by omega, rfl, unhide HO0, unhide HB0⟩
      case round =>
        obtain ⟨k, hk, rfl, hov, hbw⟩ := hrel
        have HO := hide hov
        have HBW := hide hbw
        have R2 := (unhide RR).after hbw
        have y0 := R2.cell 0 _ rfl
        have y1 := R2.cell 1 _ rfl
        have y2 := R2.cell 2 _ rfl
        have HSZ := hide hbw.size
        clear hbw R2
        rcases (show k = 0 ∨ k = 1 ∨ k = 2 ∨ k = 3 by omega) with rfl | rfl | rfl | rfl
        · have HV : Hid (ELN u6.ownBlock wr ra a) := hide ((unhide SA).eln (fun g e => (hov.lt g e).1) (unhide HBW))
          clear hov
          go_wp2_with (at_builtin; refine append_el (by rfl) _ _ (by rfl) w.heap.size _ [] (by rfl) (unhide HO) ra na ca a (unhide HNA) (by rfl) (unhide HV) (by rw [unhide HNA]; simp; omega) (unhide HSZ) ?_; intro v9 w9 hown9 hb9 _; have HO9 := hide hown9; have HB9 := hide ((unhide HBW).trans hb9); clear hown9 hb9 y0 y1 y2)
          go_roundw
          case rel => exact ⟨1, by omega, by go_num, unhide HO9, unhide HB9⟩
          case measure => simp [intOf]
        · have HV : Hid (ELN u6.ownBlock wr rb b) := hide ((unhide SB).eln (fun g e => (hov.lt g e).1) (unhide HBW))
          clear hov
          go_wp2_with (at_builtin; refine append_el (by rfl) _ _ (by rfl) w.heap.size _ a (by rfl) (unhide HO) rb nb cb b (unhide HNB) (by rfl) (unhide HV) (by rw [unhide HNA, unhide HNB]; omega) (unhide HSZ) ?_; intro v9 w9 hown9 hb9 _; have HO9 := hide hown9; have HB9 := hide ((unhide HBW).trans hb9); clear hown9 hb9 y0 y1 y2)
          go_roundw
          case rel => exact ⟨2, by omega, by go_num, unhide HO9, unhide HB9⟩
          case measure => simp [intOf]
        · have HV : Hid (ELN u6.ownBlock wr rc c) := hide ((unhide SC).eln (fun g e => (hov.lt g e).1) (unhide HBW))
          clear hov
          go_wp2_with (at_builtin; refine append_el (by rfl) _ _ (by rfl) w.heap.size _ (a ++ b) (by rfl) (unhide HO) rc nc cc c (unhide HNC) (by rfl) (unhide HV) (by rw [List.length_append, unhide HNA, unhide HNB, unhide HNC]; omega) (unhide HSZ) ?_; intro v9 w9 hown9 hb9 _; have HO9 := hide hown9; have HB9 := hide ((unhide HBW).trans hb9); clear hown9 hb9 y0 y1 y2)
          rw [List.append_assoc] at HO9
          go_roundw
          case rel => exact ⟨3, by omega, by go_num, unhide HO9, unhide HB9⟩
          case measure => simp [intOf]
        · clear hov y0 y1 y2
          go_wp2_with fail
          go_ret
          exact ⟨u6, rfl, unhide HO, unhide HBW⟩

/-- A path with a leaf, as a list of one, or none. -/
def oneE (p : ByteArray) (l : List Vc.V) : List En := if l.length = 0 then [] else [(p, l)]

set_option maxRecDepth 100000 in
set_option maxHeartbeats 400000 in
theorem entryOf_any (p : ByteArray) (r : Option Addr) (c : Nat) (l : List Vc.V) (hc : l.length ≤ c) (w : World) (h : SV w r l) :
    Calls Tryz.prog 39 #[.string p, .slice r l.length c] w (MadeE w (oneE p l)) := by
  have HS := hide h
  unfold oneE
  by_cases h0 : l.length = 0
  · rw [if_pos h0, h0]
    clear h
    go_enter Tryz.func39, Tryz.ntmps39
    go_wp2_with fail
    go_ret
    exact ⟨none, 0, rfl, Nat.le_refl _, EL.none _ _, Below.refl _ _⟩
  · rw [if_neg h0]
    have h1 : ¬ (l.length : Int) = 0 := by omega
    have h2 : ((l.length : Int) == 0) = false := beq_eq_false_iff_ne.2 h1
    have HB := hide (below_alloc' (w := w) (.cells #[.string p, .slice r l.length c] 33))
    have HV := hide (VRow.new w 33 (entL (p, l) r c))
    have HC := hide hc
    clear h hc h0
    go_enter Tryz.func39, Tryz.ntmps39
    go_wp2_with fail
    go_ret
    refine ⟨_, _, rfl, Nat.le_refl _, fun _ => ⟨w.heap.size, 0, rfl, (unhide HV).lt, fun j x hj => ?_⟩, unhide HB⟩
    have hj0 : j = 0 := by have := (List.getElem?_eq_some_iff.1 hj).1; simp at this; omega
    subst hj0
    simp at hj
    subst hj
    exact ⟨r, c, (unhide HV).cell 0 _ rfl, (unhide HV).cell 1 _ rfl, unhide HC, (unhide HS).after (unhide HB)⟩
end Go.Proofs.YtebjlmnhpfoglaaGreatDoor

/-
  A leaf set at a path, and the tree of entries: what Set and Of answer. Conditions: those that each theorem names.
-/

namespace Go.Proofs.YtebjlmnhpfoglaaGreatDoor
open Go.RowKit

def MadeTr (w : World) (x : List En × Int) (e : Ending) (w' : World) : Prop := ∃ q, e = .returned (.tuple #[.pointer q, .int .i64 x.2]) ∧ TrAt w' q x.1 ∧ (x.2 ≠ 0 → q = none) ∧ Below w.heap.size w w'
theorem concatE_at (B : Nat) (ra rb rc : Option Addr) (na nb nc ca cb cc : Nat) (a b c : List En) (ea : a.length = na) (eb : b.length = nb) (ec : c.length = nc) (ha : na ≤ 1000) (hb : nb ≤ 1000) (hc : nc ≤ 1000) (w : World) (hr : VRow w B 22 [.slice ra na ca, .slice rb nb cb, .slice rc nc cc])
    (sa : EL w ra a) (sb : EL w rb b) (sc : EL w rc c) : Calls Tryz.prog 38 #[.slice (some ⟨B, 0, none⟩) 3 3] w (LeftE w (a ++ (b ++ c))) := by
  subst ea
  subst eb
  subst ec
  exact concatE_any B ra rb rc ca cb cc a b c ha hb hc w hr sa sb sc
theorem oneE_len (p : ByteArray) (l : List Vc.V) : (oneE p l).length ≤ 1 := by unfold oneE; split <;> simp
theorem el_row {W : World} {B : Nat} {ra rb rc : Option Addr} {na nb nc ca cb cc : Nat} (h : VRow W B 22 [.slice ra na ca, .slice rb nb cb, .slice rc nc cc]) : VRow W B 22 [.slice ra na ca, .slice rb nb cb, .slice rc nc cc] := h

set_option maxRecDepth 100000 in
set_option maxHeartbeats 1000000 in
theorem treeSet_any (p0 : Option Addr) (t : List En) (ht : Tr t) (p : ByteArray) (hp : p.size ≤ 100000) (r : Option Addr) (c : Nat) (l : List Vc.V) (hf : Few l) (w : World) (h : TrAt w p0 t) (hv : SV w r l) :
    Calls Tryz.prog 11 #[.pointer p0, .string p, .slice r l.length c] w (MadeTr w (setT t p l)) := by
  have HT := hide ht
  have HTR := hide h
  have HV := hide hv
  have HP := hide hp
  have K1 := hide (Pth.check_any p hp w)
  have K2 := hide fun W h => checkLeaf_any r c l hf W h
  rw [show Pth.Pt.check p.data.toList = pchkE p from rfl] at K1
  obtain ⟨n, hn⟩ : ∃ n, l.length = n := ⟨_, rfl⟩
  have HN := hide hn
  by_cases hC : pchkE p ≠ 0
  · have hE : setT t p l = ([], pchkE p) := by unfold setT setE; rw [if_pos hC, if_pos hC]
    rw [hE]
    generalize pchkE p = C at K1 hC ⊢
    have hCb : (C == 0) = false := beq_eq_false_iff_ne.2 hC
    rw [hn]
    clear h hv hf hp ht hn hE K2
    go_enter Tryz.func11, Tryz.ntmps11
    go_wp2_with fail
    refine (unhide K1).mono ?_
    rintro e w1 ⟨rfl, hb⟩
    have HB := hide hb
    clear hb K1
    go_wp2_with fail
    refine bodyPost_ret (results_tmp2 rfl _ _ _) rfl ⟨_, rfl, TrAt.nil _, fun _ => rfl, unhide HB⟩
  · have hC0 : pchkE p = 0 := Classical.not_not.1 hC
    rw [hC0] at K1
    by_cases hL : Vc.checkLeaf l ≠ 0
    · have hE : setT t p l = ([], Vc.checkLeaf l) := by unfold setT setE; rw [if_neg hC, if_pos hL]
      rw [hE]
      generalize Vc.checkLeaf l = C at K2 hL ⊢
      have hCb : (C == 0) = false := beq_eq_false_iff_ne.2 hL
      rw [hn] at K2 ⊢
      clear h hv hf hp ht hn hE hC hC0
      go_enter Tryz.func11, Tryz.ntmps11
      go_wp2_with fail
      refine (unhide K1).mono ?_
      rintro e w1 ⟨rfl, hb⟩
      have HB := hide hb
      have KL := hide (unhide K2 w1 ((unhide HV).after hb))
      clear hb K1
      go_wp2_with fail
      refine (unhide KL).mono ?_
      rintro e w2 ⟨rfl, hb⟩
      have HB2 := hide (below_grow (unhide HB) (Nat.le_refl _) hb)
      clear hb KL
      go_wp2_with fail
      refine bodyPost_ret (results_tmp2 rfl _ _ _) rfl ⟨_, rfl, TrAt.nil _, fun _ => rfl, unhide HB2⟩
    · have hL0 : Vc.checkLeaf l = 0 := Classical.not_not.1 hL
      rw [hL0] at K2
      have hE : setT t p l = if 128 < (putT p l t).length then ([], 4) else (putT p l t, 0) := by unfold setT setE; rw [if_neg hC, hL0]; rfl
      rw [hE]
      have HPL := hide (leaf_pasts hL0)
      have h64 := (leaf_fewT hL0).2
      have H64 := hide h64
      rw [hn] at K2
      have HPP : Hid (putT p l t = t.take (cntT t p) ++ (oneE p l ++ (if hasT t p = true then (t.drop (cntT t p)).drop 1 else t.drop (cntT t p)))) := hide (put_parts ht.srt p l)
      have HLN := hide (len_put p l ht.srt)
      obtain ⟨R, hR⟩ : ∃ R, (if 128 < (putT p l t).length then ([], 4) else (putT p l t, 0) : List En × Int) = R := ⟨_, rfl⟩
      have HR := hide hR
      rw [hR, hn]
      clear h hv hf hp ht hn hE hC hC0 hL hL0 hR h64
      go_enter Tryz.func11, Tryz.ntmps11
      go_wp2_with fail
      refine (unhide K1).mono ?_
      rintro e w1 ⟨rfl, hb⟩
      have HB1 := hide hb
      have KL := hide (unhide K2 w1 ((unhide HV).after hb))
      clear hb K1 K2
      go_wp2_with fail
      refine (unhide KL).mono ?_
      rintro e w2 ⟨rfl, hb⟩
      have HB2 := hide (below_grow (unhide HB1) (Nat.le_refl _) hb)
      clear hb KL
      have KA := hide (all_any p0 t w2 ((unhide HTR).after (unhide HB2)))
      go_wp2_with fail
      refine (unhide KA).mono ?_
      rintro e w0 ⟨a, ca, rfl, hca, hel, hw⟩
      have hw' := hw.symm
      subst hw'
      have hfew := (unhide HT).few
      have KF := hide (find_any a ca t (by omega) (unhide HT).srt (fun x hx => by have := path_size ((unhide HT).path x hx); unfold maxLen; omega) p (by have := unhide HP; unfold maxLen; omega) w2 hel)
      have HE := hide hel
      have HCA := hide hca
      clear hel hw hca KA hfew
      go_wp2_with fail
      refine (unhide KF).mono ?_
      rintro e w3 ⟨rfl, hb⟩
      have HB3 := hide (below_grow (unhide HB2) (Nat.le_refl _) hb)
      have HE3 := hide ((unhide HE).after hb)
      clear hb KF
      have hk := cnt_le t p
      have hfew := (unhide HT).few
      obtain ⟨N, hN⟩ : ∃ N, t.length = N := ⟨_, rfl⟩
      obtain ⟨k, hkk⟩ : ∃ k, cntT t p = k := ⟨_, rfl⟩
      have HNN := hide hN
      have HKK := hide hkk
      have hca := unhide HCA
      rw [hN] at hk hfew hca ⊢
      rw [hkk] at hk HPP ⊢
      clear hN hkk
      have s1 := sliceE_to a N ca k hk hca
      obtain ⟨A, cA, s2, hcA, hA⟩ := sliceE_from a t N ca k (unhide HNN) hk hca
      have HA := hide (hA w3 (unhide HE3))
      clear hA hca
      have HCA2 := hide hcA
      clear hcA
      have KCP := hide fun W (h : SV W r l) => copy_any All r c l (by have := unhide H64; omega) (fun v hv => by have := unhide HPL v hv; omega) W (fun _ _ => trivial) h (prov_all _ _ _)
      have HV3 := hide ((unhide HV).after (unhide HB3))
      have HTK := hide ((unhide HE3).take k)
      have HTL : Hid ((t.take k).length = k) := hide (by rw [List.length_take, unhide HNN]; omega)
      have HDL : Hid ((t.drop k).length = N - k) := hide (by rw [List.length_drop, unhide HNN])
      have HNL : Hid (N ≤ 128) := hide hfew
      rw [unhide HN] at KCP
      clear hfew
      go_wp2_with fail
      go_region
      obtain ⟨D, hD⟩ : ∃ D, t.drop k = D := ⟨_, rfl⟩
      rw [hD] at HPP HA HDL
      have HHK : Hid (hasT t p = true → 1 ≤ N - k) := hide (fun hh => by
        obtain ⟨x, hx, _⟩ := (has_get (unhide HT).srt).2 hh
        have h1 := (List.getElem?_eq_some_iff.1 hx).1
        rw [unhide HKK, unhide HNN] at h1
        omega)
      clear hD
      cases hh : hasT t p
      all_goals first
        | (rw [hh, if_neg (by decide)] at HPP
           have HAA := hide (unhide HA)
           have HDD := hide (unhide HDL)
           have HCC := hide (unhide HCA2)
           have HMN : Hid (N - k ≤ 1000) := hide (by have := unhide HNL; omega)
           clear hh HHK HA HDL HCA2
           go_wp2_with fail
           generalize N - k = M at HDD HMN HCC ⊢
           have HKC := hide (fun (W : World) (hb : Below w3.heap.size w3 W) (a5 : Option Addr) (m c5 : Nat) (he : EL W a5 (oneE p l)) (hm : (oneE p l).length = m) => (show Calls Tryz.prog 38 #[.slice (some ⟨W.heap.size, 0, none⟩) 3 3] (W.alloc (.cells #[.slice a k ca, .slice a5 m c5, .slice A M cA] 22)) (LeftE (W.alloc (.cells #[.slice a k ca, .slice a5 m c5, .slice A M cA] 22)) (putT p l t)) by
             have e := concatE_at W.heap.size a a5 A k m M ca c5 cA (t.take k) (oneE p l) D (unhide HTL) hm (unhide HDD) (by have := unhide HNL; omega) (by have := oneE_len p l; omega) (unhide HMN) _ (VRow.new W 22 [.slice a k ca, .slice a5 m c5, .slice A M cA]) (((unhide HTK).after hb).after (below_alloc' _)) (he.after (below_alloc' _)) (((unhide HAA).after hb).after (below_alloc' _))
             rw [← unhide HPP] at e
             exact e))
           clear HDD HMN HCC HPP HAA HTK HTL)
        | (rw [hh, if_pos rfl] at HPP
           have h1k := unhide HHK hh
           obtain ⟨A2, cA2, s3, hc2, hA2⟩ := sliceE_from A D (N - k) cA 1 (unhide HDL) h1k (unhide HCA2)
           have s4 : ∀ W, (Instr.slice 22 (.slice A (N - k) cA) (some (.int .i64 1)) none none).run Tryz.prog W = .ok (.slice A2 (N - k - 1) cA2) W := s3
           have HAA := hide (hA2 w3 (unhide HA))
           have HDD : Hid ((D.drop 1).length = N - k - 1) := hide (by rw [List.length_drop, unhide HDL])
           have HCC := hide hc2
           have HMN : Hid (N - k - 1 ≤ 1000) := hide (by have := unhide HNL; omega)
           clear hh HHK HA HDL HCA2 s3 hA2 hc2 h1k
           generalize D.drop 1 = D2 at HAA HDD HPP
           go_wp2_with fail
           generalize N - k - 1 = M at HDD HMN HCC ⊢
           have HKC := hide (fun (W : World) (hb : Below w3.heap.size w3 W) (a5 : Option Addr) (m c5 : Nat) (he : EL W a5 (oneE p l)) (hm : (oneE p l).length = m) => (show Calls Tryz.prog 38 #[.slice (some ⟨W.heap.size, 0, none⟩) 3 3] (W.alloc (.cells #[.slice a k ca, .slice a5 m c5, .slice A2 M cA2] 22)) (LeftE (W.alloc (.cells #[.slice a k ca, .slice a5 m c5, .slice A2 M cA2] 22)) (putT p l t)) by
             have e := concatE_at W.heap.size a a5 A2 k m M ca c5 cA2 (t.take k) (oneE p l) D2 (unhide HTL) hm (unhide HDD) (by have := unhide HNL; omega) (by have := oneE_len p l; omega) (unhide HMN) _ (VRow.new W 22 [.slice a k ca, .slice a5 m c5, .slice A2 M cA2]) (((unhide HTK).after hb).after (below_alloc' _)) (he.after (below_alloc' _)) (((unhide HAA).after hb).after (below_alloc' _))
             rw [← unhide HPP] at e
             exact e))
           clear HDD HMN HCC HPP HAA HTK HTL)
      all_goals
        refine (unhide KCP w3.drew ((unhide HV3).drewN 1)).mono ?_
        rintro e w4 ⟨r2, c2, rfl, hc2, hs2, hpr2, hb4⟩
        have HB4 := hide (below_grow (below_drew (unhide HB3)) (Nat.le_refl _) hb4)
        have H34 := hide (below_grow (below_drew (Below.refl w3.heap.size w3)) (Nat.le_refl _) hb4)
        have KE := hide (entryOf_any p r2 c2 l hc2 w4 hs2)
        clear hc2 hs2 hpr2 hb4
        go_wp2_with fail
        refine (unhide KE).mono ?_
        rintro e w5 ⟨a5, c5, rfl, hc5, he5, hb5⟩
        have HB5 := hide (below_grow (unhide HB4) (Nat.le_refl _) hb5)
        have H35 := hide (below_grow (unhide H34) (Nat.le_refl _) hb5)
        obtain ⟨m, hm⟩ : ∃ m, (oneE p l).length = m := ⟨_, rfl⟩
        have KCC := hide (unhide HKC w5 (unhide H35) a5 m c5 he5 hm)
        rw [hm]
        clear hc5 he5 hb5 hm KE
        go_wp2_with fail
        refine (unhide KCC).mono ?_
        rintro e w6 ⟨l6, rfl, hoe, hb6⟩
        have HB6 := hide ((unhide HB5).trans (((below_alloc' (w := w5) _).mono (unhide HB5).size).trans (hb6.mono (by have := (unhide HB5).size; simp; omega))))
        obtain ⟨a6, c6, rfl, hc6, he6⟩ := hoe.el
        have HE6 := hide he6
        have HC6 := hide hc6
        clear hoe hb6 hc6 he6 KCC HKC
        obtain ⟨P, hP⟩ : ∃ P, putT p l t = P := ⟨_, rfl⟩
        rw [hP] at HE6 HC6 HLN HR ⊢
        obtain ⟨q, hq⟩ : ∃ q, P.length = q := ⟨_, rfl⟩
        have HQ := hide hq
        rw [hq] at HC6 HLN HR ⊢
        clear hP hq
        have hq129 : q ≤ 129 := by have := unhide HLN; have := unhide HNN; have := unhide HNL; omega
        by_cases h128 : 128 < q
        · have hr := unhide HR
          rw [if_pos h128] at hr
          subst hr
          have hd : decide ((128 : Int) < (q : Int)) = true := decide_eq_true (by omega)
          go_wp2_with fail
          refine bodyPost_ret (results_tmp2 rfl _ _ _) rfl ⟨_, rfl, TrAt.nil _, fun _ => rfl, unhide HB6⟩
        · have hr := unhide HR
          rw [if_neg h128] at hr
          subst hr
          have hd : decide ((128 : Int) < (q : Int)) = false := decide_eq_false (by omega)
          have hd2 : ¬ (128 : Int) < (q : Int) := by omega
          clear h128
          go_wp2_with fail
          have hA := below_alloc' (w := w6) (.cells #[.slice a6 q c6] 27)
          have hcell := (VRow.new w6 27 [.slice a6 q c6]).cell 0 _ rfl
          refine bodyPost_ret (results_tmp2 rfl _ _ _) rfl ⟨_, rfl, .inr ⟨w6.heap.size, a6, c6, rfl, (VRow.new w6 27 [.slice a6 q c6]).lt, ?_, ?_, (unhide HE6).after hA⟩, fun h => absurd rfl h, (unhide HB6).trans (hA.mono (unhide HB6).size)⟩
          · show World.cell? _ _ = some (.slice a6 P.length c6)
            rw [unhide HQ]
            exact hcell
          · show P.length ≤ c6
            rw [unhide HQ]
            exact unhide HC6
end Go.Proofs.YtebjlmnhpfoglaaGreatDoor

/-
  The tree of entries: what Of answers. Conditions: those that each theorem names.
-/

namespace Go.Proofs.YtebjlmnhpfoglaaGreatDoor
open Go.RowKit

set_option maxRecDepth 100000 in
set_option maxHeartbeats 1000000 in
theorem treeOf_any (a : Option Addr) (cap : Nat) (l : List En) (ht : Eok l) (w : World) (h : EL w a l) :
    Calls Tryz.prog 19 #[.slice a l.length cap] w (MadeTr w (ofT l)) := by
  have HS := hide h
  have HT := hide ht
  obtain ⟨n, hn⟩ : ∃ n, l.length = n := ⟨_, rfl⟩
  have HN := hide hn
  have hl : n ≤ 50000 := by rw [← hn]; exact ht.len
  obtain ⟨R, hR⟩ : ∃ R, ofT l = R := ⟨_, rfl⟩
  have HR := hide hR
  rw [hn, hR]
  have HB0 := hide (below_alloc' (w := w) (.cells #[.slice none 0 0] 27))
  have HT0 : Hid (TrAt (w.alloc (.cells #[.slice none 0 0] 27)) (some ⟨w.heap.size, 0, none⟩) []) := hide (.inr ⟨w.heap.size, none, 0, rfl, (VRow.new w 27 [.slice none 0 0]).lt, (VRow.new w 27 [.slice none 0 0]).cell 0 _ rfl, Nat.le_refl _, EL.none _ _⟩)
  clear h ht hn hR
  go_enter Tryz.func19, Tryz.ntmps19
  go_wp2_with fail
  go_loopw [4, 13] (fun x i wr => ∃ (k : Nat) (q : Option Addr), k ≤ n ∧ i = .int .i64 k ∧ x = .pointer q ∧ TrAt wr q (ofT (l.take k)).1 ∧ (ofT (l.take k)).2 = 0 ∧ Below w.heap.size w wr) (fun _ i _ => n - (intOf i).toNat)
  case atStart => exact ⟨0, _, Nat.zero_le _, rfl, rfl, unhide HT0, rfl, unhide HB0⟩
  case round =>
    obtain ⟨k, q, hk, rfl, rfl, htr, h0, hb⟩ := hrel
    have HB := hide hb
    have HTR := hide htr
    have HZ0 := hide h0
    have HS1 := hide ((unhide HS).after hb)
    clear hb htr h0
    by_cases hlt : k < n
    · obtain ⟨x, hx⟩ : ∃ x, l[k]? = some x := ⟨_, List.getElem?_eq_getElem (by rw [unhide HN]; exact hlt)⟩
      obtain ⟨g, o, rfl, hg, hcell⟩ := unhide HS1 (by rw [unhide HN]; omega)
      obtain ⟨r, d, x0, x1, h5, h6⟩ := hcell k x hx
      have hm := List.mem_of_getElem? hx
      have HXP := hide ((unhide HT).path x hm)
      have HXF := hide ((unhide HT).few x hm)
      have HST : Hid (ofT (l.take (k + 1)) = setT (ofT (l.take k)).1 x.1 x.2) := hide (by
        rw [ofT_snoc l k x hx]
        unfold ofStep
        rw [if_neg (by rw [unhide HZ0]; decide)])
      have H6 := hide h6
      have HTT := hide (ofT_tr (l.take k))
      clear hx hcell hg hm h5 h6
      go_wp2_with (refine store_row (by rfl) 33 _ _ (by rfl) wr.heap.size (entL x r d) (by rfl) (by rfl) 33 zeroEnL (VRow.newAt rfl) 2 sizeEn rfl rfl (entL_one _ _ _) ?_; intro wz ho hr; have HZ := hide ((below_alloc' (w := wr) (.cells zeroEnL.toArray 33)).trans (ho.below (Nat.le_refl _))); have RZ := hide hr; clear ho hr x0 x1; have z0 := (unhide RZ).cell 0 _ rfl; have z1 := (unhide RZ).cell 1 _ rfl)
      have KS := hide (treeSet_any q (ofT (l.take k)).1 (unhide HTT) x.1 (by have := unhide HXP; omega) r d x.2 (unhide HXF) wz ((unhide HTR).after (unhide HZ)) ((unhide H6).after (unhide HZ)))
      rw [← unhide HST] at KS
      clear HST
      obtain ⟨S, hS⟩ : ∃ S, ofT (l.take (k + 1)) = S := ⟨_, rfl⟩
      have HSS := hide hS
      rw [hS] at KS
      clear hS
      refine (unhide KS).mono ?_
      rintro e w2 ⟨q2, rfl, ht2, hq2, hb2⟩
      have HT2 := hide ht2
      have HB2 := hide (below_grow (unhide HB) (Nat.le_refl _) (below_grow (unhide HZ) (Nat.le_refl _) hb2))
      clear ht2 hq2 hb2 z0 z1 KS
      by_cases hE : S.2 = 0
      · have hE2 : (S.2 == 0) = true := beq_iff_eq.2 hE
        go_wp2_with fail
        go_roundw
        case rel => exact ⟨k + 1, q2, by omega, by go_num, rfl, by rw [unhide HSS]; exact unhide HT2, by rw [unhide HSS]; exact hE, unhide HB2⟩
        case measure => simp [intOf]; omega
      · have hE2 : (S.2 == 0) = false := beq_eq_false_iff_ne.2 hE
        have hre : R = S := by
          have h1 := ofT_early l (k + 1) (by rw [unhide HSS]; exact hE)
          rw [unhide HR, unhide HSS] at h1
          exact h1
        have hs1 : S.1 = [] := by
          have h1 := ofT_bad (l := l.take (k + 1)) (by rw [unhide HSS]; exact hE)
          rw [unhide HSS] at h1
          exact h1
        subst hre
        have HS1' := hide hs1
        clear hs1
        go_wp2_with fail
        refine bodyPost_ret (results_tmp2 rfl _ _ _) rfl ⟨_, rfl, ?_, fun _ => rfl, unhide HB2⟩
        rw [unhide HS1']
        exact TrAt.nil _
    · obtain rfl : k = n := by omega
      have he : l.take k = l := List.take_of_length_le (by rw [unhide HN]; exact Nat.le_refl _)
      rw [he, unhide HR] at HTR HZ0
      have hz := unhide HZ0
      clear he
      go_wp2_with fail
      refine bodyPost_ret (results_tmp2 rfl _ _ _) rfl ⟨_, ?_, unhide HTR, fun h => absurd hz h, unhide HB⟩
      rw [hz]
      rfl
end Go.Proofs.YtebjlmnhpfoglaaGreatDoor

/-
  A region that draws its order, in the body of a range over a function: it may be walked as anywhere. Conditions: those that each theorem names.
-/

namespace Go.Proofs.YtebjlmnhpfoglaaGreatDoor
open Go.RowKit

theorem rows_round {P : Program} {n l : Nat} {row : String} {args : Array Value} {w : World} {R : Value → World → Prop} (h : Rows P row args w R) : RowsIn (Fence.wide.inRound l) n P row args w R :=
  fun c cs _ => let ⟨v, w', r, s⟩ := h c cs; ⟨v, w', r, by rw [fenced_inRound]; exact stepsIn_wide.2 s⟩
theorem oper_round {P : Program} {n l : Nat} {o : Oper} {a : Act} {w : World} {K : Act → World → Prop} {Q : Exit → Act → World → Prop} (hd : ∀ c, o.op ≠ .defer c) (h : o.wp P a w K Q) : o.wpIn (Fence.wide.inRound l) n P a w K Q := by
  unfold Oper.wp at h
  unfold Oper.wpIn
  refine ⟨fun _ _ => trivial, ?_⟩
  rw [Oper.semAt_eq _ _ _ hd]
  generalize (execOp a.eval o).run P w = r at h ⊢
  cases r with
  | ok x w' =>
    cases x <;> simp only [Oper.upon, Oper.uponIn] at h ⊢ <;>
      first
        | exact h
        | exact ⟨fun h => (by cases h), CallsIn.inRound l (callsIn_wide.2 h)⟩
        | exact ⟨fun h => (by cases h), rows_round h⟩
  | halt x w' => cases x <;> simp only [Oper.upon, Oper.uponIn] at h ⊢ <;> exact h
def noDefer (ops : Array Oper) : Bool := ops.all fun o => match o.op with | .defer _ => false | _ => true
theorem noDefer_spec {ops : Array Oper} (h : noDefer ops = true) (i : Nat) (o : Oper) (ho : ops[i]? = some o) : ∀ c, o.op ≠ .defer c := fun c e => by
  unfold noDefer at h
  rw [Array.all_eq_true] at h
  obtain ⟨hi, e2⟩ := Array.getElem?_eq_some_iff.1 ho
  have := h i hi
  rw [e2, e] at this
  cases this
theorem wpOp_round {P : Program} {n l i : Nat} {ops : Array Oper} {Q : Exit → Act → World → Prop} {K : Act → World → Prop} {a : Act} {w : World} (hd : noDefer ops = true) (hQ : ¬ LetsOut Q) (h : wpOp P ops Q i K a w) : wpOpIn (Fence.wide.inRound l) n P ops Q i K a w := by
  unfold wpOp at h
  unfold wpOpIn
  cases ho : ops[i]? with
  | none =>
    rw [ho] at h
    exact h
  | some o =>
    rw [ho] at h
    simp only at h ⊢
    by_cases hw : Region.wanted o (yielded ops a.tmps) = true
    · rw [if_pos hw] at h ⊢
      rcases h with h | h
      · exact oper_round (noDefer_spec hd i o ho) h
      · exact absurd h.2 hQ
    · rw [if_neg hw] at h ⊢
      exact ⟨fun _ _ => trivial, h⟩
theorem wpAny_round {P : Program} {n l : Nat} {md : Region.Mode} {ops : Array Oper} {Q : Exit → Act → World → Prop} (hd : noDefer ops = true) (hQ : ¬ LetsOut Q) : ∀ (fuel : Nat) (listed : Array Bool) (a : Act) (w : World), wpAny P md ops Q fuel listed a w → wpAnyIn (Fence.wide.inRound l) n P md ops Q fuel listed a w
  | 0, _, _, _, h => h
  | fuel + 1, _, _, _, h => ⟨h.1, fun i hi => wpOpIn_mono (fun a' w' h' => wpAny_round hd hQ fuel _ a' w' h') (wpOp_round hd hQ (h.2 i hi))⟩
/-- The region in the body of a range over a function. -/
theorem region_round {P : Program} {n l id : Nat} {ops : Array Oper} {Q : Exit → Act → World → Prop} {S : World → Prop} {a : Act} {w : World} (hm : P.follows .mixedOrders = true) (hd : noDefer ops = true) (hQ : ¬ LetsOut Q) (hS : S w.drew)
    (h : S w.drew → wpAnyH P .any ops Q S ops.size (Array.replicate ops.size false) a w.drew) : (Code.region id ops true).wpIn (Fence.wide.inRound l) n P Q a w :=
  wpIn_region_any hm (wpAny_round hd hQ _ _ _ _ (wpAny_of_held _ _ _ _ (h hS)))
/-- What a call that keeps all below its world's size keeps, for the range over a function that it stands in. -/
theorem keepsFrom_of_below {W W' : World} (B : Nat) (h : Below W.heap.size W W') : KeepsFrom B W W' := ⟨h.size, fun k _ _ hk _ => (h.block k (Array.getElem?_eq_some_iff.1 hk).1).trans hk⟩
end Go.Proofs.YtebjlmnhpfoglaaGreatDoor
