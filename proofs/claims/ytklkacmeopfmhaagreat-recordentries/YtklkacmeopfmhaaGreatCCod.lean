/-
  Plain facts on pieces that are put and taken: no program, no world. Conditions: none but those that each theorem names.
-/
import Derived.Test.YtklkacmeopfmhaaGreatCRow
namespace Go.Proofs.YtklkacmeopfmhaaGreat
open Go.RowKit

/-- Bytes as a text. -/
def str (l : List UInt8) : ByteArray := ⟨l.toArray⟩
theorem str_size (l : List UInt8) : (str l).size = l.length := by simp [str, ByteArray.size]
theorem str_data (l : List UInt8) : (str l).data.toList = l := by simp [str]
theorem str_of (s : ByteArray) : str s.data.toList = s := by cases s; simp [str]
theorem str_append (a b : List UInt8) : str a ++ str b = str (a ++ b) := ByteArray.mk_append_mk a b
theorem str_ext (l : List UInt8) (i j : Nat) : (str l).extract i j = str ((l.take j).drop i) := by
  rw [← str_of ((str l).extract i j)]
  congr 1
  simp [str, List.drop_take]
theorem size_data (s : ByteArray) : s.data.toList.length = s.size := by simp
/-- A piece. -/
structure Pc where
  kind : Int
  n : Int
  s : ByteArray
  d : List UInt8
/-- What was put, or what is left; and what is wrong. -/
abbrev St := List UInt8 × Int
def wput (st : St) (is : Bool) (b : List UInt8) : St := if st.2 ≠ 0 then st else if is then (st.1 ++ b, 0) else (st.1, 2)
def fail (st : St) (e : Int) : St := if st.2 = 0 then (st.1, e) else st
def wNumber (st : St) (n : Int) : St := wput st (decide (0 ≤ n) && decide (n ≤ 1073741824)) (Cnt.putL n)
def wText (st : St) (s : ByteArray) : St := wput st (decide (s.size ≤ 65536)) (Cnt.putL s.size ++ s.data.toList)
def flagB (is : Bool) : List UInt8 := if is then [1] else [0]
def wFlag (st : St) (is : Bool) : St := wput st true (flagB is)
def wDigest (st : St) (d : List UInt8) : St := wput st true d
/-- What is told, behind all that was put. -/
def told (st : St) : List UInt8 := if st.2 ≠ 0 then [] else st.1
def low4 (n : Int) : Int := bits BinOp.and IntKind.i64 n 15
def wPiece (st : St) (x : Pc) : St :=
  if x.kind = 0 then wNumber st x.n
  else if x.kind = 1 then wText st x.s
  else if x.kind = 2 then wFlag st (x.n == 1)
  else if x.kind = 3 then wDigest st x.d
  else if x.kind = 4 then fail st (low4 x.n)
  else st
def rNumber (st : St) (most : Int) : Int × St :=
  if st.2 ≠ 0 then (0, st)
  else if (Cnt.takeF st.1).2.2 ≠ 0 then (0, (st.1, (Cnt.takeF st.1).2.2))
  else if most < (Cnt.takeF st.1).1 then (0, (st.1, 2))
  else ((Cnt.takeF st.1).1, (st.1.drop (Cnt.takeF st.1).2.1.toNat, 0))
def rText (st : St) (most : Int) : List UInt8 × St :=
  if (rNumber st most).2.2 ≠ 0 then ([], (rNumber st most).2)
  else if ((rNumber st most).2.1.length : Int) < (rNumber st most).1 then ([], (st.1, 5))
  else ((rNumber st most).2.1.take (rNumber st most).1.toNat, ((rNumber st most).2.1.drop (rNumber st most).1.toNat, 0))
def rFlag (st : St) : Bool × St :=
  if st.2 ≠ 0 then (false, st)
  else match st.1 with
    | [] => (false, ([], 5))
    | b :: r => if 1 < b.toNat then (false, (b :: r, 7)) else (b == 1, (r, 0))
def zero32 : List UInt8 := List.replicate 32 0
def rDigest (st : St) : List UInt8 × St :=
  if st.2 ≠ 0 then (zero32, st)
  else if st.1.length < 32 then (zero32, (st.1, 5))
  else (st.1.take 32, (st.1.drop 32, 0))
def rDone (st : St) : Int := if st.2 = 0 ∧ st.1 ≠ [] then 6 else st.2

theorem putL_bound (n : Int) : (Cnt.putL n).length ≤ 5 := Cnt.putL_len n
theorem wput_len (st : St) (is : Bool) (b : List UInt8) : (wput st is b).1.length ≤ st.1.length + (if is then b.length else 0) := by
  unfold wput
  split
  · omega
  · cases is <;> simp
theorem wPiece_len {x : Pc} (hd : x.d.length = 32) (st : St) : (wPiece st x).1.length ≤ st.1.length + 65541 := by
  unfold wPiece
  split
  · have h1 := wput_len st (decide (0 ≤ x.n) && decide (x.n ≤ 1073741824)) (Cnt.putL x.n)
    have h2 := Cnt.putL_len x.n
    unfold wNumber
    split at h1 <;> omega
  · split
    · have h1 := wput_len st (decide (x.s.size ≤ 65536)) (Cnt.putL x.s.size ++ x.s.data.toList)
      have h2 := Cnt.putL_len x.s.size
      unfold wText
      rw [List.length_append, size_data] at h1
      split at h1
      · rename_i h3
        have := of_decide_eq_true h3
        omega
      · omega
    · split
      · have h1 := wput_len st true (flagB (x.n == 1))
        have h2 : (flagB (x.n == 1)).length = 1 := by unfold flagB; split <;> rfl
        unfold wFlag
        simp at h1
        omega
      · split
        · have h1 := wput_len st true x.d
          unfold wDigest
          simp at h1
          omega
        · split
          · unfold fail
            split <;> simp
          · omega
/-- What a piece comes to, where nothing is wrong with it. -/
def enc (x : Pc) : List UInt8 :=
  if x.kind = 0 then Cnt.putL x.n
  else if x.kind = 1 then Cnt.putL x.s.size ++ x.s.data.toList
  else if x.kind = 2 then flagB (x.n == 1)
  else if x.kind = 3 then x.d
  else []
def Okp (x : Pc) : Prop := (x.kind = 0 → 0 ≤ x.n ∧ x.n ≤ 1073741824) ∧ (x.kind = 1 → x.s.size ≤ 65536)
theorem wput_zero {st : St} {is : Bool} {b : List UInt8} (h : (wput st is b).2 = 0) : st.2 = 0 ∧ is = true ∧ wput st is b = (st.1 ++ b, 0) := by
  unfold wput at h ⊢
  split
  · rename_i h1
    rw [if_pos h1] at h
    exact absurd h h1
  · rename_i h1
    rw [if_neg h1] at h
    cases is with
    | false => simp at h
    | true => exact ⟨by simpa using h1, rfl, rfl⟩
theorem wPiece_zero {st : St} {x : Pc} (h : (wPiece st x).2 = 0) : st.2 = 0 ∧ Okp x ∧ wPiece st x = (st.1 ++ enc x, 0) := by
  unfold wPiece enc Okp at *
  by_cases h0 : x.kind = 0
  · rw [if_pos h0] at h ⊢
    obtain ⟨h1, h2, h3⟩ := wput_zero h
    simp only [Bool.and_eq_true, decide_eq_true_eq] at h2
    exact ⟨h1, ⟨fun _ => h2, fun h4 => by omega⟩, by rw [if_pos h0]; exact h3⟩
  · rw [if_neg h0] at h ⊢
    by_cases h1 : x.kind = 1
    · rw [if_pos h1] at h ⊢
      obtain ⟨h2, h3, h4⟩ := wput_zero h
      exact ⟨h2, ⟨fun h5 => absurd h5 h0, fun _ => of_decide_eq_true h3⟩, by rw [if_neg h0, if_pos h1]; exact h4⟩
    · rw [if_neg h1] at h ⊢
      by_cases h2 : x.kind = 2
      · rw [if_pos h2] at h ⊢
        obtain ⟨h3, h4, h5⟩ := wput_zero h
        exact ⟨h3, ⟨fun h6 => absurd h6 h0, fun h6 => absurd h6 h1⟩, by rw [if_neg h0, if_neg h1, if_pos h2]; exact h5⟩
      · rw [if_neg h2] at h ⊢
        by_cases h3 : x.kind = 3
        · rw [if_pos h3] at h ⊢
          obtain ⟨h4, h5, h6⟩ := wput_zero h
          exact ⟨h4, ⟨fun h6 => absurd h6 h0, fun h6 => absurd h6 h1⟩, by rw [if_neg h0, if_neg h1, if_neg h2, if_pos h3]; exact h6⟩
        · rw [if_neg h3] at h ⊢
          rw [if_neg h0, if_neg h1, if_neg h2, if_neg h3, List.append_nil]
          refine ⟨?_, ⟨fun h6 => absurd h6 h0, fun h6 => absurd h6 h1⟩, ?_⟩
          · by_cases h4 : x.kind = 4
            · rw [if_pos h4] at h
              unfold fail at h
              split at h
              · assumption
              · exact h
            · rw [if_neg h4] at h; exact h
          · by_cases h4 : x.kind = 4
            · rw [if_pos h4] at h ⊢
              unfold fail at h ⊢
              split at h
              · rename_i h5; rw [if_pos h5]; exact Prod.ext rfl h
              · rename_i h5; exact absurd h h5
            · rw [if_neg h4] at h ⊢; exact Prod.ext rfl h
/-- All pieces, one behind the other. -/
def wAll (st : St) (l : List Pc) : St := l.foldl wPiece st
def encs (l : List Pc) : List UInt8 := (l.map enc).flatten
theorem wAll_zero : ∀ (l : List Pc) (st : St), (wAll st l).2 = 0 → st.2 = 0 ∧ (∀ x ∈ l, Okp x) ∧ wAll st l = (st.1 ++ encs l, 0)
  | [], st, h => ⟨h, fun x hx => by simp at hx, by simp [encs, wAll]; exact Prod.ext rfl h⟩
  | x :: l, st, h => by
    obtain ⟨h1, h2, h3⟩ := wAll_zero l (wPiece st x) h
    obtain ⟨h4, h5, h6⟩ := wPiece_zero h1
    refine ⟨h4, fun y hy => ?_, ?_⟩
    · rcases List.mem_cons.1 hy with rfl | hy
      · exact h5
      · exact h2 y hy
    · show wAll (wPiece st x) l = _
      rw [h3, h6]
      simp [encs]
theorem wAll_snoc (st : St) (l : List Pc) (k : Nat) (x : Pc) (h : l[k]? = some x) : wAll st (l.take (k + 1)) = wPiece (wAll st (l.take k)) x := by
  rw [List.take_add_one, h]
  simp [wAll]
theorem encs_drop (l : List Pc) (k : Nat) (x : Pc) (h : l[k]? = some x) : encs (l.drop k) = enc x ++ encs (l.drop (k + 1)) := by
  have hk := (List.getElem?_eq_some_iff.1 h).1
  rw [List.drop_eq_getElem_cons hk]
  rw [List.getElem?_eq_getElem hk] at h
  injection h with h
  simp [encs, h]
theorem back_number {n : Int} (h0 : 0 ≤ n) (h1 : n ≤ 1073741824) (most : Int) (hm : n ≤ most) (r : List UInt8) : rNumber (Cnt.putL n ++ r, 0) most = (n, (r, 0)) := by
  have h := Cnt.takeF_put n h0 h1 r
  unfold rNumber
  rw [if_neg (by simp), if_neg (by rw [h]; simp), if_neg (by rw [h]; simp; omega), h]
  simp
theorem back_text {s : ByteArray} (hs : s.size ≤ 65536) (r : List UInt8) : rText ((Cnt.putL s.size ++ s.data.toList) ++ r, 0) 65536 = (s.data.toList, (r, 0)) := by
  have h := back_number (n := s.size) (by omega) (by omega) 65536 (by omega) (s.data.toList ++ r)
  unfold rText
  rw [List.append_assoc, h]
  have hl : s.data.toList.length = s.size := size_data s
  rw [if_neg (by simp), if_neg (by rw [List.length_append, hl]; simp; omega)]
  simp only [Int.toNat_natCast]
  rw [← hl, List.take_left, List.drop_left]
theorem back_flag (is : Bool) (r : List UInt8) : rFlag (flagB is ++ r, 0) = (is, (r, 0)) := by
  cases is <;> simp [rFlag, flagB]
theorem back_digest {d : List UInt8} (hd : d.length = 32) (r : List UInt8) : rDigest (d ++ r, 0) = (d, (r, 0)) := by
  unfold rDigest
  rw [if_neg (by simp), if_neg (by rw [List.length_append]; omega)]
  show ((d ++ r).take 32, ((d ++ r).drop 32, (0 : Int))) = _
  rw [← hd, List.take_left, List.drop_left]
end Go.Proofs.YtklkacmeopfmhaaGreat
