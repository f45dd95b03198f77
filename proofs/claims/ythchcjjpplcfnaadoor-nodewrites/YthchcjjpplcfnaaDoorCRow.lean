/-
  Rows of values in a block: their cells, a store into one, what stays as it was; a row as a whole.
-/
import Derived.Test.YthchcjjpplcfnaaDoorCMath
import Derived.Test.YthchcjjpplcfnaaDoorRow
import Derived.Outline
import Derived.Deep.MidRow
import Derived.Deep.WholeRow
import Derived.RegionTactic
import Derived.BigRegion
import Derived.OwnWalk
import Derived.Laws.ResultCell
namespace Go.Proofs.YthchcjjpplcfnaaDoor
open Go.RowKit

/-- Of what was there nothing turns but the blocks that are owned. -/
structure Beside (own : Nat → Prop) (w w' : World) : Prop where
  os : w'.os = w.os
  tape : w'.tape = w.tape
  output : w'.output = w.output
  size : w.heap.size ≤ w'.heap.size
  block : ∀ k, k < w.heap.size → ¬ own k → w'.heap[k]? = w.heap[k]?
theorem beside_of {own : Nat → Prop} {w w' : World} (h : Below w.heap.size w w') : Beside own w w' := ⟨h.os, h.tape, h.output, h.size, fun k hk _ => h.block k hk⟩
theorem Beside.refl (own : Nat → Prop) (w : World) : Beside own w w := beside_of (Below.refl _ _)
theorem Beside.trans {own : Nat → Prop} {a b c : World} (h : Beside own a b) (h2 : Beside own b c) : Beside own a c :=
  ⟨h2.os.trans h.os, h2.tape.trans h.tape, h2.output.trans h.output, Nat.le_trans h.size h2.size, fun k hk hk2 => (h2.block k (Nat.lt_of_lt_of_le hk h.size) hk2).trans (h.block k hk hk2)⟩
theorem Beside.below {own : Nat → Prop} {w w' : World} {B : Nat} (h : Beside own w w') (hB : B ≤ w.heap.size) (ho : ∀ g, own g → B ≤ g) : Below B w w' :=
  ⟨h.os, h.tape, h.output, h.size, fun k hk => h.block k (by omega) fun hk' => by have := ho k hk'; omega⟩
theorem beside_set (q k : Nat) (w : World) (v : Value) : Beside (· = q) w (w.setCell ⟨q, k, none⟩ v) :=
  ⟨rfl, rfl, rfl, by simp, fun j _ hj => heap_setCell_other w ⟨q, k, none⟩ j v hj⟩
theorem VRow.beside {own : Nat → Prop} {W W' : World} {A T : Nat} {vs : List Value} (h : VRow W A T vs) (hb : Beside own W W') (hA : ¬ own A) : VRow W' A T vs := (hb.block A h.lt hA).trans h
end Go.Proofs.YthchcjjpplcfnaaDoor

namespace Go.Proofs.YthchcjjpplcfnaaDoor
open Go.RowKit

/-- Bytes as a text. -/
def str (l : List UInt8) : ByteArray := ⟨l.toArray⟩
theorem str_size (l : List UInt8) : (str l).size = l.length := by simp [str, ByteArray.size]
theorem str_data (l : List UInt8) : (str l).data.toList = l := by simp [str]
theorem str_of (s : ByteArray) : str s.data.toList = s := by cases s; simp [str]
theorem str_append (a b : List UInt8) : str a ++ str b = str (a ++ b) := ByteArray.mk_append_mk a b
theorem str_ext (l : List UInt8) (i j : Nat) : (str l).extract i j = str ((l.take j).drop i) := by
  rw [← str_of ((str l).extract i j)]
  congr 1
  simp [str, List.drop_take]
theorem size_data (s : ByteArray) : s.data.toList.length = s.size := by simp
/-- A piece. -/
structure Pc where
  kind : Int
  n : Int
  s : ByteArray
  d : List UInt8
/-- What was put, or what is left; and what is wrong. -/
abbrev St := List UInt8 × Int
def wput (st : St) (is : Bool) (b : List UInt8) : St := if st.2 ≠ 0 then st else if is then (st.1 ++ b, 0) else (st.1, 2)
def fail (st : St) (e : Int) : St := if st.2 = 0 then (st.1, e) else st
def wNumber (st : St) (n : Int) : St := wput st (decide (0 ≤ n) && decide (n ≤ 1073741824)) (Cnt.putL n)
def wText (st : St) (s : ByteArray) : St := wput st (decide (s.size ≤ 65536)) (Cnt.putL s.size ++ s.data.toList)
def flagB (is : Bool) : List UInt8 := if is then [1] else [0]
def wFlag (st : St) (is : Bool) : St := wput st true (flagB is)
def wDigest (st : St) (d : List UInt8) : St := wput st true d
/-- What is told, behind all that was put. -/
def told (st : St) : List UInt8 := if st.2 ≠ 0 then [] else st.1
def low4 (n : Int) : Int := bits BinOp.and IntKind.i64 n 15
def wPiece (st : St) (x : Pc) : St :=
  if x.kind = 0 then wNumber st x.n
  else if x.kind = 1 then wText st x.s
  else if x.kind = 2 then wFlag st (x.n == 1)
  else if x.kind = 3 then wDigest st x.d
  else if x.kind = 4 then fail st (low4 x.n)
  else st
def rNumber (st : St) (most : Int) : Int × St :=
  if st.2 ≠ 0 then (0, st)
  else if (Cnt.takeF st.1).2.2 ≠ 0 then (0, (st.1, (Cnt.takeF st.1).2.2))
  else if most < (Cnt.takeF st.1).1 then (0, (st.1, 2))
  else ((Cnt.takeF st.1).1, (st.1.drop (Cnt.takeF st.1).2.1.toNat, 0))
def rText (st : St) (most : Int) : List UInt8 × St :=
  if (rNumber st most).2.2 ≠ 0 then ([], (rNumber st most).2)
  else if ((rNumber st most).2.1.length : Int) < (rNumber st most).1 then ([], (st.1, 5))
  else ((rNumber st most).2.1.take (rNumber st most).1.toNat, ((rNumber st most).2.1.drop (rNumber st most).1.toNat, 0))
def rFlag (st : St) : Bool × St :=
  if st.2 ≠ 0 then (false, st)
  else match st.1 with
    | [] => (false, ([], 5))
    | b :: r => if 1 < b.toNat then (false, (b :: r, 7)) else (b == 1, (r, 0))
def zero32 : List UInt8 := List.replicate 32 0
def rDigest (st : St) : List UInt8 × St :=
  if st.2 ≠ 0 then (zero32, st)
  else if st.1.length < 32 then (zero32, (st.1, 5))
  else (st.1.take 32, (st.1.drop 32, 0))
def rDone (st : St) : Int := if st.2 = 0 ∧ st.1 ≠ [] then 6 else st.2

theorem putL_bound (n : Int) : (Cnt.putL n).length ≤ 5 := Cnt.putL_len n
theorem wput_len (st : St) (is : Bool) (b : List UInt8) : (wput st is b).1.length ≤ st.1.length + (if is then b.length else 0) := by
  unfold wput
  split
  · omega
  · cases is <;> simp
theorem wPiece_len {x : Pc} (hd : x.d.length = 32) (st : St) : (wPiece st x).1.length ≤ st.1.length + 65541 := by
  unfold wPiece
  split
  · have h1 := wput_len st (decide (0 ≤ x.n) && decide (x.n ≤ 1073741824)) (Cnt.putL x.n)
    have h2 := Cnt.putL_len x.n
    unfold wNumber
    split at h1 <;> omega
  · split
    · have h1 := wput_len st (decide (x.s.size ≤ 65536)) (Cnt.putL x.s.size ++ x.s.data.toList)
      have h2 := Cnt.putL_len x.s.size
      unfold wText
      rw [List.length_append, size_data] at h1
      split at h1
      · rename_i h3
        have := of_decide_eq_true h3
        omega
      · omega
    · split
      · have h1 := wput_len st true (flagB (x.n == 1))
        have h2 : (flagB (x.n == 1)).length = 1 := by unfold flagB; split <;> rfl
        unfold wFlag
        simp at h1
        omega
      · split
        · have h1 := wput_len st true x.d
          unfold wDigest
          simp at h1
          omega
        · split
          · unfold fail
            split <;> simp
          · omega
/-- What a piece comes to, where nothing is wrong with it. -/
def enc (x : Pc) : List UInt8 :=
  if x.kind = 0 then Cnt.putL x.n
  else if x.kind = 1 then Cnt.putL x.s.size ++ x.s.data.toList
  else if x.kind = 2 then flagB (x.n == 1)
  else if x.kind = 3 then x.d
  else []
def Okp (x : Pc) : Prop := (x.kind = 0 → 0 ≤ x.n ∧ x.n ≤ 1073741824) ∧ (x.kind = 1 → x.s.size ≤ 65536)
theorem wput_zero {st : St} {is : Bool} {b : List UInt8} (h : (wput st is b).2 = 0) : st.2 = 0 ∧ is = true ∧ wput st is b = (st.1 ++ b, 0) := by
  unfold wput at h ⊢
  split
  · rename_i h1
    rw [if_pos h1] at h
    exact absurd h h1
  · rename_i h1
    rw [if_neg h1] at h
    cases is with
    | false => simp at h
    | true => exact ⟨by simpa using h1, rfl, rfl⟩
theorem wPiece_zero {st : St} {x : Pc} (h : (wPiece st x).2 = 0) : st.2 = 0 ∧ Okp x ∧ wPiece st x = (st.1 ++ enc x, 0) := by
  unfold wPiece enc Okp at *
  by_cases h0 : x.kind = 0
  · rw [if_pos h0] at h ⊢
    obtain ⟨h1, h2, h3⟩ := wput_zero h
    simp only [Bool.and_eq_true, decide_eq_true_eq] at h2
    exact ⟨h1, ⟨fun _ => h2, fun h4 => by omega⟩, by rw [if_pos h0]; exact h3⟩
  · rw [if_neg h0] at h ⊢
    by_cases h1 : x.kind = 1
    · rw [if_pos h1] at h ⊢
      obtain ⟨h2, h3, h4⟩ := wput_zero h
      exact ⟨h2, ⟨fun h5 => absurd h5 h0, fun _ => of_decide_eq_true h3⟩, by rw [if_neg h0, if_pos h1]; exact h4⟩
    · rw [if_neg h1] at h ⊢
      by_cases h2 : x.kind = 2
      · rw [if_pos h2] at h ⊢
        obtain ⟨h3, h4, h5⟩ := wput_zero h
        exact ⟨h3, ⟨fun h6 => absurd h6 h0, fun h6 => absurd h6 h1⟩, by rw [if_neg h0, if_neg h1, if_pos h2]; exact h5⟩
      · rw [if_neg h2] at h ⊢
        by_cases h3 : x.kind = 3
        · rw [if_pos h3] at h ⊢
          obtain ⟨h4, h5, h6⟩ := wput_zero h
          exact ⟨h4, ⟨fun h6 => absurd h6 h0, fun h6 => absurd h6 h1⟩, by rw [if_neg h0, if_neg h1, if_neg h2, if_pos h3]; exact h6⟩
        · rw [if_neg h3] at h ⊢
          rw [if_neg h0, if_neg h1, if_neg h2, if_neg h3, List.append_nil]
          refine ⟨?_, ⟨fun h6 => absurd h6 h0, fun h6 => absurd h6 h1⟩, ?_⟩
          · by_cases h4 : x.kind = 4
            · rw [if_pos h4] at h
              unfold fail at h
              split at h
              · assumption
              · exact h
            · rw [if_neg h4] at h; exact h
          · by_cases h4 : x.kind = 4
            · rw [if_pos h4] at h ⊢
              unfold fail at h ⊢
              split at h
              · rename_i h5; rw [if_pos h5]; exact Prod.ext rfl h
              · rename_i h5; exact absurd h h5
            · rw [if_neg h4] at h ⊢; exact Prod.ext rfl h
/-- All pieces, one behind the other. -/
def wAll (st : St) (l : List Pc) : St := l.foldl wPiece st
def encs (l : List Pc) : List UInt8 := (l.map enc).flatten
theorem wAll_zero : ∀ (l : List Pc) (st : St), (wAll st l).2 = 0 → st.2 = 0 ∧ (∀ x ∈ l, Okp x) ∧ wAll st l = (st.1 ++ encs l, 0)
  | [], st, h => ⟨h, fun x hx => by simp at hx, by simp [encs, wAll]; exact Prod.ext rfl h⟩
  | x :: l, st, h => by
    obtain ⟨h1, h2, h3⟩ := wAll_zero l (wPiece st x) h
    obtain ⟨h4, h5, h6⟩ := wPiece_zero h1
    refine ⟨h4, fun y hy => ?_, ?_⟩
    · rcases List.mem_cons.1 hy with rfl | hy
      · exact h5
      · exact h2 y hy
    · show wAll (wPiece st x) l = _
      rw [h3, h6]
      simp [encs]
theorem wAll_snoc (st : St) (l : List Pc) (k : Nat) (x : Pc) (h : l[k]? = some x) : wAll st (l.take (k + 1)) = wPiece (wAll st (l.take k)) x := by
  rw [List.take_add_one, h]
  simp [wAll]
theorem encs_drop (l : List Pc) (k : Nat) (x : Pc) (h : l[k]? = some x) : encs (l.drop k) = enc x ++ encs (l.drop (k + 1)) := by
  have hk := (List.getElem?_eq_some_iff.1 h).1
  rw [List.drop_eq_getElem_cons hk]
  rw [List.getElem?_eq_getElem hk] at h
  injection h with h
  simp [encs, h]
theorem back_number {n : Int} (h0 : 0 ≤ n) (h1 : n ≤ 1073741824) (most : Int) (hm : n ≤ most) (r : List UInt8) : rNumber (Cnt.putL n ++ r, 0) most = (n, (r, 0)) := by
  have h := Cnt.takeF_put n h0 h1 r
  unfold rNumber
  rw [if_neg (by simp), if_neg (by rw [h]; simp), if_neg (by rw [h]; simp; omega), h]
  simp
theorem back_text {s : ByteArray} (hs : s.size ≤ 65536) (r : List UInt8) : rText ((Cnt.putL s.size ++ s.data.toList) ++ r, 0) 65536 = (s.data.toList, (r, 0)) := by
  have h := back_number (n := s.size) (by omega) (by omega) 65536 (by omega) (s.data.toList ++ r)
  unfold rText
  rw [List.append_assoc, h]
  have hl : s.data.toList.length = s.size := size_data s
  rw [if_neg (by simp), if_neg (by rw [List.length_append, hl]; simp; omega)]
  simp only [Int.toNat_natCast]
  rw [← hl, List.take_left, List.drop_left]
theorem back_flag (is : Bool) (r : List UInt8) : rFlag (flagB is ++ r, 0) = (is, (r, 0)) := by
  cases is <;> simp [rFlag, flagB]
theorem back_digest {d : List UInt8} (hd : d.length = 32) (r : List UInt8) : rDigest (d ++ r, 0) = (d, (r, 0)) := by
  unfold rDigest
  rw [if_neg (by simp), if_neg (by rw [List.length_append]; omega)]
  show ((d ++ r).take 32, ((d ++ r).drop 32, (0 : Int))) = _
  rw [← hd, List.take_left, List.drop_left]
end Go.Proofs.YthchcjjpplcfnaaDoor

namespace Go.Proofs.YthchcjjpplcfnaaDoor
open Go.RowKit

/-- The document's writer, or reader, in its block. -/
def Doc (W : World) (q T : Nat) (st : St) : Prop := VRow W q T [.string (str st.1), .int .i64 st.2]
def DocMade (q T : Nat) (w : World) (st : St) (v : Value) (e : Ending) (w' : World) : Prop := e = .returned v ∧ Doc w' q T st ∧ Beside (· = q) w w'
theorem Doc.c0 {W : World} {q T : Nat} {st : St} (h : Doc W q T st) : W.cell? ⟨q, 0, none⟩ = some (.string (str st.1)) := VRow.cell h 0 _ rfl
theorem Doc.c1 {W : World} {q T : Nat} {st : St} (h : Doc W q T st) : W.cell? ⟨q, 1, none⟩ = some (.int .i64 st.2) := VRow.cell h 1 _ rfl
theorem Doc.f0 {W : World} {q T : Nat} {st : St} (h : Doc W q T st) : W.frozen? ⟨q, 0, none⟩ = false := VRow.frozen h 0
theorem Doc.f1 {W : World} {q T : Nat} {st : St} (h : Doc W q T st) : W.frozen? ⟨q, 1, none⟩ = false := VRow.frozen h 1
theorem Doc.set0 {W : World} {q T : Nat} {st : St} (h : Doc W q T st) (b : List UInt8) : Doc (W.setCell ⟨q, 0, none⟩ (.string (str b))) q T (b, st.2) := VRow.set h 0 _
theorem Doc.set1 {W : World} {q T : Nat} {st : St} (h : Doc W q T st) (e : Int) : Doc (W.setCell ⟨q, 1, none⟩ (.int .i64 e)) q T (st.1, e) := VRow.set h 1 _
theorem Doc.after {W W' : World} {q T : Nat} {st : St} (h : Doc W q T st) (hb : Below W.heap.size W W') : Doc W' q T st := VRow.after h hb
theorem Doc.lt {W : World} {q T : Nat} {st : St} (h : Doc W q T st) : q < W.heap.size := VRow.lt h
theorem docMade_of {q T : Nat} {w w1 w' : World} {st : St} {v : Value} {e : Ending} (hb : Below w.heap.size w w1) (h : DocMade q T w1 st v e w') : DocMade q T w st v e w' := ⟨h.1, h.2.1, (beside_of hb).trans h.2.2⟩
theorem cat_ok {a b : List UInt8} (h : a.length + b.length ≤ 4611686018427387904) : ¬ ((str a).size + (str b).size > 9223372036854775807) := by rw [str_size, str_size]; omega

set_option maxRecDepth 100000 in
set_option maxHeartbeats 400000 in
theorem refput_any (q : Nat) (st : St) (is : Bool) (s : List UInt8) (hs : is = true → st.1.length + s.length ≤ 4611686018427387904) (w : World) (h : Doc w q 49 st) :
    Calls Tryd.prog 44 #[.pointer (some ⟨q, 0, none⟩), .bool is, .string (str s)] w (DocMade q 49 w (wput st is s) (.tuple #[])) := by
  obtain ⟨b, e⟩ := st
  have c0 := h.c0
  have c1 := h.c1
  have f0 := h.f0
  have f1 := h.f1
  dsimp only at c0 c1 hs
  have HD := hide h
  clear h
  by_cases he : e = 0
  · subst he
    cases is with
    | true =>
      have hcat := cat_ok (hs rfl)
      have HE : Hid (wput (b, 0) true s = (b ++ s, 0)) := hide rfl
      rw [unhide HE]
      go_enter Tryd.func44, Tryd.ntmps44
      go_wp2_with fail
      go_end0
      have h1 := (unhide HD).set0 (b ++ s)
      rw [← str_append] at h1
      exact ⟨rfl, h1, beside_set _ _ _ _⟩
    | false =>
      have HE : Hid (wput (b, 0) false s = (b, 2)) := hide rfl
      rw [unhide HE]
      go_enter Tryd.func44, Tryd.ntmps44
      go_wp2_with fail
      go_end0
      exact ⟨rfl, (unhide HD).set1 2, beside_set _ _ _ _⟩
  · have hne : (e != 0) = true := by simp [he]
    have HE : Hid (wput (b, e) is s = (b, e)) := hide (if_pos he)
    rw [unhide HE]
    go_enter Tryd.func44, Tryd.ntmps44
    go_wp2_with fail
    go_end0
    exact ⟨rfl, unhide HD, Beside.refl _ _⟩

set_option maxRecDepth 100000 in
set_option maxHeartbeats 400000 in
theorem refNumberW_any (q : Nat) (st : St) (n : Int) (hs : st.1.length ≤ 100000000) (w : World) (h : Doc w q 49 st) :
    Calls Tryd.prog 21 #[.pointer (some ⟨q, 0, none⟩), .int .i64 n] w (DocMade q 49 w (wNumber st n) (.tuple #[])) := by
  have KP := hide (refPut_all n w)
  have KD := hide fun w' (hb : Below w.heap.size w w') (is : Bool) => refput_any q st is (Cnt.putL n) (fun _ => by have := Cnt.putL_len n; omega) w' (h.after hb)
  rw [show (⟨(Cnt.putL n).toArray⟩ : ByteArray) = str (Cnt.putL n) from rfl] at KP
  unfold wNumber
  clear h
  generalize Cnt.putL n = P at KP KD ⊢
  by_cases h0 : 0 ≤ n
  · rw [decide_eq_true h0, Bool.true_and]
    by_cases h1 : n ≤ 1073741824
    · rw [decide_eq_true h1]
      go_enter Tryd.func21, Tryd.ntmps21
      go_wp2_with fail
      refine (unhide KP).mono ?_
      rintro e w1 ⟨rfl, hb⟩
      have HB := hide hb
      clear hb
      go_wp2_with fail
      refine (unhide KD _ (unhide HB) _).mono ?_
      rintro e w2 hm
      obtain ⟨rfl, h2, h3⟩ := docMade_of (unhide HB) hm
      have H2 := hide h2
      have H3 := hide h3
      clear hm h2 h3
      go_wp2_with fail
      go_end0
      exact ⟨rfl, unhide H2, unhide H3⟩
    · rw [decide_eq_false h1]
      have h1' : 1073741824 < n := by omega
      go_enter Tryd.func21, Tryd.ntmps21
      go_wp2_with fail
      refine (unhide KP).mono ?_
      rintro e w1 ⟨rfl, hb⟩
      have HB := hide hb
      clear hb
      go_wp2_with fail
      refine (unhide KD _ (unhide HB) _).mono ?_
      rintro e w2 hm
      obtain ⟨rfl, h2, h3⟩ := docMade_of (unhide HB) hm
      have H2 := hide h2
      have H3 := hide h3
      clear hm h2 h3
      go_wp2_with fail
      go_end0
      exact ⟨rfl, unhide H2, unhide H3⟩
  · rw [decide_eq_false h0, Bool.false_and]
    have h0' : n < 0 := by omega
    go_enter Tryd.func21, Tryd.ntmps21
    go_wp2_with fail
    refine (unhide KP).mono ?_
    rintro e w1 ⟨rfl, hb⟩
    have HB := hide hb
    clear hb
    go_wp2_with fail
    refine (unhide KD _ (unhide HB) _).mono ?_
    rintro e w2 hm
    obtain ⟨rfl, h2, h3⟩ := docMade_of (unhide HB) hm
    have H2 := hide h2
    have H3 := hide h3
    clear hm h2 h3
    go_wp2_with fail
    go_end0
    exact ⟨rfl, unhide H2, unhide H3⟩

theorem textCat (s : ByteArray) (hs : s.size ≤ 9223372036854775807) : ¬ ((str (Cnt.putL s.size)).size + s.size > 9223372036854775807) := by
  rw [str_size]
  have h := Cnt.putL_len s.size
  by_cases h1 : (1073741824 : Int) < s.size
  · rw [Cnt.putL_no _ (.inr h1)]
    simp
    omega
  · omega

set_option maxRecDepth 100000 in
set_option maxHeartbeats 400000 in
theorem refTextW_any (q : Nat) (st : St) (s : ByteArray) (hl : s.size ≤ 9223372036854775807) (hs : st.1.length ≤ 100000000) (w : World) (h : Doc w q 49 st) :
    Calls Tryd.prog 22 #[.pointer (some ⟨q, 0, none⟩), .string s] w (DocMade q 49 w (wText st s) (.tuple #[])) := by
  have KP := hide (refPut_all s.size w)
  have KD := hide fun w' (hb : Below w.heap.size w w') => refput_any q st (decide (s.size ≤ 65536)) (Cnt.putL s.size ++ s.data.toList) (fun h1 => by have := Cnt.putL_len s.size; have := of_decide_eq_true h1; rw [List.length_append, size_data]; omega) w' (h.after hb)
  rw [show (⟨(Cnt.putL s.size).toArray⟩ : ByteArray) = str (Cnt.putL s.size) from rfl] at KP
  have hcat := textCat s hl
  rw [← str_append, str_of] at KD
  unfold wText
  clear h
  generalize wput st (decide (s.size ≤ 65536)) (Cnt.putL s.size ++ s.data.toList) = R at KD ⊢
  generalize str (Cnt.putL s.size) = P at KP KD hcat
  by_cases h1 : s.size ≤ 65536
  · have hd : decide (s.size ≤ 65536) = true := decide_eq_true h1
    rw [hd] at KD
    have hz : (s.size : Int) ≤ 65536 := by omega
    clear hd
    go_enter Tryd.func22, Tryd.ntmps22
    go_wp2_with fail
    refine (unhide KP).mono ?_
    rintro e w1 ⟨rfl, hb⟩
    have HB := hide hb
    clear hb
    go_wp2_with fail
    refine (unhide KD _ (unhide HB)).mono ?_
    rintro e w2 hm
    obtain ⟨rfl, h2, h3⟩ := docMade_of (unhide HB) hm
    have H2 := hide h2
    have H3 := hide h3
    clear hm h2 h3
    go_wp2_with fail
    go_end0
    exact ⟨rfl, unhide H2, unhide H3⟩
  · have hd : decide (s.size ≤ 65536) = false := decide_eq_false h1
    rw [hd] at KD
    have hz : ¬ (s.size : Int) ≤ 65536 := by omega
    clear hd
    go_enter Tryd.func22, Tryd.ntmps22
    go_wp2_with fail
    refine (unhide KP).mono ?_
    rintro e w1 ⟨rfl, hb⟩
    have HB := hide hb
    clear hb
    go_wp2_with fail
    refine (unhide KD _ (unhide HB)).mono ?_
    rintro e w2 hm
    obtain ⟨rfl, h2, h3⟩ := docMade_of (unhide HB) hm
    have H2 := hide h2
    have H3 := hide h3
    clear hm h2 h3
    go_wp2_with fail
    go_end0
    exact ⟨rfl, unhide H2, unhide H3⟩

set_option maxRecDepth 100000 in
set_option maxHeartbeats 400000 in
theorem refFlagW_any (q : Nat) (st : St) (is : Bool) (hs : st.1.length ≤ 100000000) (w : World) (h : Doc w q 49 st) :
    Calls Tryd.prog 43 #[.pointer (some ⟨q, 0, none⟩), .bool is] w (DocMade q 49 w (wFlag st is) (.tuple #[])) := by
  have KD := hide (refput_any q st true (flagB is) (fun _ => by have h2 : (flagB is).length = 1 := by { unfold flagB; split <;> rfl }; omega) w h)
  unfold wFlag
  clear h
  cases is with
  | true =>
    rw [show str (flagB true) = ⟨#[1]⟩ from rfl] at KD
    generalize wput st true (flagB true) = R at KD ⊢
    go_enter Tryd.func43, Tryd.ntmps43
    go_wp2_with fail
    refine (unhide KD).mono ?_
    rintro e w2 ⟨rfl, h2, h3⟩
    have H2 := hide h2
    have H3 := hide h3
    clear h2 h3
    go_wp2_with fail
    go_end0
    exact ⟨rfl, unhide H2, unhide H3⟩
  | false =>
    rw [show str (flagB false) = ⟨#[0]⟩ from rfl] at KD
    generalize wput st true (flagB false) = R at KD ⊢
    go_enter Tryd.func43, Tryd.ntmps43
    go_wp2_with fail
    refine (unhide KD).mono ?_
    rintro e w2 ⟨rfl, h2, h3⟩
    have H2 := hide h2
    have H3 := hide h3
    clear h2 h3
    go_wp2_with fail
    go_end0
    exact ⟨rfl, unhide H2, unhide H3⟩

set_option maxRecDepth 100000 in
set_option maxHeartbeats 400000 in
theorem refFailW_any (q : Nat) (st : St) (x : Int) (w : World) (h : Doc w q 49 st) :
    Calls Tryd.prog 19 #[.pointer (some ⟨q, 0, none⟩), .int .i64 x] w (DocMade q 49 w (fail st x) (.tuple #[])) := by
  obtain ⟨b, e⟩ := st
  have c1 := h.c1
  have f1 := h.f1
  dsimp only at c1
  have HD := hide h
  clear h
  by_cases he : e = 0
  · subst he
    rw [show fail (b, 0) x = (b, x) from rfl]
    go_enter Tryd.func19, Tryd.ntmps19
    go_wp2_with fail
    go_end0
    exact ⟨rfl, (unhide HD).set1 x, beside_set _ _ _ _⟩
  · have hne : (e == 0) = false := by simp [he]
    rw [show fail (b, e) x = (b, e) from if_neg he]
    go_enter Tryd.func19, Tryd.ntmps19
    go_wp2_with fail
    go_end0
    exact ⟨rfl, unhide HD, Beside.refl _ _⟩

set_option maxRecDepth 100000 in
set_option maxHeartbeats 400000 in
theorem refDoneW_any (q : Nat) (st : St) (w : World) (h : Doc w q 49 st) :
    Calls Tryd.prog 24 #[.pointer (some ⟨q, 0, none⟩)] w fun e w' => e = .returned (.tuple #[.string (str (told st)), .int .i64 st.2]) ∧ Below w.heap.size w w' := by
  obtain ⟨b, e⟩ := st
  have c0 := h.c0
  have c1 := h.c1
  dsimp only at c0 c1
  clear h
  by_cases he : e = 0
  · subst he
    rw [show told (b, 0) = b from rfl]
    go_enter Tryd.func24, Tryd.ntmps24
    go_wp2_with fail
    go_ret2
    exact ⟨rfl, Below.refl _ _⟩
  · have hne : (e != 0) = true := by simp [he]
    rw [show told (b, e) = [] from if_pos he]
    go_enter Tryd.func24, Tryd.ntmps24
    go_wp2_with fail
    go_quiet (fail)
    go_wp2_with fail
    go_ret2
    exact ⟨rfl, below_drewN (Below.refl _ _) _⟩
end Go.Proofs.YthchcjjpplcfnaaDoor

namespace Go.Proofs.YthchcjjpplcfnaaDoor
open Go.RowKit

theorem sizeDg : (Tryd.prog.info? 33).map (·.size) = some 32 := by kernel_rfl
theorem run_buildDg (w : World) : (Instr.build 33 #[]).run Tryd.prog w = .ok (.agg (zero32.map byteVal).toArray) w := by kernel_rfl
theorem one_bytes (bs : List UInt8) : ∀ v ∈ bs.map byteVal, v.oneCell' = true := by
  intro v hv
  obtain ⟨x, _, rfl⟩ := List.mem_map.1 hv
  rfl
theorem mid_set {α : Type} (L S : List α) (k : Nat) (hL : k < L.length) (hS : k < S.length) : (L.take k ++ S.drop k).set k L[k] = L.take (k + 1) ++ S.drop (k + 1) := by
  rw [List.set_append_right _ _ (by simp; omega), List.take_succ_eq_append_getElem hL, List.length_take, Nat.min_eq_left (by omega), Nat.sub_self]
  rw [List.drop_eq_getElem_cons hS, List.set_cons_zero, List.append_assoc, List.singleton_append]
theorem mid_setQ {α : Type} (L S : List α) (k : Nat) (x : α) (hx : L[k]? = some x) (hS : k < S.length) : (L.take k ++ S.drop k).set k x = L.take (k + 1) ++ S.drop (k + 1) := by
  obtain ⟨h, rfl⟩ := List.getElem?_eq_some_iff.1 hx
  exact mid_set L S k h hS
theorem mid_get {α : Type} (L S : List α) (k : Nat) (hL : k ≤ L.length) : (L.take k ++ S.drop k)[k]? = S[k]? := by
  rw [List.getElem?_append_right (by simp; omega)]
  simp [Nat.min_eq_left hL]
theorem str_one (x : UInt8) : (⟨#[x]⟩ : ByteArray) = str [x] := rfl

set_option maxRecDepth 100000 in
set_option maxHeartbeats 400000 in
theorem refDigestW_any (q : Nat) (st : St) (d : List UInt8) (hd : d.length = 32) (hs : st.1.length ≤ 100000000) (w : World) (h : Doc w q 49 st) :
    Calls Tryd.prog 23 #[.pointer (some ⟨q, 0, none⟩), .agg (d.map byteVal).toArray] w (DocMade q 49 w (wDigest st d) (.tuple #[])) := by
  have KD := hide fun w' (hb : Below w.heap.size w w') => refput_any q st true d (fun _ => by omega) w' (h.after hb)
  unfold wDigest
  clear h
  have HD := hide hd
  have HR0 := hide (VRow.new w 33 (d.map byteVal))
  have HB0 := hide (below_alloc' (w := w) (.cells (d.map byteVal).toArray 33))
  clear hd
  go_enter Tryd.func23, Tryd.ntmps23
  go_wp2_with fail
  go_loopw [4, 5] (fun s i wr => ∃ k : Nat, k ≤ 32 ∧ s = .string (str (d.take k)) ∧ i = .int .i64 k ∧ Hid (VRow wr w.heap.size 33 (d.map byteVal) ∧ Below w.heap.size w wr)) (fun _ i _ => 32 - (intOf i).toNat)
  case atStart => exact ⟨0, Nat.zero_le _, rfl, rfl, hide ⟨unhide HR0, unhide HB0⟩⟩
  case round =>
    obtain ⟨k, hk, rfl, rfl, HH⟩ := hrel
    by_cases hlt : k < 32
    · obtain ⟨x, hx⟩ : ∃ x, d[k]? = some x := ⟨_, List.getElem?_eq_getElem (by rw [unhide HD]; exact hlt)⟩
      have x0 : wr.cell? ⟨w.heap.size, k, none⟩ = some (.int .u8 (x.toNat : Int)) := (unhide HH).1.cell k _ (by rw [List.getElem?_map, hx]; rfl)
      have hcv := run_string_one x (x.toNat : Int) rfl
      rw [str_one] at hcv
      have hcat := cat_ok (a := d.take k) (b := [x]) (by rw [List.length_take, unhide HD]; simp; omega)
      have HT : Hid (str (d.take k) ++ str [x] = str (d.take (k + 1))) := hide (by rw [str_append, List.take_add_one, hx]; rfl)
      have HHA : Hid (VRow (wr.alloc (.cells #[.int .u8 (x.toNat : Int)] 5)) w.heap.size 33 (d.map byteVal) ∧ Below w.heap.size w (wr.alloc (.cells #[.int .u8 (x.toNat : Int)] 5))) := hide ⟨(unhide HH).1.alloc _, (unhide HH).2.alloc (unhide HH).2.size _⟩
      clear hx
      go_wp2_with fail
      go_roundw
      case rel => exact ⟨k + 1, by omega, by rw [unhide HT], by go_num, HHA⟩
      case measure => simp [intOf]; omega
    · obtain rfl : k = 32 := by omega
      have ht : d.take 32 = d := List.take_of_length_le (by rw [unhide HD]; exact Nat.le_refl _)
      rw [ht]
      clear ht
      go_wp2_with fail
      refine (unhide KD _ (unhide HH).2).mono ?_
      rintro e w2 hm
      obtain ⟨rfl, h2, h3⟩ := docMade_of (unhide HH).2 hm
      have H2 := hide h2
      have H3 := hide h3
      clear hm h2 h3
      go_wp2_with fail
      go_end0
      exact ⟨rfl, unhide H2, unhide H3⟩
end Go.Proofs.YthchcjjpplcfnaaDoor

namespace Go.Proofs.YthchcjjpplcfnaaDoor
open Go.RowKit

theorem takeF_nonneg (l : List UInt8) : 0 ≤ (Cnt.takeF l).1 := by
  unfold Cnt.takeF
  split
  · split
    · split
      · exact Int.le_refl _
      · split
        · exact Int.le_refl _
        · exact Int.natCast_nonneg _
    · exact Int.le_refl _
  · exact Int.le_refl _
theorem ext_tail (l : List UInt8) (k : Nat) : (str l).extract k (str l).size = str (l.drop k) := by
  rw [str_ext, str_size, List.take_of_length_le (Nat.le_refl _)]
theorem ext_head (l : List UInt8) (k : Nat) : (str l).extract 0 k = str (l.take k) := by rw [str_ext, List.drop_zero]

theorem rNumber_nonneg (st : St) (most : Int) : 0 ≤ (rNumber st most).1 := by
  unfold rNumber
  split
  · exact Int.le_refl _
  · split
    · exact Int.le_refl _
    · split
      · exact Int.le_refl _
      · exact takeF_nonneg _
theorem rNumber_len (st : St) (most : Int) : (rNumber st most).2.1.length ≤ st.1.length := by
  unfold rNumber
  split
  · exact Nat.le_refl _
  · split
    · exact Nat.le_refl _
    · split
      · exact Nat.le_refl _
      · rw [List.length_drop]; omega

theorem str_emp (x : UInt8) (r : List UInt8) : (str (x :: r)).toList.isEmpty = false := by
  rw [ByteArray.toList_eq, str_data]
  rfl
theorem str_head (x : UInt8) (r : List UInt8) (h : 0 < (str (x :: r)).size) : (str (x :: r))[0] = x := by
  rw [← at_data (str (x :: r)) 0 h, str_data]
  rfl

end Go.Proofs.YthchcjjpplcfnaaDoor

namespace Go.Proofs.YthchcjjpplcfnaaDoor
open Go.RowKit

theorem Beside.only {own : Nat → Prop} {B : Nat} {w a w' : World} (h : Beside own w a) (ho : Only B a w') (hB : w.heap.size ≤ B) : Beside own w w' :=
  ⟨ho.os.trans h.os, ho.tape.trans h.tape, ho.output.trans h.output, by rw [ho.size]; exact h.size, fun k hk hk2 => (ho.block k (by omega)).trans (h.block k hk hk2)⟩
theorem Beside.under {own : Nat → Prop} {n : Nat} {w a w' : World} (h : Beside own w a) (hb : Below n a w') (hn : w.heap.size ≤ n) : Beside own w w' :=
  ⟨hb.os.trans h.os, hb.tape.trans h.tape, hb.output.trans h.output, Nat.le_trans h.size hb.size, fun k hk hk2 => (hb.block k (by omega)).trans (h.block k hk hk2)⟩
theorem at_str {b : List UInt8} {k : Nat} (h : k < (str b).size) : b[k]? = some (str b)[k] := by
  have h1 := at_data (str b) k h
  rw [str_data] at h1
  rw [str_size] at h
  rw [List.getElem?_eq_getElem h] at h1 ⊢
  rw [← h1]
  rfl
theorem Doc.only {W W' : World} {q T B : Nat} {st : St} (h : Doc W q T st) (ho : Only B W W') (hne : q ≠ B) : Doc W' q T st := VRow.only h ho hne

end Go.Proofs.YthchcjjpplcfnaaDoor

namespace Go.Proofs.YthchcjjpplcfnaaDoor
open Go.RowKit

/-- An int of 64 bits. -/
def I64 (n : Int) : Prop := -9223372036854775808 ≤ n ∧ n ≤ 9223372036854775807
/-- The cells of a Writer that has nothing. -/
abbrev zeroW : Array Value := #[.slice none 0 0, .int .i64 0]
/-- What is turned is owned, or new. -/
def Turned (X : World → Addr → St → (Nat → Prop) → Prop) (own : Nat → Prop) (p : Addr) (w : World) (st : St) (v : Value) (e : Ending) (w' : World) : Prop :=
  ∃ own' : Nat → Prop, e = .returned v ∧ X w' p st own' ∧ (∀ g, own' g → own g ∨ w.heap.size ≤ g) ∧ Beside own w w'
def Told (w : World) (v : Value) (e : Ending) (w' : World) : Prop := e = .returned v ∧ Below w.heap.size w w'
theorem below_beside {own : Nat → Prop} {n : Nat} {a w w' : World} (h : Below n a w) (hn : n ≤ a.heap.size) (ho : ∀ g, own g → n ≤ g) (hb : Beside own w w') : Below n a w' := h.trans (hb.below (Nat.le_trans hn h.size) ho)
theorem own_beside {own own' : Nat → Prop} {n : Nat} {a w : World} (h : Below n a w) (hn : n ≤ a.heap.size) (ho : ∀ g, own g → n ≤ g) (hb : ∀ g, own' g → own g ∨ w.heap.size ≤ g) : ∀ g, own' g → n ≤ g := fun g hg => by
  rcases hb g hg with h1 | h1
  · exact ho g h1
  · have := h.size; omega

theorem range_after {W W' : World} {g o : Nat} {cs : List Value} (h : W.rangeAt g o cs) (hg : g < W.heap.size) (hb : Below W.heap.size W W') : W'.rangeAt g o cs := fun j v hv => (hb.cell (p := ⟨g, o + j, none⟩) hg).trans (h j v hv)
theorem VRow.range {W : World} {B T : Nat} {vs : List Value} (h : VRow W B T vs) : W.rangeAt B 0 vs := fun j v hv => by rw [Nat.zero_add]; exact h.cell j v hv
end Go.Proofs.YthchcjjpplcfnaaDoor
