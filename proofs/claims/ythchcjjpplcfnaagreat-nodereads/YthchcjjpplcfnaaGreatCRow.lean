/-
  Rows of values in a block: their cells, a store into one, what stays as it was; a row as a whole.
-/
import Derived.Test.YthchcjjpplcfnaaGreatCMath
import Derived.Test.YthchcjjpplcfnaaGreatRow
import Derived.Outline
import Derived.Deep.MidRow
import Derived.Deep.WholeRow
import Derived.RegionTactic
import Derived.BigRegion
import Derived.OwnWalk
import Derived.Laws.ResultCell
namespace Go.Proofs.YthchcjjpplcfnaaGreat
open Go.RowKit

/-- Of what was there nothing turns but the blocks that are owned. -/
structure Beside (own : Nat → Prop) (w w' : World) : Prop where
  os : w'.os = w.os
  tape : w'.tape = w.tape
  output : w'.output = w.output
  size : w.heap.size ≤ w'.heap.size
  block : ∀ k, k < w.heap.size → ¬ own k → w'.heap[k]? = w.heap[k]?
theorem beside_of {own : Nat → Prop} {w w' : World} (h : Below w.heap.size w w') : Beside own w w' := ⟨h.os, h.tape, h.output, h.size, fun k hk _ => h.block k hk⟩
theorem Beside.refl (own : Nat → Prop) (w : World) : Beside own w w := beside_of (Below.refl _ _)
theorem Beside.trans {own : Nat → Prop} {a b c : World} (h : Beside own a b) (h2 : Beside own b c) : Beside own a c :=
  ⟨h2.os.trans h.os, h2.tape.trans h.tape, h2.output.trans h.output, Nat.le_trans h.size h2.size, fun k hk hk2 => (h2.block k (Nat.lt_of_lt_of_le hk h.size) hk2).trans (h.block k hk hk2)⟩
theorem Beside.below {own : Nat → Prop} {w w' : World} {B : Nat} (h : Beside own w w') (hB : B ≤ w.heap.size) (ho : ∀ g, own g → B ≤ g) : Below B w w' :=
  ⟨h.os, h.tape, h.output, h.size, fun k hk => h.block k (by omega) fun hk' => by have := ho k hk'; omega⟩
theorem beside_set (q k : Nat) (w : World) (v : Value) : Beside (· = q) w (w.setCell ⟨q, k, none⟩ v) :=
  ⟨rfl, rfl, rfl, by simp, fun j _ hj => heap_setCell_other w ⟨q, k, none⟩ j v hj⟩
theorem VRow.beside {own : Nat → Prop} {W W' : World} {A T : Nat} {vs : List Value} (h : VRow W A T vs) (hb : Beside own W W') (hA : ¬ own A) : VRow W' A T vs := (hb.block A h.lt hA).trans h
end Go.Proofs.YthchcjjpplcfnaaGreat

namespace Go.Proofs.YthchcjjpplcfnaaGreat
open Go.RowKit

/-- Bytes as a text. -/
def str (l : List UInt8) : ByteArray := ⟨l.toArray⟩
theorem str_size (l : List UInt8) : (str l).size = l.length := by simp [str, ByteArray.size]
theorem str_data (l : List UInt8) : (str l).data.toList = l := by simp [str]
theorem str_of (s : ByteArray) : str s.data.toList = s := by cases s; simp [str]
theorem str_append (a b : List UInt8) : str a ++ str b = str (a ++ b) := ByteArray.mk_append_mk a b
theorem str_ext (l : List UInt8) (i j : Nat) : (str l).extract i j = str ((l.take j).drop i) := by
  rw [← str_of ((str l).extract i j)]
  congr 1
  simp [str, List.drop_take]
theorem size_data (s : ByteArray) : s.data.toList.length = s.size := by simp
/-- A piece. -/
structure Pc where
  kind : Int
  n : Int
  s : ByteArray
  d : List UInt8
/-- What was put, or what is left; and what is wrong. -/
abbrev St := List UInt8 × Int
def wput (st : St) (is : Bool) (b : List UInt8) : St := if st.2 ≠ 0 then st else if is then (st.1 ++ b, 0) else (st.1, 2)
def fail (st : St) (e : Int) : St := if st.2 = 0 then (st.1, e) else st
def wNumber (st : St) (n : Int) : St := wput st (decide (0 ≤ n) && decide (n ≤ 1073741824)) (Cnt.putL n)
def wText (st : St) (s : ByteArray) : St := wput st (decide (s.size ≤ 65536)) (Cnt.putL s.size ++ s.data.toList)
def flagB (is : Bool) : List UInt8 := if is then [1] else [0]
def wFlag (st : St) (is : Bool) : St := wput st true (flagB is)
def wDigest (st : St) (d : List UInt8) : St := wput st true d
/-- What is told, behind all that was put. -/
def told (st : St) : List UInt8 := if st.2 ≠ 0 then [] else st.1
def low4 (n : Int) : Int := bits BinOp.and IntKind.i64 n 15
def wPiece (st : St) (x : Pc) : St :=
  if x.kind = 0 then wNumber st x.n
  else if x.kind = 1 then wText st x.s
  else if x.kind = 2 then wFlag st (x.n == 1)
  else if x.kind = 3 then wDigest st x.d
  else if x.kind = 4 then fail st (low4 x.n)
  else st
def rNumber (st : St) (most : Int) : Int × St :=
  if st.2 ≠ 0 then (0, st)
  else if (Cnt.takeF st.1).2.2 ≠ 0 then (0, (st.1, (Cnt.takeF st.1).2.2))
  else if most < (Cnt.takeF st.1).1 then (0, (st.1, 2))
  else ((Cnt.takeF st.1).1, (st.1.drop (Cnt.takeF st.1).2.1.toNat, 0))
def rText (st : St) (most : Int) : List UInt8 × St :=
  if (rNumber st most).2.2 ≠ 0 then ([], (rNumber st most).2)
  else if ((rNumber st most).2.1.length : Int) < (rNumber st most).1 then ([], (st.1, 5))
  else ((rNumber st most).2.1.take (rNumber st most).1.toNat, ((rNumber st most).2.1.drop (rNumber st most).1.toNat, 0))
def rFlag (st : St) : Bool × St :=
  if st.2 ≠ 0 then (false, st)
  else match st.1 with
    | [] => (false, ([], 5))
    | b :: r => if 1 < b.toNat then (false, (b :: r, 7)) else (b == 1, (r, 0))
def zero32 : List UInt8 := List.replicate 32 0
def rDigest (st : St) : List UInt8 × St :=
  if st.2 ≠ 0 then (zero32, st)
  else if st.1.length < 32 then (zero32, (st.1, 5))
  else (st.1.take 32, (st.1.drop 32, 0))
def rDone (st : St) : Int := if st.2 = 0 ∧ st.1 ≠ [] then 6 else st.2

theorem putL_bound (n : Int) : (Cnt.putL n).length ≤ 5 := Cnt.putL_len n
theorem wput_len (st : St) (is : Bool) (b : List UInt8) : (wput st is b).1.length ≤ st.1.length + (if is then b.length else 0) := by
  unfold wput
  split
  · omega
  · cases is <;> simp
theorem wPiece_len {x : Pc} (hd : x.d.length = 32) (st : St) : (wPiece st x).1.length ≤ st.1.length + 65541 := by
  unfold wPiece
  split
  · have h1 := wput_len st (decide (0 ≤ x.n) && decide (x.n ≤ 1073741824)) (Cnt.putL x.n)
    have h2 := Cnt.putL_len x.n
    unfold wNumber
    split at h1 <;> omega
  · split
    · have h1 := wput_len st (decide (x.s.size ≤ 65536)) (Cnt.putL x.s.size ++ x.s.data.toList)
      have h2 := Cnt.putL_len x.s.size
      unfold wText
      rw [List.length_append, size_data] at h1
      split at h1
      · rename_i h3
        have := of_decide_eq_true h3
        omega
      · omega
    · split
      · have h1 := wput_len st true (flagB (x.n == 1))
        have h2 : (flagB (x.n == 1)).length = 1 := by unfold flagB; split <;> rfl
        unfold wFlag
        simp at h1
        omega
      · split
        · have h1 := wput_len st true x.d
          unfold wDigest
          simp at h1
          omega
        · split
          · unfold fail
            split <;> simp
          · omega
/-- What a piece comes to, where nothing is wrong with it. -/
def enc (x : Pc) : List UInt8 :=
  if x.kind = 0 then Cnt.putL x.n
  else if x.kind = 1 then Cnt.putL x.s.size ++ x.s.data.toList
  else if x.kind = 2 then flagB (x.n == 1)
  else if x.kind = 3 then x.d
  else []
def Okp (x : Pc) : Prop := (x.kind = 0 → 0 ≤ x.n ∧ x.n ≤ 1073741824) ∧ (x.kind = 1 → x.s.size ≤ 65536)
theorem wput_zero {st : St} {is : Bool} {b : List UInt8} (h : (wput st is b).2 = 0) : st.2 = 0 ∧ is = true ∧ wput st is b = (st.1 ++ b, 0) := by
  unfold wput at h ⊢
  split
  · rename_i h1
    rw [if_pos h1] at h
    exact absurd h h1
  · rename_i h1
    rw [if_neg h1] at h
    cases is with
    | false => simp at h
    | true => exact ⟨by simpa using h1, rfl, rfl⟩
theorem wPiece_zero {st : St} {x : Pc} (h : (wPiece st x).2 = 0) : st.2 = 0 ∧ Okp x ∧ wPiece st x = (st.1 ++ enc x, 0) := by
  unfold wPiece enc Okp at *
  by_cases h0 : x.kind = 0
  · rw [if_pos h0] at h ⊢
    obtain ⟨h1, h2, h3⟩ := wput_zero h
    simp only [Bool.and_eq_true, decide_eq_true_eq] at h2
    exact ⟨h1, ⟨fun _ => h2, fun h4 => by omega⟩, by rw [if_pos h0]; exact h3⟩
  · rw [if_neg h0] at h ⊢
    by_cases h1 : x.kind = 1
    · rw [if_pos h1] at h ⊢
      obtain ⟨h2, h3, h4⟩ := wput_zero h
      exact ⟨h2, ⟨fun h5 => absurd h5 h0, fun _ => of_decide_eq_true h3⟩, by rw [if_neg h0, if_pos h1]; exact h4⟩
    · rw [if_neg h1] at h ⊢
      by_cases h2 : x.kind = 2
      · rw [if_pos h2] at h ⊢
        obtain ⟨h3, h4, h5⟩ := wput_zero h
        exact ⟨h3, ⟨fun h6 => absurd h6 h0, fun h6 => absurd h6 h1⟩, by rw [if_neg h0, if_neg h1, if_pos h2]; exact h5⟩
      · rw [if_neg h2] at h ⊢
        by_cases h3 : x.kind = 3
        · rw [if_pos h3] at h ⊢
          obtain ⟨h4, h5, h6⟩ := wput_zero h
          exact ⟨h4, ⟨fun h6 => absurd h6 h0, fun h6 => absurd h6 h1⟩, by rw [if_neg h0, if_neg h1, if_neg h2, if_pos h3]; exact h6⟩
        · rw [if_neg h3] at h ⊢
          rw [if_neg h0, if_neg h1, if_neg h2, if_neg h3, List.append_nil]
          refine ⟨?_, ⟨fun h6 => absurd h6 h0, fun h6 => absurd h6 h1⟩, ?_⟩
          · by_cases h4 : x.kind = 4
            · rw [if_pos h4] at h
              unfold fail at h
              split at h
              · assumption
              · exact h
            · rw [if_neg h4] at h; exact h
          · by_cases h4 : x.kind = 4
            · rw [if_pos h4] at h ⊢
              unfold fail at h ⊢
              split at h
              · rename_i h5; rw [if_pos h5]; exact Prod.ext rfl h
              · rename_i h5; exact absurd h h5
            · rw [if_neg h4] at h ⊢; exact Prod.ext rfl h
/-- All pieces, one behind the other. -/
def wAll (st : St) (l : List Pc) : St := l.foldl wPiece st
def encs (l : List Pc) : List UInt8 := (l.map enc).flatten
theorem wAll_zero : ∀ (l : List Pc) (st : St), (wAll st l).2 = 0 → st.2 = 0 ∧ (∀ x ∈ l, Okp x) ∧ wAll st l = (st.1 ++ encs l, 0)
  | [], st, h => ⟨h, fun x hx => by simp at hx, by simp [encs, wAll]; exact Prod.ext rfl h⟩
  | x :: l, st, h => by
    obtain ⟨h1, h2, h3⟩ := wAll_zero l (wPiece st x) h
    obtain ⟨h4, h5, h6⟩ := wPiece_zero h1
    refine ⟨h4, fun y hy => ?_, ?_⟩
    · rcases List.mem_cons.1 hy with rfl | hy
      · exact h5
      · exact h2 y hy
    · show wAll (wPiece st x) l = _
      rw [h3, h6]
      simp [encs]
theorem wAll_snoc (st : St) (l : List Pc) (k : Nat) (x : Pc) (h : l[k]? = some x) : wAll st (l.take (k + 1)) = wPiece (wAll st (l.take k)) x := by
  rw [List.take_add_one, h]
  simp [wAll]
theorem encs_drop (l : List Pc) (k : Nat) (x : Pc) (h : l[k]? = some x) : encs (l.drop k) = enc x ++ encs (l.drop (k + 1)) := by
  have hk := (List.getElem?_eq_some_iff.1 h).1
  rw [List.drop_eq_getElem_cons hk]
  rw [List.getElem?_eq_getElem hk] at h
  injection h with h
  simp [encs, h]
theorem back_number {n : Int} (h0 : 0 ≤ n) (h1 : n ≤ 1073741824) (most : Int) (hm : n ≤ most) (r : List UInt8) : rNumber (Cnt.putL n ++ r, 0) most = (n, (r, 0)) := by
  have h := Cnt.takeF_put n h0 h1 r
  unfold rNumber
  rw [if_neg (by simp), if_neg (by rw [h]; simp), if_neg (by rw [h]; simp; omega), h]
  simp
theorem back_text {s : ByteArray} (hs : s.size ≤ 65536) (r : List UInt8) : rText ((Cnt.putL s.size ++ s.data.toList) ++ r, 0) 65536 = (s.data.toList, (r, 0)) := by
  have h := back_number (n := s.size) (by omega) (by omega) 65536 (by omega) (s.data.toList ++ r)
  unfold rText
  rw [List.append_assoc, h]
  have hl : s.data.toList.length = s.size := size_data s
  rw [if_neg (by simp), if_neg (by rw [List.length_append, hl]; simp; omega)]
  simp only [Int.toNat_natCast]
  rw [← hl, List.take_left, List.drop_left]
theorem back_flag (is : Bool) (r : List UInt8) : rFlag (flagB is ++ r, 0) = (is, (r, 0)) := by
  cases is <;> simp [rFlag, flagB]
theorem back_digest {d : List UInt8} (hd : d.length = 32) (r : List UInt8) : rDigest (d ++ r, 0) = (d, (r, 0)) := by
  unfold rDigest
  rw [if_neg (by simp), if_neg (by rw [List.length_append]; omega)]
  show ((d ++ r).take 32, ((d ++ r).drop 32, (0 : Int))) = _
  rw [← hd, List.take_left, List.drop_left]
end Go.Proofs.YthchcjjpplcfnaaGreat

namespace Go.Proofs.YthchcjjpplcfnaaGreat
open Go.RowKit

/-- The document's writer, or reader, in its block. -/
def Doc (W : World) (q T : Nat) (st : St) : Prop := VRow W q T [.string (str st.1), .int .i64 st.2]
def DocMade (q T : Nat) (w : World) (st : St) (v : Value) (e : Ending) (w' : World) : Prop := e = .returned v ∧ Doc w' q T st ∧ Beside (· = q) w w'
theorem Doc.c0 {W : World} {q T : Nat} {st : St} (h : Doc W q T st) : W.cell? ⟨q, 0, none⟩ = some (.string (str st.1)) := VRow.cell h 0 _ rfl
theorem Doc.c1 {W : World} {q T : Nat} {st : St} (h : Doc W q T st) : W.cell? ⟨q, 1, none⟩ = some (.int .i64 st.2) := VRow.cell h 1 _ rfl
theorem Doc.f0 {W : World} {q T : Nat} {st : St} (h : Doc W q T st) : W.frozen? ⟨q, 0, none⟩ = false := VRow.frozen h 0
theorem Doc.f1 {W : World} {q T : Nat} {st : St} (h : Doc W q T st) : W.frozen? ⟨q, 1, none⟩ = false := VRow.frozen h 1
theorem Doc.set0 {W : World} {q T : Nat} {st : St} (h : Doc W q T st) (b : List UInt8) : Doc (W.setCell ⟨q, 0, none⟩ (.string (str b))) q T (b, st.2) := VRow.set h 0 _
theorem Doc.set1 {W : World} {q T : Nat} {st : St} (h : Doc W q T st) (e : Int) : Doc (W.setCell ⟨q, 1, none⟩ (.int .i64 e)) q T (st.1, e) := VRow.set h 1 _
theorem Doc.after {W W' : World} {q T : Nat} {st : St} (h : Doc W q T st) (hb : Below W.heap.size W W') : Doc W' q T st := VRow.after h hb
theorem Doc.lt {W : World} {q T : Nat} {st : St} (h : Doc W q T st) : q < W.heap.size := VRow.lt h
theorem docMade_of {q T : Nat} {w w1 w' : World} {st : St} {v : Value} {e : Ending} (hb : Below w.heap.size w w1) (h : DocMade q T w1 st v e w') : DocMade q T w st v e w' := ⟨h.1, h.2.1, (beside_of hb).trans h.2.2⟩
theorem cat_ok {a b : List UInt8} (h : a.length + b.length ≤ 4611686018427387904) : ¬ ((str a).size + (str b).size > 9223372036854775807) := by rw [str_size, str_size]; omega

theorem textCat (s : ByteArray) (hs : s.size ≤ 9223372036854775807) : ¬ ((str (Cnt.putL s.size)).size + s.size > 9223372036854775807) := by
  rw [str_size]
  have h := Cnt.putL_len s.size
  by_cases h1 : (1073741824 : Int) < s.size
  · rw [Cnt.putL_no _ (.inr h1)]
    simp
    omega
  · omega

end Go.Proofs.YthchcjjpplcfnaaGreat

namespace Go.Proofs.YthchcjjpplcfnaaGreat
open Go.RowKit

theorem sizeDg : (Tryz.prog.info? 49).map (·.size) = some 32 := by kernel_rfl
theorem run_buildDg (w : World) : (Instr.build 49 #[]).run Tryz.prog w = .ok (.agg (zero32.map byteVal).toArray) w := by kernel_rfl
theorem one_bytes (bs : List UInt8) : ∀ v ∈ bs.map byteVal, v.oneCell' = true := by
  intro v hv
  obtain ⟨x, _, rfl⟩ := List.mem_map.1 hv
  rfl
theorem mid_set {α : Type} (L S : List α) (k : Nat) (hL : k < L.length) (hS : k < S.length) : (L.take k ++ S.drop k).set k L[k] = L.take (k + 1) ++ S.drop (k + 1) := by
  rw [List.set_append_right _ _ (by simp; omega), List.take_succ_eq_append_getElem hL, List.length_take, Nat.min_eq_left (by omega), Nat.sub_self]
  rw [List.drop_eq_getElem_cons hS, List.set_cons_zero, List.append_assoc, List.singleton_append]
theorem mid_setQ {α : Type} (L S : List α) (k : Nat) (x : α) (hx : L[k]? = some x) (hS : k < S.length) : (L.take k ++ S.drop k).set k x = L.take (k + 1) ++ S.drop (k + 1) := by
  obtain ⟨h, rfl⟩ := List.getElem?_eq_some_iff.1 hx
  exact mid_set L S k h hS
theorem mid_get {α : Type} (L S : List α) (k : Nat) (hL : k ≤ L.length) : (L.take k ++ S.drop k)[k]? = S[k]? := by
  rw [List.getElem?_append_right (by simp; omega)]
  simp [Nat.min_eq_left hL]
theorem str_one (x : UInt8) : (⟨#[x]⟩ : ByteArray) = str [x] := rfl

end Go.Proofs.YthchcjjpplcfnaaGreat

namespace Go.Proofs.YthchcjjpplcfnaaGreat
open Go.RowKit

theorem takeF_nonneg (l : List UInt8) : 0 ≤ (Cnt.takeF l).1 := by
  unfold Cnt.takeF
  split
  · split
    · split
      · exact Int.le_refl _
      · split
        · exact Int.le_refl _
        · exact Int.natCast_nonneg _
    · exact Int.le_refl _
  · exact Int.le_refl _
theorem ext_tail (l : List UInt8) (k : Nat) : (str l).extract k (str l).size = str (l.drop k) := by
  rw [str_ext, str_size, List.take_of_length_le (Nat.le_refl _)]
theorem ext_head (l : List UInt8) (k : Nat) : (str l).extract 0 k = str (l.take k) := by rw [str_ext, List.drop_zero]

set_option maxRecDepth 100000 in
set_option maxHeartbeats 400000 in
theorem refNumberR_any (q : Nat) (st : St) (most : Int) (hs : st.1.length ≤ 100000000) (w : World) (h : Doc w q 44 st) :
    Calls Tryz.prog 18 #[.pointer (some ⟨q, 0, none⟩), .int .i64 most] w (DocMade q 44 w (rNumber st most).2 (.int .i64 (rNumber st most).1)) := by
  obtain ⟨b, e⟩ := st
  have c0 := h.c0
  have c1 := h.c1
  have f0 := h.f0
  have f1 := h.f1
  dsimp only at c0 c1 hs
  have HD := hide h
  clear h
  by_cases he : e = 0
  · subst he
    have KT := hide (refTake_any (str b) w (by rw [str_size]; unfold maxLen; omega))
    rw [str_data] at KT
    have hok := Cnt.takeF_ok b
    obtain ⟨n, k, x, hT⟩ : ∃ n k x, Cnt.takeF b = (n, k, x) := ⟨_, _, _, rfl⟩
    have HR : Hid (rNumber (b, 0) most = if x ≠ 0 then (0, (b, x)) else if most < n then (0, (b, 2)) else (n, (b.drop k.toNat, 0))) := hide (by unfold rNumber; rw [if_neg (by simp), hT])
    rw [unhide HR]
    rw [hT] at KT hok
    dsimp only at KT hok
    have hsz := str_size b
    clear HR hT
    by_cases hx : x = 0
    · subst hx
      obtain ⟨hk1, hk2, _⟩ := hok rfl
      obtain ⟨K, rfl⟩ : ∃ K : Nat, k = K := ⟨k.toNat, by omega⟩
      rw [if_neg (by simp), Int.toNat_natCast]
      clear hok
      by_cases hm : most < n
      · rw [if_pos hm]
        go_enter Tryz.func18, Tryz.ntmps18
        go_wp2_with fail
        refine (unhide KT).mono ?_
        rintro e w1 ⟨rfl, hw⟩
        have hw' := hw.symm
        subst hw'
        go_wp2_with fail
        go_ret
        exact ⟨rfl, (unhide HD).set1 2, beside_set _ _ _ _⟩
      · rw [if_neg hm]
        have hm' : n ≤ most := by omega
        have HX : Hid ((str b).extract K (str b).size = str (b.drop K)) := hide (ext_tail b K)
        have hKs : K ≤ (str b).size := by rw [str_size]; omega
        go_enter Tryz.func18, Tryz.ntmps18
        go_wp2_with fail
        refine (unhide KT).mono ?_
        rintro e w1 ⟨rfl, hw⟩
        have hw' := hw.symm
        subst hw'
        go_wp2_with fail
        go_ret
        have h1 := (unhide HD).set0 (b.drop K)
        rw [← unhide HX] at h1
        exact ⟨rfl, h1, beside_set _ _ _ _⟩
    · rw [if_pos hx]
      have hne : (x == 0) = false := by simp [hx]
      have hne2 : (x != 0) = true := by simp [hx]
      clear hok
      go_enter Tryz.func18, Tryz.ntmps18
      go_wp2_with fail
      refine (unhide KT).mono ?_
      rintro e w1 ⟨rfl, hw⟩
      have hw' := hw.symm
      subst hw'
      go_wp2_with fail
      go_ret
      exact ⟨rfl, (unhide HD).set1 x, beside_set _ _ _ _⟩
  · have hne : (e != 0) = true := by simp [he]
    rw [show rNumber (b, e) most = (0, (b, e)) from if_pos he]
    go_enter Tryz.func18, Tryz.ntmps18
    go_wp2_with fail
    go_ret
    exact ⟨rfl, unhide HD, Beside.refl _ _⟩

theorem rNumber_nonneg (st : St) (most : Int) : 0 ≤ (rNumber st most).1 := by
  unfold rNumber
  split
  · exact Int.le_refl _
  · split
    · exact Int.le_refl _
    · split
      · exact Int.le_refl _
      · exact takeF_nonneg _
theorem rNumber_len (st : St) (most : Int) : (rNumber st most).2.1.length ≤ st.1.length := by
  unfold rNumber
  split
  · exact Nat.le_refl _
  · split
    · exact Nat.le_refl _
    · split
      · exact Nat.le_refl _
      · rw [List.length_drop]; omega

set_option maxRecDepth 100000 in
set_option maxHeartbeats 400000 in
theorem refTextR_any (q : Nat) (st : St) (most : Int) (hs : st.1.length ≤ 100000000) (w : World) (h : Doc w q 44 st) :
    Calls Tryz.prog 19 #[.pointer (some ⟨q, 0, none⟩), .int .i64 most] w (DocMade q 44 w (rText st most).2 (.string (str (rText st most).1))) := by
  have c0 := h.c0
  have KN := hide (refNumberR_any q st most hs w h)
  have hn0 := rNumber_nonneg st most
  have hnl := rNumber_len st most
  unfold rText
  generalize rNumber st most = R at KN hn0 hnl ⊢
  obtain ⟨n, b, e⟩ := R
  dsimp only at KN hn0 hnl ⊢
  clear h
  by_cases he : e = 0
  · subst he
    obtain ⟨N, rfl⟩ : ∃ N : Nat, n = N := ⟨n.toNat, by omega⟩
    rw [if_neg (by simp), Int.toNat_natCast]
    by_cases hlt : (b.length : Int) < N
    · rw [if_pos hlt]
      have hz : ((str b).size : Int) < N := by rw [str_size]; exact hlt
      go_enter Tryz.func19, Tryz.ntmps19
      go_wp2_with fail
      refine (unhide KN).mono ?_
      rintro e w1 ⟨rfl, hd, hb⟩
      have d0 := hd.c0
      have d1 := hd.c1
      have g0 := hd.f0
      have g1 := hd.f1
      dsimp only at d0 d1
      have H2 := hide ((hd.set0 st.1).set1 5)
      have HB := hide (hb.trans ((beside_set q 0 w1 (.string (str st.1))).trans (beside_set q 1 _ (.int .i64 5))))
      clear hd hb
      go_wp2_with fail
      go_ret
      exact ⟨rfl, unhide H2, unhide HB⟩
    · rw [if_neg hlt]
      have hNl : N ≤ b.length := by omega
      have hz : (N : Int) ≤ (str b).size := by rw [str_size]; omega
      have hz2 : N ≤ (str b).size := by rw [str_size]; omega
      have HX : Hid ((str b).extract N (str b).size = str (b.drop N)) := hide (ext_tail b N)
      have HY : Hid ((str b).extract 0 N = str (b.take N)) := hide (ext_head b N)
      go_enter Tryz.func19, Tryz.ntmps19
      go_wp2_with fail
      refine (unhide KN).mono ?_
      rintro e w1 ⟨rfl, hd, hb⟩
      have d0 := hd.c0
      have d1 := hd.c1
      have g0 := hd.f0
      dsimp only at d0 d1
      have H2 := hide (hd.set0 (b.drop N))
      rw [← unhide HX] at H2
      have HB := hide (hb.trans (beside_set q 0 w1 (.string ((str b).extract N (str b).size))))
      clear hd hb
      go_wp2_with fail
      go_ret
      rw [← unhide HY]
      exact ⟨rfl, unhide H2, unhide HB⟩
  · rw [if_pos he]
    have hne : (e != 0) = true := by simp [he]
    go_enter Tryz.func19, Tryz.ntmps19
    go_wp2_with fail
    refine (unhide KN).mono ?_
    rintro e w1 ⟨rfl, hd, hb⟩
    have d1 := hd.c1
    dsimp only at d1
    have H2 := hide hd
    have HB := hide hb
    clear hd hb
    go_wp2_with fail
    go_ret
    exact ⟨rfl, unhide H2, unhide HB⟩

theorem str_emp (x : UInt8) (r : List UInt8) : (str (x :: r)).toList.isEmpty = false := by
  rw [ByteArray.toList_eq, str_data]
  rfl
theorem str_head (x : UInt8) (r : List UInt8) (h : 0 < (str (x :: r)).size) : (str (x :: r))[0] = x := by
  rw [← at_data (str (x :: r)) 0 h, str_data]
  rfl

set_option maxRecDepth 100000 in
set_option maxHeartbeats 400000 in
theorem refFlagR_any (q : Nat) (st : St) (hs : st.1.length ≤ 100000000) (w : World) (h : Doc w q 44 st) :
    Calls Tryz.prog 43 #[.pointer (some ⟨q, 0, none⟩)] w (DocMade q 44 w (rFlag st).2 (.bool (rFlag st).1)) := by
  obtain ⟨b, e⟩ := st
  have c0 := h.c0
  have c1 := h.c1
  have f0 := h.f0
  have f1 := h.f1
  dsimp only at c0 c1 hs
  have HD := hide h
  clear h
  by_cases he : e = 0
  · subst he
    cases b with
    | nil =>
      rw [show rFlag ([], 0) = (false, ([], 5)) from rfl]
      rw [show str [] = ⟨#[]⟩ from rfl] at c0
      go_enter Tryz.func43, Tryz.ntmps43
      go_wp2_with fail
      go_ret
      exact ⟨rfl, (unhide HD).set1 5, beside_set _ _ _ _⟩
    | cons x r =>
      have hemp := str_emp x r
      have hsz : 0 < (str (x :: r)).size := by rw [str_size]; simp
      have hh := str_head x r hsz
      have HX : Hid ((str (x :: r)).extract 1 (str (x :: r)).size = str r) := hide (ext_tail (x :: r) 1)
      have hsm : (str (x :: r)).size ≤ 9223372036854775807 := by rw [str_size]; omega
      by_cases hx : 1 < x.toNat
      · rw [show rFlag (x :: r, 0) = (false, (x :: r, 7)) from by simp [rFlag, hx]]
        generalize str (x :: r) = S at *
        have hx2 : (1 : Int) < (S[0].toNat : Int) := by rw [hh]; omega
        clear hh
        go_enter Tryz.func43, Tryz.ntmps43
        go_wp2_with fail
        go_ret
        exact ⟨rfl, (unhide HD).set1 7, beside_set _ _ _ _⟩
      · rw [show rFlag (x :: r, 0) = (x == 1, (r, 0)) from by simp [rFlag, hx]]
        have H0 := hide ((unhide HD).set0 r)
        rw [← unhide HX] at H0
        have hbe : (x == 1) = ((x.toNat : Int) == 1) := by
          rw [Bool.eq_iff_iff, beq_iff_eq, beq_iff_eq]
          constructor
          · rintro rfl; rfl
          · intro h; exact UInt8.toNat_inj.1 (by simp; omega)
        rw [hbe]
        clear hbe
        generalize str (x :: r) = S at *
        have hx2 : (S[0].toNat : Int) ≤ 1 := by rw [hh]; omega
        rw [← hh]
        clear hh
        go_enter Tryz.func43, Tryz.ntmps43
        go_wp2_with fail
        go_ret
        exact ⟨rfl, unhide H0, beside_set _ _ _ _⟩
  · have hne : (e != 0) = true := by simp [he]
    have hne2 : (e == 0) = false := by simp [he]
    rw [show rFlag (b, e) = (false, (b, e)) from if_pos he]
    go_enter Tryz.func43, Tryz.ntmps43
    go_wp2_with fail
    go_ret
    exact ⟨rfl, unhide HD, Beside.refl _ _⟩

set_option maxRecDepth 100000 in
set_option maxHeartbeats 400000 in
theorem refFailR_any (q : Nat) (st : St) (x : Int) (w : World) (h : Doc w q 44 st) :
    Calls Tryz.prog 44 #[.pointer (some ⟨q, 0, none⟩), .int .i64 x] w (DocMade q 44 w (fail st x) (.tuple #[])) := by
  obtain ⟨b, e⟩ := st
  have c1 := h.c1
  have f1 := h.f1
  dsimp only at c1
  have HD := hide h
  clear h
  by_cases he : e = 0
  · subst he
    rw [show fail (b, 0) x = (b, x) from rfl]
    go_enter Tryz.func44, Tryz.ntmps44
    go_wp2_with fail
    go_end0
    exact ⟨rfl, (unhide HD).set1 x, beside_set _ _ _ _⟩
  · have hne : (e == 0) = false := by simp [he]
    rw [show fail (b, e) x = (b, e) from if_neg he]
    go_enter Tryz.func44, Tryz.ntmps44
    go_wp2_with fail
    go_end0
    exact ⟨rfl, unhide HD, Beside.refl _ _⟩

set_option maxRecDepth 100000 in
set_option maxHeartbeats 400000 in
theorem refDoneR_any (q : Nat) (st : St) (w : World) (h : Doc w q 44 st) :
    Calls Tryz.prog 21 #[.pointer (some ⟨q, 0, none⟩)] w fun e w' => e = .returned (.int .i64 (rDone st)) ∧ w' = w := by
  obtain ⟨b, e⟩ := st
  have c0 := h.c0
  have c1 := h.c1
  dsimp only at c0 c1
  clear h
  by_cases he : e = 0
  · subst he
    cases b with
    | nil =>
      rw [show rDone ([], 0) = 0 from rfl]
      rw [show str [] = ⟨#[]⟩ from rfl] at c0
      go_enter Tryz.func21, Tryz.ntmps21
      go_wp2_with fail
      go_ret
      exact ⟨rfl, rfl⟩
    | cons x r =>
      have hemp := str_emp x r
      rw [show rDone (x :: r, 0) = 6 from by simp [rDone]]
      generalize str (x :: r) = S at *
      go_enter Tryz.func21, Tryz.ntmps21
      go_wp2_with fail
      go_ret
      exact ⟨rfl, rfl⟩
  · have hne2 : (e == 0) = false := by simp [he]
    rw [show rDone (b, e) = e from by simp [rDone, he]]
    go_enter Tryz.func21, Tryz.ntmps21
    go_wp2_with fail
    go_ret
    exact ⟨rfl, rfl⟩
end Go.Proofs.YthchcjjpplcfnaaGreat

namespace Go.Proofs.YthchcjjpplcfnaaGreat
open Go.RowKit

theorem results_row25 (tmps : Array Value) (w : World) (g : Nat) (vs : List Value) (hp : tmps.getD 2 undef = .pointer (some ⟨g, 0, none⟩)) (hr : VRow w g 49 vs) (hn : vs.length = 32) :
    (results Tryz.f20 tmps).run Tryz.prog w = .ok (.agg vs.toArray) w := by
  have hp' : tmps[2]?.getD undef = .pointer (some ⟨g, 0, none⟩) := by simpa using hp
  have hl := run_loadVar_row (P := Tryz.prog) w g 49 49 vs.toArray (0, 0) _ hr Tryz.underlying49 rfl (by rw [sizeDg]; simp [hn])
  simp [results, hp', asAddr, hl]

theorem Beside.only {own : Nat → Prop} {B : Nat} {w a w' : World} (h : Beside own w a) (ho : Only B a w') (hB : w.heap.size ≤ B) : Beside own w w' :=
  ⟨ho.os.trans h.os, ho.tape.trans h.tape, ho.output.trans h.output, by rw [ho.size]; exact h.size, fun k hk hk2 => (ho.block k (by omega)).trans (h.block k hk hk2)⟩
theorem Beside.under {own : Nat → Prop} {n : Nat} {w a w' : World} (h : Beside own w a) (hb : Below n a w') (hn : w.heap.size ≤ n) : Beside own w w' :=
  ⟨hb.os.trans h.os, hb.tape.trans h.tape, hb.output.trans h.output, Nat.le_trans h.size hb.size, fun k hk hk2 => (hb.block k (by omega)).trans (h.block k hk hk2)⟩
theorem at_str {b : List UInt8} {k : Nat} (h : k < (str b).size) : b[k]? = some (str b)[k] := by
  have h1 := at_data (str b) k h
  rw [str_data] at h1
  rw [str_size] at h
  rw [List.getElem?_eq_getElem h] at h1 ⊢
  rw [← h1]
  rfl
theorem Doc.only {W W' : World} {q T B : Nat} {st : St} (h : Doc W q T st) (ho : Only B W W') (hne : q ≠ B) : Doc W' q T st := VRow.only h ho hne

set_option maxRecDepth 100000 in
set_option maxHeartbeats 1000000 in
theorem refDigestR_bad (q : Nat) (b : List UInt8) (e : Int) (he : e ≠ 0) (w : World) (h : Doc w q 44 (b, e)) :
    Calls Tryz.prog 20 #[.pointer (some ⟨q, 0, none⟩)] w (DocMade q 44 w (b, e) (.agg (zero32.map byteVal).toArray)) := by
  have hbd := run_buildDg
  have hq := h.lt
  have HD := hide h
  have hne : (e != 0) = true := by simp [he]
  have hne2 : (e == 0) = false := by simp [he]
  clear h
  go_enter Tryz.func20, Tryz.ntmps20
  go_wp2_with (first
    | (refine store_row (by rfl) 49 _ _ (by rfl) (w.heap.size + 1) (zero32.map byteVal) (by rfl) (by rfl) 49 (zero32.map byteVal) (VRow.newAt (by simp)) 32 sizeDg rfl rfl (one_bytes _) ?_; intro w1 ho1 hr1; have HR1 := hide hr1; have HZ1 := hide (((VRow.new w 49 (zero32.map byteVal)).alloc _).only ho1 (by omega)); have HB1 := hide ((((Below.refl w.heap.size w).alloc (Nat.le_refl _) _).alloc (by simp) _).trans (ho1.below (by omega))); have HD1 := hide ((unhide HD).after (unhide HB1)); have c0 := (unhide HD1).c0; have c1 := (unhide HD1).c1; have f0 := (unhide HD1).f0; have f1 := (unhide HD1).f1; dsimp only at c0 c1; clear ho1 hr1)
    | (refine load_row (by rfl) 49 (.tmp 3) (by rfl) (w.heap.size + 1) (by rfl) 49 (zero32.map byteVal) (unhide HR1) 32 32 5 Tryz.underlying49 sizeDg (by rfl) ?_)
    | (refine store_row (by rfl) 49 (.tmp 2) (.tmp 27) (by rfl) w.heap.size (zero32.map byteVal) (by rfl) (by rfl) 49 (zero32.map byteVal) (unhide HZ1) 32 sizeDg rfl rfl (one_bytes _) ?_; intro w2 ho2 hr2; have HR2 := hide hr2; have HO2 := hide ho2; clear ho2 hr2))
  refine bodyPost_ret (v := .agg (zero32.map byteVal).toArray) ?_ rfl ⟨rfl, ?_, ?_⟩
  · exact results_row25 _ _ w.heap.size _ rfl (unhide HR2) rfl
  · exact (unhide HD1).only (unhide HO2) (by omega)
  · exact beside_of ((unhide HB1).trans ((unhide HO2).below (Nat.le_refl _)))

set_option maxRecDepth 100000 in
set_option maxHeartbeats 1000000 in
theorem refDigestR_short (q : Nat) (b : List UInt8) (hb : b.length < 32) (w : World) (h : Doc w q 44 (b, 0)) :
    Calls Tryz.prog 20 #[.pointer (some ⟨q, 0, none⟩)] w (DocMade q 44 w (b, 5) (.agg (zero32.map byteVal).toArray)) := by
  have hbd := run_buildDg
  have hq := h.lt
  have HD := hide h
  have hz : ((str b).size : Int) < 32 := by rw [str_size]; omega
  clear h
  go_enter Tryz.func20, Tryz.ntmps20
  go_wp2_with (first
    | (refine store_row (by rfl) 49 _ _ (by rfl) (w.heap.size + 1) (zero32.map byteVal) (by rfl) (by rfl) 49 (zero32.map byteVal) (VRow.newAt (by simp)) 32 sizeDg rfl rfl (one_bytes _) ?_; intro w1 ho1 hr1; have HR1 := hide hr1; have HZ1 := hide (((VRow.new w 49 (zero32.map byteVal)).alloc _).only ho1 (by omega)); have HB1 := hide ((((Below.refl w.heap.size w).alloc (Nat.le_refl _) _).alloc (by simp) _).trans (ho1.below (by omega))); have HD1 := hide ((unhide HD).after (unhide HB1)); have c0 := (unhide HD1).c0; have c1 := (unhide HD1).c1; have f0 := (unhide HD1).f0; have f1 := (unhide HD1).f1; dsimp only at c0 c1; clear ho1 hr1)
    | (refine load_row (by rfl) 49 (.tmp 3) (by rfl) (w.heap.size + 1) (by rfl) 49 (zero32.map byteVal) ((unhide HR1).setNe (by omega) 1 (.int .i64 5)) 32 32 5 Tryz.underlying49 sizeDg (by rfl) ?_)
    | (refine store_row (by rfl) 49 (.tmp 2) (.tmp 27) (by rfl) w.heap.size (zero32.map byteVal) (by rfl) (by rfl) 49 (zero32.map byteVal) ((unhide HZ1).setNe (by omega) 1 (.int .i64 5)) 32 sizeDg rfl rfl (one_bytes _) ?_; intro w2 ho2 hr2; have HR2 := hide hr2; have HO2 := hide ho2; clear ho2 hr2))
  refine bodyPost_ret (v := .agg (zero32.map byteVal).toArray) ?_ rfl ⟨rfl, ?_, ?_⟩
  · exact results_row25 _ _ w.heap.size _ rfl (unhide HR2) rfl
  · exact ((unhide HD1).set1 5).only (unhide HO2) (by omega)
  · exact ((beside_of (unhide HB1)).trans (beside_set q 1 _ _)).only (unhide HO2) (Nat.le_refl _)

set_option maxRecDepth 100000 in
set_option maxHeartbeats 1000000 in
theorem refDigestR_good (q : Nat) (b : List UInt8) (hb : 32 ≤ b.length) (hs : b.length ≤ 100000000) (w : World) (h : Doc w q 44 (b, 0)) :
    Calls Tryz.prog 20 #[.pointer (some ⟨q, 0, none⟩)] w (DocMade q 44 w (b.drop 32, 0) (.agg ((b.take 32).map byteVal).toArray)) := by
  have hbd := run_buildDg
  have hq := h.lt
  have HD := hide h
  have hz : ¬ ((str b).size : Int) < 32 := by rw [str_size]; omega
  have hz2 : 32 ≤ (str b).size := by rw [str_size]; omega
  have hsz := str_size b
  have HX : Hid ((str b).extract 32 (str b).size = str (b.drop 32)) := hide (ext_tail b 32)
  clear h
  go_enter Tryz.func20, Tryz.ntmps20
  go_wp2_with (first
    | (refine store_row (by rfl) 49 _ _ (by rfl) (w.heap.size + 1) (zero32.map byteVal) (by rfl) (by rfl) 49 (zero32.map byteVal) (VRow.newAt (by simp)) 32 sizeDg rfl rfl (one_bytes _) ?_; intro w1 ho1 hr1; have HR1 := hide hr1; have HZ1 := hide (((VRow.new w 49 (zero32.map byteVal)).alloc _).only ho1 (by omega)); have HB1 := hide ((((Below.refl w.heap.size w).alloc (Nat.le_refl _) _).alloc (by simp) _).trans (ho1.below (by omega))); have HD1 := hide ((unhide HD).after (unhide HB1)); have c0 := (unhide HD1).c0; have c1 := (unhide HD1).c1; have f0 := (unhide HD1).f0; have f1 := (unhide HD1).f1; dsimp only at c0 c1; clear ho1 hr1))
  have HL : Hid ((b.take 32).length = 32) := hide (by rw [List.length_take]; omega)
  clear c0 c1 f0 f1
  go_loopw [4] (fun i wr => ∃ k : Nat, k ≤ 32 ∧ i = .int .i64 k ∧ Hid (VRow wr w.heap.size 49 (zero32.map byteVal) ∧ VRow wr (w.heap.size + 1) 49 (((b.take 32).take k ++ zero32.drop k).map byteVal) ∧ Doc wr q 44 (b, 0) ∧ Below w.heap.size w wr)) (fun i _ => 32 - (intOf i).toNat)
  case atStart => exact ⟨0, Nat.zero_le _, rfl, hide ⟨unhide HZ1, unhide HR1, unhide HD1, unhide HB1⟩⟩
  case round =>
    obtain ⟨k, hk, rfl, HH⟩ := hrel
    have c0 := (unhide HH).2.2.1.c0
    have f0 := (unhide HH).2.2.1.f0
    dsimp only at c0
    by_cases hlt : k < 32
    · have hks : k < (str b).size := by omega
      have hy := at_str hks
      have x0 := (unhide HH).2.1.cell k (.int .u8 0) (by rw [List.getElem?_map, mid_get _ _ _ (by rw [unhide HL]; omega), zero32, List.getElem?_replicate, if_pos hlt]; rfl)
      have g0 := (unhide HH).2.1.frozen k
      have HN : Hid (((((b.take 32).take k ++ zero32.drop k).map byteVal).set k (.int .u8 ((str b)[k].toNat : Int))) = ((b.take 32).take (k + 1) ++ zero32.drop (k + 1)).map byteVal) := hide (by
        rw [show Value.int .u8 ((str b)[k].toNat : Int) = byteVal (str b)[k] from rfl, ← List.map_set, mid_setQ _ _ k (str b)[k] (by rw [List.getElem?_take_of_lt hlt]; exact hy) (by simp [zero32]; exact hlt)])
      clear hy
      go_wp2_with fail
      go_roundw
      case rel =>
        refine ⟨k + 1, by omega, by go_num, hide ⟨(unhide HH).1.setNe (by omega) _ _, ?_, VRow.setNe (unhide HH).2.2.1 (by omega) _ _, (unhide HH).2.2.2.setCell (p := ⟨w.heap.size + 1, k, none⟩) (by show w.heap.size ≤ w.heap.size + 1; omega) _⟩⟩
        rw [← unhide HN]
        exact (unhide HH).2.1.set k _
      case measure => simp [intOf]; omega
    · obtain rfl : k = 32 := by omega
      have hfull : (b.take 32).take 32 ++ zero32.drop 32 = b.take 32 := by rw [List.take_of_length_le (by rw [unhide HL]; exact Nat.le_refl _), show zero32.drop 32 = [] from rfl, List.append_nil]
      have HR := (unhide HH).2.1
      rw [hfull] at HR
      have HRh := hide HR
      clear HR hfull
      go_wp2_with (first
        | (refine load_row (by rfl) 49 (.tmp 3) (by rfl) (w.heap.size + 1) (by rfl) 49 ((b.take 32).map byteVal) ((unhide HRh).setNe (by omega) _ _) 32 32 5 Tryz.underlying49 sizeDg (by rw [List.length_map]; exact unhide HL) ?_)
        | (refine store_row (by rfl) 49 (.tmp 2) (.tmp 48) (by rfl) w.heap.size ((b.take 32).map byteVal) (by rfl) (by rfl) 49 (zero32.map byteVal) ((unhide HH).1.setNe (by omega) _ _) 32 sizeDg (by rw [List.length_map]; exact unhide HL) rfl (one_bytes _) ?_; intro w2 ho2 hr2; have HR2 := hide hr2; have HO2 := hide ho2; clear ho2 hr2))
      refine bodyPost_ret (v := .agg ((b.take 32).map byteVal).toArray) ?_ rfl ⟨rfl, ?_, ?_⟩
      · exact results_row25 _ _ w.heap.size _ rfl (unhide HR2) (by rw [List.length_map]; exact unhide HL)
      · have h1 := (unhide HH).2.2.1.set0 (b.drop 32)
        rw [← unhide HX] at h1
        exact h1.only (unhide HO2) (by omega)
      · exact ((beside_of (unhide HH).2.2.2).trans (beside_set q 0 _ _)).only (unhide HO2) (Nat.le_refl _)

theorem refDigestR_any (q : Nat) (st : St) (hs : st.1.length ≤ 100000000) (w : World) (h : Doc w q 44 st) :
    Calls Tryz.prog 20 #[.pointer (some ⟨q, 0, none⟩)] w (DocMade q 44 w (rDigest st).2 (.agg ((rDigest st).1.map byteVal).toArray)) := by
  obtain ⟨b, e⟩ := st
  by_cases he : e = 0
  · subst he
    by_cases hb : b.length < 32
    · rw [show rDigest (b, 0) = (zero32, (b, 5)) from by simp [rDigest, hb]]
      exact refDigestR_short q b hb w h
    · rw [show rDigest (b, 0) = (b.take 32, (b.drop 32, 0)) from by simp [rDigest, hb]]
      exact refDigestR_good q b (by omega) hs w h
  · rw [show rDigest (b, e) = (zero32, (b, e)) from if_pos he]
    exact refDigestR_bad q b e he w h
end Go.Proofs.YthchcjjpplcfnaaGreat

namespace Go.Proofs.YthchcjjpplcfnaaGreat
open Go.RowKit

/-- An int of 64 bits. -/
def I64 (n : Int) : Prop := -9223372036854775808 ≤ n ∧ n ≤ 9223372036854775807
/-- The cells of a Writer that has nothing. -/
abbrev zeroW : Array Value := #[.slice none 0 0, .int .i64 0]
/-- What is turned is owned, or new. -/
def Turned (X : World → Addr → St → (Nat → Prop) → Prop) (own : Nat → Prop) (p : Addr) (w : World) (st : St) (v : Value) (e : Ending) (w' : World) : Prop :=
  ∃ own' : Nat → Prop, e = .returned v ∧ X w' p st own' ∧ (∀ g, own' g → own g ∨ w.heap.size ≤ g) ∧ Beside own w w'
def Told (w : World) (v : Value) (e : Ending) (w' : World) : Prop := e = .returned v ∧ Below w.heap.size w w'
theorem below_beside {own : Nat → Prop} {n : Nat} {a w w' : World} (h : Below n a w) (hn : n ≤ a.heap.size) (ho : ∀ g, own g → n ≤ g) (hb : Beside own w w') : Below n a w' := h.trans (hb.below (Nat.le_trans hn h.size) ho)
theorem own_beside {own own' : Nat → Prop} {n : Nat} {a w : World} (h : Below n a w) (hn : n ≤ a.heap.size) (ho : ∀ g, own g → n ≤ g) (hb : ∀ g, own' g → own g ∨ w.heap.size ≤ g) : ∀ g, own' g → n ≤ g := fun g hg => by
  rcases hb g hg with h1 | h1
  · exact ho g h1
  · have := h.size; omega

theorem range_after {W W' : World} {g o : Nat} {cs : List Value} (h : W.rangeAt g o cs) (hg : g < W.heap.size) (hb : Below W.heap.size W W') : W'.rangeAt g o cs := fun j v hv => (hb.cell (p := ⟨g, o + j, none⟩) hg).trans (h j v hv)
theorem VRow.range {W : World} {B T : Nat} {vs : List Value} (h : VRow W B T vs) : W.rangeAt B 0 vs := fun j v hv => by rw [Nat.zero_add]; exact h.cell j v hv
end Go.Proofs.YthchcjjpplcfnaaGreat
