/-
  Frames, as plain functions: what a message is sealed to, and what a text is the frame of, or what is wrong first.
-/
import Derived.Test.YthecijjmgfempaaGreatX1
import Derived.Test.YthecijjmgfempaaGreatZOpen
namespace Go.Proofs.YthecijjmgfempaaGreat
open Go.RowKit

/-- The text of a frame's message, and what is wrong with it. -/
def textF (l : List UInt8) : List UInt8 × Int := ((rText (l, 0) 131072).1, rDone (rText (l, 0) 131072).2)
/-- The bytes ahead of a right sum. -/
def Right (l : List UInt8) : Prop := 4 ≤ l.length ∧ l.drop (l.length - 4) = Cr.Crc.le 4 (Cr.Crc.sum (l.take (l.length - 4)))
instance (l : List UInt8) : Decidable (Right l) := by unfold Right; infer_instance
/-- What a text is the frame of: from each step on. -/
def fr5 (l : List UInt8) : Msg × Int := if (textF l).2 ≠ 0 then (zeroM, (textF l).2) else readM ((textF l).1, 0)
def fr4 (l : List UInt8) : Msg × Int := if [1].isPrefixOf l then fr5 (l.drop 1) else (zeroM, 15)
def fr3 (l : List UInt8) : Msg × Int := if [104, 115].isPrefixOf l then fr4 (l.drop 2) else (zeroM, 7)
def fr2 (l : List UInt8) : Msg × Int := if l.length < 3 then (zeroM, 5) else fr3 l
def fr1 (l : List UInt8) : Msg × Int := if Right l then fr2 (l.take (l.length - 4)) else (zeroM, 9)
def openF (l : List UInt8) : Msg × Int := if 131072 < l.length then (zeroM, 2) else fr1 l
theorem readM_bad (st : St) : (readM st).2 ≠ 0 → (readM st).1 = zeroM := by
  unfold readM
  split
  · intro _; rfl
  · intro h; exact absurd rfl h
theorem readM_few (st : St) : FewM (readM st).1 := by
  unfold readM
  split
  · exact zero_few 0 0 0 0
  · exact rMsg_few st
theorem openF_few (l : List UInt8) : FewM (openF l).1 := by
  have z := zero_few 0 0 0 0
  unfold openF fr1 fr2 fr3 fr4 fr5
  repeat' split
  all_goals first | exact z | exact readM_few _

theorem str_ex (s : ByteArray) (k : Nat) : s.extract k s.size = str (s.data.toList.drop k) := by
  apply data_inj
  rw [str_data, ← Lib.toList_data, Lib.extract_toList, List.take_of_length_le (by simp)]
theorem str_ex0 (s : ByteArray) (k : Nat) : s.extract 0 k = str (s.data.toList.take k) := by
  apply data_inj
  rw [str_data]
  simp

theorem crcOpen_any (l : List UInt8) (hl : l.length ≤ 40000000) (w : World) :
    Calls Tryz.prog 28 #[.string (str l)] w fun e w' => e = .returned (.tuple #[.string (str (if Right l then l.take (l.length - 4) else [])), .bool (decide (Right l))]) ∧ Below w.heap.size w w' := by
  have hs : (str l).size = l.length := str_size l
  by_cases h4 : 4 ≤ l.length
  · by_cases hq : Cr.Sealed (str l).data.toList (l.length - 4)
    · have hr : Right l := ⟨h4, by have h := hq; rw [str_data] at h; exact h⟩
      rw [if_pos hr, decide_eq_true hr]
      have h := Cr.Open_yes (str l) (l.length - 4) (by omega) (by omega) hq w
      rw [str_ex0, str_data] at h
      exact h
    · have hr : ¬ Right l := fun h => hq (by have h2 := h.2; unfold Cr.Sealed; rw [str_data]; exact h2)
      rw [if_neg hr, decide_eq_false hr]
      exact Cr.Open_no (str l) (l.length - 4) (by omega) (by omega) hq w
  · have hr : ¬ Right l := fun h => h4 h.1
    rw [if_neg hr, decide_eq_false hr]
    exact (Cr.Open_short (str l) (by omega) w).mono fun e w' h => ⟨h.1, by rw [h.2]; exact Below.refl _ _⟩
theorem refCrcOpen_any (l : List UInt8) (hl : l.length ≤ 40000000) (w : World) :
    Calls Tryz.prog 19 #[.string (str l)] w fun e w' => e = .returned (.tuple #[.string (str (if Right l then l.take (l.length - 4) else [])), .bool (decide (Right l))]) ∧ Below w.heap.size w w' := by
  have hs : (str l).size = l.length := str_size l
  by_cases h4 : 4 ≤ l.length
  · by_cases hq : Cr.Sealed (str l).data.toList (l.length - 4)
    · have hr : Right l := ⟨h4, by have h := hq; rw [str_data] at h; exact h⟩
      rw [if_pos hr, decide_eq_true hr]
      have h := Cr.refOpen_yes (str l) (l.length - 4) (by omega) (by omega) hq w
      rw [str_ex0, str_data] at h
      exact h
    · have hr : ¬ Right l := fun h => hq (by have h2 := h.2; unfold Cr.Sealed; rw [str_data]; exact h2)
      rw [if_neg hr, decide_eq_false hr]
      exact Cr.refOpen_no (str l) (l.length - 4) (by omega) (by omega) hq w
  · have hr : ¬ Right l := fun h => h4 h.1
    rw [if_neg hr, decide_eq_false hr]
    exact (Cr.refOpen_short (str l) (by omega) w).mono fun e w' h => ⟨h.1, by rw [h.2]; exact Below.refl _ _⟩
end Go.Proofs.YthecijjmgfempaaGreat
