/-
  What the document's writer does: its put, Number, Text, Flag, Digest, Fail and Done.
-/
import Derived.Test.YtklkacmeopfmhaaGreatCCod
namespace Go.Proofs.YtklkacmeopfmhaaGreat
open Go.RowKit

/-- The document's writer, or reader, in its block. -/
def Doc (W : World) (q T : Nat) (st : St) : Prop := VRow W q T [.string (str st.1), .int .i64 st.2]
def DocMade (q T : Nat) (w : World) (st : St) (v : Value) (e : Ending) (w' : World) : Prop := e = .returned v ∧ Doc w' q T st ∧ Beside (· = q) w w'
theorem Doc.c0 {W : World} {q T : Nat} {st : St} (h : Doc W q T st) : W.cell? ⟨q, 0, none⟩ = some (.string (str st.1)) := VRow.cell h 0 _ rfl
theorem Doc.c1 {W : World} {q T : Nat} {st : St} (h : Doc W q T st) : W.cell? ⟨q, 1, none⟩ = some (.int .i64 st.2) := VRow.cell h 1 _ rfl
theorem Doc.f0 {W : World} {q T : Nat} {st : St} (h : Doc W q T st) : W.frozen? ⟨q, 0, none⟩ = false := VRow.frozen h 0
theorem Doc.f1 {W : World} {q T : Nat} {st : St} (h : Doc W q T st) : W.frozen? ⟨q, 1, none⟩ = false := VRow.frozen h 1
theorem Doc.set0 {W : World} {q T : Nat} {st : St} (h : Doc W q T st) (b : List UInt8) : Doc (W.setCell ⟨q, 0, none⟩ (.string (str b))) q T (b, st.2) := VRow.set h 0 _
theorem Doc.set1 {W : World} {q T : Nat} {st : St} (h : Doc W q T st) (e : Int) : Doc (W.setCell ⟨q, 1, none⟩ (.int .i64 e)) q T (st.1, e) := VRow.set h 1 _
theorem Doc.after {W W' : World} {q T : Nat} {st : St} (h : Doc W q T st) (hb : Below W.heap.size W W') : Doc W' q T st := VRow.after h hb
theorem Doc.lt {W : World} {q T : Nat} {st : St} (h : Doc W q T st) : q < W.heap.size := VRow.lt h
theorem docMade_of {q T : Nat} {w w1 w' : World} {st : St} {v : Value} {e : Ending} (hb : Below w.heap.size w w1) (h : DocMade q T w1 st v e w') : DocMade q T w st v e w' := ⟨h.1, h.2.1, (beside_of hb).trans h.2.2⟩
theorem cat_ok {a b : List UInt8} (h : a.length + b.length ≤ 4611686018427387904) : ¬ ((str a).size + (str b).size > 9223372036854775807) := by rw [str_size, str_size]; omega

set_option maxRecDepth 100000 in
set_option maxHeartbeats 400000 in
theorem refput_any (q : Nat) (st : St) (is : Bool) (s : List UInt8) (hs : is = true → st.1.length + s.length ≤ 4611686018427387904) (w : World) (h : Doc w q 31 st) :
    Calls Tryz.prog 43 #[.pointer (some ⟨q, 0, none⟩), .bool is, .string (str s)] w (DocMade q 31 w (wput st is s) (.tuple #[])) := by
  obtain ⟨b, e⟩ := st
  have c0 := h.c0
  have c1 := h.c1
  have f0 := h.f0
  have f1 := h.f1
  dsimp only at c0 c1 hs
  have HD := hide h
  clear h
  by_cases he : e = 0
  · subst he
    cases is with
    | true =>
      have hcat := cat_ok (hs rfl)
      have HE : Hid (wput (b, 0) true s = (b ++ s, 0)) := hide rfl
      rw [unhide HE]
      go_enter Tryz.func43, Tryz.ntmps43
      go_wp2_with fail
      go_end0
      have h1 := (unhide HD).set0 (b ++ s)
      rw [← str_append] at h1
      exact ⟨rfl, h1, beside_set _ _ _ _⟩
    | false =>
      have HE : Hid (wput (b, 0) false s = (b, 2)) := hide rfl
      rw [unhide HE]
      go_enter Tryz.func43, Tryz.ntmps43
      go_wp2_with fail
      go_end0
      exact ⟨rfl, (unhide HD).set1 2, beside_set _ _ _ _⟩
  · have hne : (e != 0) = true := by simp [he]
    have HE : Hid (wput (b, e) is s = (b, e)) := hide (if_pos he)
    rw [unhide HE]
    go_enter Tryz.func43, Tryz.ntmps43
    go_wp2_with fail
    go_end0
    exact ⟨rfl, unhide HD, Beside.refl _ _⟩

set_option maxRecDepth 100000 in
set_option maxHeartbeats 400000 in
theorem refNumberW_any (q : Nat) (st : St) (n : Int) (hs : st.1.length ≤ 100000000) (w : World) (h : Doc w q 31 st) :
    Calls Tryz.prog 46 #[.pointer (some ⟨q, 0, none⟩), .int .i64 n] w (DocMade q 31 w (wNumber st n) (.tuple #[])) := by
  have KP := hide (refPut_all n w)
  have KD := hide fun w' (hb : Below w.heap.size w w') (is : Bool) => refput_any q st is (Cnt.putL n) (fun _ => by have := Cnt.putL_len n; omega) w' (h.after hb)
  rw [show (⟨(Cnt.putL n).toArray⟩ : ByteArray) = str (Cnt.putL n) from rfl] at KP
  unfold wNumber
  clear h
  generalize Cnt.putL n = P at KP KD ⊢
  by_cases h0 : 0 ≤ n
  · rw [decide_eq_true h0, Bool.true_and]
    by_cases h1 : n ≤ 1073741824
    · rw [decide_eq_true h1]
      go_enter Tryz.func46, Tryz.ntmps46
      go_wp2_with fail
      refine (unhide KP).mono ?_
      rintro e w1 ⟨rfl, hb⟩
      have HB := hide hb
      clear hb
      go_wp2_with fail
      refine (unhide KD _ (unhide HB) _).mono ?_
      rintro e w2 hm
      obtain ⟨rfl, h2, h3⟩ := docMade_of (unhide HB) hm
      have H2 := hide h2
      have H3 := hide h3
      clear hm h2 h3
      go_wp2_with fail
      go_end0
      exact ⟨rfl, unhide H2, unhide H3⟩
    · rw [decide_eq_false h1]
      have h1' : 1073741824 < n := by omega
      go_enter Tryz.func46, Tryz.ntmps46
      go_wp2_with fail
      refine (unhide KP).mono ?_
      rintro e w1 ⟨rfl, hb⟩
      have HB := hide hb
      clear hb
      go_wp2_with fail
      refine (unhide KD _ (unhide HB) _).mono ?_
      rintro e w2 hm
      obtain ⟨rfl, h2, h3⟩ := docMade_of (unhide HB) hm
      have H2 := hide h2
      have H3 := hide h3
      clear hm h2 h3
      go_wp2_with fail
      go_end0
      exact ⟨rfl, unhide H2, unhide H3⟩
  · rw [decide_eq_false h0, Bool.false_and]
    have h0' : n < 0 := by omega
    go_enter Tryz.func46, Tryz.ntmps46
    go_wp2_with fail
    refine (unhide KP).mono ?_
    rintro e w1 ⟨rfl, hb⟩
    have HB := hide hb
    clear hb
    go_wp2_with fail
    refine (unhide KD _ (unhide HB) _).mono ?_
    rintro e w2 hm
    obtain ⟨rfl, h2, h3⟩ := docMade_of (unhide HB) hm
    have H2 := hide h2
    have H3 := hide h3
    clear hm h2 h3
    go_wp2_with fail
    go_end0
    exact ⟨rfl, unhide H2, unhide H3⟩

theorem textCat (s : ByteArray) (hs : s.size ≤ 9223372036854775807) : ¬ ((str (Cnt.putL s.size)).size + s.size > 9223372036854775807) := by
  rw [str_size]
  have h := Cnt.putL_len s.size
  by_cases h1 : (1073741824 : Int) < s.size
  · rw [Cnt.putL_no _ (.inr h1)]
    simp
    omega
  · omega

set_option maxRecDepth 100000 in
set_option maxHeartbeats 400000 in
theorem refTextW_any (q : Nat) (st : St) (s : ByteArray) (hl : s.size ≤ 9223372036854775807) (hs : st.1.length ≤ 100000000) (w : World) (h : Doc w q 31 st) :
    Calls Tryz.prog 23 #[.pointer (some ⟨q, 0, none⟩), .string s] w (DocMade q 31 w (wText st s) (.tuple #[])) := by
  have KP := hide (refPut_all s.size w)
  have KD := hide fun w' (hb : Below w.heap.size w w') => refput_any q st (decide (s.size ≤ 65536)) (Cnt.putL s.size ++ s.data.toList) (fun h1 => by have := Cnt.putL_len s.size; have := of_decide_eq_true h1; rw [List.length_append, size_data]; omega) w' (h.after hb)
  rw [show (⟨(Cnt.putL s.size).toArray⟩ : ByteArray) = str (Cnt.putL s.size) from rfl] at KP
  have hcat := textCat s hl
  rw [← str_append, str_of] at KD
  unfold wText
  clear h
  generalize wput st (decide (s.size ≤ 65536)) (Cnt.putL s.size ++ s.data.toList) = R at KD ⊢
  generalize str (Cnt.putL s.size) = P at KP KD hcat
  by_cases h1 : s.size ≤ 65536
  · have hd : decide (s.size ≤ 65536) = true := decide_eq_true h1
    rw [hd] at KD
    have hz : (s.size : Int) ≤ 65536 := by omega
    clear hd
    go_enter Tryz.func23, Tryz.ntmps23
    go_wp2_with fail
    refine (unhide KP).mono ?_
    rintro e w1 ⟨rfl, hb⟩
    have HB := hide hb
    clear hb
    go_wp2_with fail
    refine (unhide KD _ (unhide HB)).mono ?_
    rintro e w2 hm
    obtain ⟨rfl, h2, h3⟩ := docMade_of (unhide HB) hm
    have H2 := hide h2
    have H3 := hide h3
    clear hm h2 h3
    go_wp2_with fail
    go_end0
    exact ⟨rfl, unhide H2, unhide H3⟩
  · have hd : decide (s.size ≤ 65536) = false := decide_eq_false h1
    rw [hd] at KD
    have hz : ¬ (s.size : Int) ≤ 65536 := by omega
    clear hd
    go_enter Tryz.func23, Tryz.ntmps23
    go_wp2_with fail
    refine (unhide KP).mono ?_
    rintro e w1 ⟨rfl, hb⟩
    have HB := hide hb
    clear hb
    go_wp2_with fail
    refine (unhide KD _ (unhide HB)).mono ?_
    rintro e w2 hm
    obtain ⟨rfl, h2, h3⟩ := docMade_of (unhide HB) hm
    have H2 := hide h2
    have H3 := hide h3
    clear hm h2 h3
    go_wp2_with fail
    go_end0
    exact ⟨rfl, unhide H2, unhide H3⟩

set_option maxRecDepth 100000 in
set_option maxHeartbeats 400000 in
theorem refFlagW_any (q : Nat) (st : St) (is : Bool) (hs : st.1.length ≤ 100000000) (w : World) (h : Doc w q 31 st) :
    Calls Tryz.prog 48 #[.pointer (some ⟨q, 0, none⟩), .bool is] w (DocMade q 31 w (wFlag st is) (.tuple #[])) := by
  have KD := hide (refput_any q st true (flagB is) (fun _ => by have h2 : (flagB is).length = 1 := by { unfold flagB; split <;> rfl }; omega) w h)
  unfold wFlag
  clear h
  cases is with
  | true =>
    rw [show str (flagB true) = ⟨#[1]⟩ from rfl] at KD
    generalize wput st true (flagB true) = R at KD ⊢
    go_enter Tryz.func48, Tryz.ntmps48
    go_wp2_with fail
    refine (unhide KD).mono ?_
    rintro e w2 ⟨rfl, h2, h3⟩
    have H2 := hide h2
    have H3 := hide h3
    clear h2 h3
    go_wp2_with fail
    go_end0
    exact ⟨rfl, unhide H2, unhide H3⟩
  | false =>
    rw [show str (flagB false) = ⟨#[0]⟩ from rfl] at KD
    generalize wput st true (flagB false) = R at KD ⊢
    go_enter Tryz.func48, Tryz.ntmps48
    go_wp2_with fail
    refine (unhide KD).mono ?_
    rintro e w2 ⟨rfl, h2, h3⟩
    have H2 := hide h2
    have H3 := hide h3
    clear h2 h3
    go_wp2_with fail
    go_end0
    exact ⟨rfl, unhide H2, unhide H3⟩

set_option maxRecDepth 100000 in
set_option maxHeartbeats 400000 in
theorem refFailW_any (q : Nat) (st : St) (x : Int) (w : World) (h : Doc w q 31 st) :
    Calls Tryz.prog 21 #[.pointer (some ⟨q, 0, none⟩), .int .i64 x] w (DocMade q 31 w (fail st x) (.tuple #[])) := by
  obtain ⟨b, e⟩ := st
  have c1 := h.c1
  have f1 := h.f1
  dsimp only at c1
  have HD := hide h
  clear h
  by_cases he : e = 0
  · subst he
    rw [show fail (b, 0) x = (b, x) from rfl]
    go_enter Tryz.func21, Tryz.ntmps21
    go_wp2_with fail
    go_end0
    exact ⟨rfl, (unhide HD).set1 x, beside_set _ _ _ _⟩
  · have hne : (e == 0) = false := by simp [he]
    rw [show fail (b, e) x = (b, e) from if_neg he]
    go_enter Tryz.func21, Tryz.ntmps21
    go_wp2_with fail
    go_end0
    exact ⟨rfl, unhide HD, Beside.refl _ _⟩

set_option maxRecDepth 100000 in
set_option maxHeartbeats 400000 in
theorem refDoneW_any (q : Nat) (st : St) (w : World) (h : Doc w q 31 st) :
    Calls Tryz.prog 9 #[.pointer (some ⟨q, 0, none⟩)] w fun e w' => e = .returned (.tuple #[.string (str (told st)), .int .i64 st.2]) ∧ Below w.heap.size w w' := by
  obtain ⟨b, e⟩ := st
  have c0 := h.c0
  have c1 := h.c1
  dsimp only at c0 c1
  clear h
  by_cases he : e = 0
  · subst he
    rw [show told (b, 0) = b from rfl]
    go_enter Tryz.func9, Tryz.ntmps9
    go_wp2_with fail
    go_ret2
    exact ⟨rfl, Below.refl _ _⟩
  · have hne : (e != 0) = true := by simp [he]
    rw [show told (b, e) = [] from if_pos he]
    go_enter Tryz.func9, Tryz.ntmps9
    go_wp2_with fail
    go_quiet (fail)
    go_wp2_with fail
    go_ret2
    exact ⟨rfl, below_drewN (Below.refl _ _) _⟩
end Go.Proofs.YtklkacmeopfmhaaGreat
