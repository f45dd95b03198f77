/-
  The program's Writer: Fail, Number, Text, Flag, Digest and Done, of a Writer and of none. Conditions: those that each theorem names.
-/
import Derived.Test.YtklkacmeopfmhaaGreatCP1
namespace Go.Proofs.YtklkacmeopfmhaaGreat
open Go.RowKit

set_option maxRecDepth 100000 in
set_option maxHeartbeats 400000 in
theorem wfail_any {w : World} {p : Addr} {st : St} {own : Nat → Prop} (h : Wr w p st own) (x : Int) :
    Calls Tryz.prog 17 #[.pointer (some p), .int .i64 x] w (Turned Wr own p w (fail st x) (.tuple #[])) := by
  have HW := hide h
  obtain ⟨b, e⟩ := st
  obtain ⟨q, v, bs, rfl, h1, h2, ho⟩ := h
  dsimp only at h1 h2
  have c0 := h1.row.cell 0 v rfl
  have c1 := h1.row.cell 1 _ rfl
  have f0 := h1.row.frozen 0
  have f1 := h1.row.frozen 1
  have K := hide (wrong_any q e w c1)
  have HA := hide h1
  clear h1 h2
  by_cases he : e = 0
  · subst he
    rw [show fail (b, 0) x = (b, x) from rfl]
    by_cases hx : x = 0
    · subst hx
      go_enter Tryz.func17, Tryz.ntmps17
      go_wp2_with (go_at_call 25; refine (unhide K).mono ?_; rintro y w1 ⟨rfl, rfl⟩)
      go_end0
      exact turned_refl (unhide HW) (Below.refl _ _)
    · have hne : (x == 0) = false := by simp [hx]
      go_enter Tryz.func17, Tryz.ntmps17
      go_wp2_with (go_at_call 25; refine (unhide K).mono ?_; rintro y w1 ⟨rfl, rfl⟩)
      go_end0
      refine ⟨fun g => g = q, rfl, ⟨q, .slice none 0 0, [], rfl, ⟨((unhide HA).row.set 1 _).set 0 _, World.ownsRow_nil _ _ _ _, by simp [Value.ownBlock]⟩, fun h => absurd h hx, fun g => by simp [Value.ownBlock]⟩, fun g hg => .inl ((ho g).2 (.inl hg)), ?_⟩
      refine ⟨rfl, rfl, rfl, by simp, fun k hk hk2 => ?_⟩
      have hkq : k ≠ q := fun h => hk2 ((ho k).2 (.inl h))
      rw [heap_setCell_other _ ⟨q, 0, none⟩ k _ hkq, heap_setCell_other _ ⟨q, 1, none⟩ k _ hkq]
  · rw [show fail (b, e) x = (b, e) from if_neg he]
    have hne : (e != 0) = true := by simp [he]
    go_enter Tryz.func17, Tryz.ntmps17
    go_wp2_with (go_at_call 25; refine (unhide K).mono ?_; rintro y w1 ⟨rfl, rfl⟩)
    go_end0
    exact turned_refl (unhide HW) (Below.refl _ _)

set_option maxRecDepth 100000 in
set_option maxHeartbeats 400000 in
theorem wnumber_any {w : World} {p : Addr} {st : St} {own : Nat → Prop} (h : Wr w p st own) (hl : st.1.length ≤ 50000000) (n : Int) :
    Calls Tryz.prog 36 #[.pointer (some p), .int .i64 n] w (Turned Wr own p w (wNumber st n) (.tuple #[])) := by
  have KF := hide (wfail_any h 2)
  have hf : fail st 2 = wput st false (Cnt.putL n) := by unfold fail wput; by_cases he : st.2 = 0 <;> simp [he]
  rw [hf] at KF
  have KP := hide (Put_any n w)
  rw [show (⟨(Cnt.putL n).toArray⟩ : ByteArray) = str (Cnt.putL n) from rfl] at KP
  have KA := hide fun w' (hb : Below w.heap.size w w') => add_any (wr_after h hb) (str (Cnt.putL n)) (by rw [str_size]; have := Cnt.putL_len n; omega)
  rw [str_data] at KA
  unfold wNumber
  clear h hf
  generalize Cnt.putL n = P at KP KF KA ⊢
  by_cases h0 : 0 ≤ n
  · have h0' : ¬ n < 0 := by omega
    rw [decide_eq_true h0, Bool.true_and]
    by_cases h1 : n ≤ 1073741824
    · have h1' : ¬ 1073741824 < n := by omega
      rw [decide_eq_true h1]
      go_enter Tryz.func36, Tryz.ntmps36
      go_wp2_with (first
        | (go_at_call 62; refine (unhide KP).mono ?_; rintro e w1 ⟨rfl, hb⟩; have HB := hide hb; clear hb)
        | (go_at_call 37; refine (unhide KA _ (unhide HB)).mono ?_; intro e w2 hm; have HM := hide (turned_of (unhide HB) hm); clear hm; obtain rfl : e = .returned (.tuple #[]) := (unhide HM).choose_spec.1))
      go_end0
      exact unhide HM
    · have h1' : 1073741824 < n := by omega
      rw [decide_eq_false h1]
      go_enter Tryz.func36, Tryz.ntmps36
      go_wp2_with (go_at_call 17; refine (unhide KF).mono ?_; intro e w2 hm; have HM := hide hm; clear hm; obtain rfl : e = .returned (.tuple #[]) := (unhide HM).choose_spec.1)
      go_end0
      exact unhide HM
  · rw [decide_eq_false h0, Bool.false_and]
    have h0' : n < 0 := by omega
    go_enter Tryz.func36, Tryz.ntmps36
    go_wp2_with (go_at_call 17; refine (unhide KF).mono ?_; intro e w2 hm; have HM := hide hm; clear hm; obtain rfl : e = .returned (.tuple #[]) := (unhide HM).choose_spec.1)
    go_end0
    exact unhide HM

theorem text_is (st : St) (s : ByteArray) (hs : s.size ≤ 65536) : wText st s = wput (wNumber st s.size) true s.data.toList := by
  have h1 : (decide (0 ≤ (s.size : Int)) && decide ((s.size : Int) ≤ 1073741824)) = true := by simp; omega
  unfold wText wNumber
  rw [h1, decide_eq_true hs]
  unfold wput
  by_cases he : st.2 = 0 <;> simp [he]

set_option maxRecDepth 100000 in
set_option maxHeartbeats 400000 in
theorem wtext_any {w : World} {p : Addr} {st : St} {own : Nat → Prop} (h : Wr w p st own) (hl : st.1.length ≤ 50000000) (s : ByteArray) :
    Calls Tryz.prog 19 #[.pointer (some p), .string s] w (Turned Wr own p w (wText st s) (.tuple #[])) := by
  by_cases hs : s.size ≤ 65536
  · rw [text_is st s hs]
    have hs' : ¬ 65536 < (s.size : Int) := by omega
    have KN := hide (wnumber_any h hl s.size)
    have hl2 : (wNumber st s.size).1.length + s.size ≤ 100000000 := by
      have h1 := wput_len st (decide (0 ≤ (s.size : Int)) && decide ((s.size : Int) ≤ 1073741824)) (Cnt.putL s.size)
      have h2 := Cnt.putL_len s.size
      have h3 : (wNumber st s.size).1.length ≤ st.1.length + 5 := by
        unfold wNumber
        refine Nat.le_trans h1 ?_
        split <;> omega
      omega
    have HL := hide hl2
    clear hl2 h
    generalize wNumber st s.size = S at KN HL ⊢
    go_enter Tryz.func19, Tryz.ntmps19
    go_wp2_with (first
      | (go_at_call 36; refine (unhide KN).mono ?_; rintro e w1 ⟨own1, rfl, hx, ho1, hb1⟩; have HX := hide hx; have HO := hide ho1; have HB := hide hb1; clear hx ho1 hb1)
      | (go_at_call 37; refine (add_any (unhide HX) s (unhide HL)).mono ?_; intro e w2 hm; have HM := hide (turned_trans (unhide HO) (unhide HB) hm); clear hm; obtain rfl : e = .returned (.tuple #[]) := (unhide HM).choose_spec.1))
    go_end0
    exact unhide HM
  · have hs' : 65536 < (s.size : Int) := by omega
    have KF := hide (wfail_any h 2)
    have hf : fail st 2 = wText st s := by unfold fail wText wput; by_cases he : st.2 = 0 <;> simp [he, hs]
    rw [hf] at KF
    go_enter Tryz.func19, Tryz.ntmps19
    go_wp2_with (go_at_call 17; refine (unhide KF).mono ?_; intro e w2 hm; have HM := hide hm; clear hm; obtain rfl : e = .returned (.tuple #[]) := (unhide HM).choose_spec.1)
    go_end0
    exact unhide HM

set_option maxRecDepth 100000 in
set_option maxHeartbeats 400000 in
theorem wflag_any {w : World} {p : Addr} {st : St} {own : Nat → Prop} (h : Wr w p st own) (hl : st.1.length ≤ 50000000) (is : Bool) :
    Calls Tryz.prog 66 #[.pointer (some p), .bool is] w (Turned Wr own p w (wFlag st is) (.tuple #[])) := by
  have h1 : (⟨#[1]⟩ : ByteArray).size = 1 := rfl
  have h0 : (⟨#[0]⟩ : ByteArray).size = 1 := rfl
  cases is with
  | true =>
    have KA := hide (add_any h ⟨#[1]⟩ (by omega))
    rw [show wput st true (⟨#[1]⟩ : ByteArray).data.toList = wFlag st true from rfl] at KA
    go_enter Tryz.func66, Tryz.ntmps66
    go_wp2_with (go_at_call 37; refine (unhide KA).mono ?_; intro e w2 hm; have HM := hide hm; clear hm; obtain rfl : e = .returned (.tuple #[]) := (unhide HM).choose_spec.1)
    go_end0
    exact unhide HM
  | false =>
    have KA := hide (add_any h ⟨#[0]⟩ (by omega))
    rw [show wput st true (⟨#[0]⟩ : ByteArray).data.toList = wFlag st false from rfl] at KA
    go_enter Tryz.func66, Tryz.ntmps66
    go_wp2_with (go_at_call 37; refine (unhide KA).mono ?_; intro e w2 hm; have HM := hide hm; clear hm; obtain rfl : e = .returned (.tuple #[]) := (unhide HM).choose_spec.1)
    go_end0
    exact unhide HM

set_option maxRecDepth 100000 in
set_option maxHeartbeats 400000 in
theorem wdone_any {w : World} {p : Addr} {st : St} {own : Nat → Prop} (h : Wr w p st own) : Calls Tryz.prog 8 #[.pointer (some p)] w (Told w (.tuple #[.string (str (told st)), .int .i64 st.2])) := by
  obtain ⟨b, e⟩ := st
  obtain ⟨q, v, bs, rfl, h1, h2, ho⟩ := h
  dsimp only at h1 h2
  have c0 := h1.row.cell 0 v rfl
  have c1 := h1.row.cell 1 _ rfl
  have K := hide (wrong_any q e w c1)
  have hcv := run_string_own h1.own
  rw [show (⟨bs.toArray⟩ : ByteArray) = str bs from rfl] at hcv
  clear h1 ho
  by_cases he : e = 0
  · subst he
    obtain rfl := h2 rfl
    clear h2
    rw [show told (bs, 0) = bs from rfl]
    go_enter Tryz.func8, Tryz.ntmps8
    go_wp2_with (go_at_call 25; refine (unhide K).mono ?_; rintro y w1 ⟨rfl, rfl⟩)
    go_ret2
    exact ⟨rfl, Below.refl _ _⟩
  · have hne : (e != 0) = true := by simp [he]
    clear h2
    rw [show told (b, e) = [] from if_pos he]
    go_enter Tryz.func8, Tryz.ntmps8
    go_wp2_with (go_at_call 25; refine (unhide K).mono ?_; rintro y w1 ⟨rfl, rfl⟩)
    go_ret2
    exact ⟨rfl, Below.refl _ _⟩

set_option maxRecDepth 100000 in
theorem add_nil (s : ByteArray) (w : World) : Calls Tryz.prog 37 #[.pointer none, .string s] w fun e w' => e = .returned (.tuple #[]) ∧ w' = w := by
  have K := hide (wrong_nil w)
  go_enter Tryz.func37, Tryz.ntmps37
  go_wp2_with (go_at_call 25; refine (unhide K).mono ?_; rintro y w1 ⟨rfl, rfl⟩)
  go_end0
  exact ⟨rfl, rfl⟩
set_option maxRecDepth 100000 in
theorem wfail_nil (x : Int) (w : World) : Calls Tryz.prog 17 #[.pointer none, .int .i64 x] w (Told w (.tuple #[])) := by
  have K := hide (wrong_nil w)
  obtain ⟨e0, he0⟩ : ∃ e0 : Int, e0 = 13 := ⟨_, rfl⟩
  rw [← he0] at K
  have hne : (e0 != 0) = true := by rw [he0]; rfl
  clear he0
  go_enter Tryz.func17, Tryz.ntmps17
  go_wp2_with (go_at_call 25; refine (unhide K).mono ?_; rintro y w1 ⟨rfl, rfl⟩)
  go_end0
  exact ⟨rfl, Below.refl _ _⟩
set_option maxRecDepth 100000 in
theorem wdone_nil (w : World) : Calls Tryz.prog 8 #[.pointer none] w (Told w (.tuple #[.string ⟨#[]⟩, .int .i64 13])) := by
  have K := hide (wrong_nil w)
  go_enter Tryz.func8, Tryz.ntmps8
  go_wp2_with (go_at_call 25; refine (unhide K).mono ?_; rintro y w1 ⟨rfl, rfl⟩)
  go_ret2
  exact ⟨rfl, Below.refl _ _⟩
set_option maxRecDepth 100000 in
theorem wnumber_nil (n : Int) (w : World) : Calls Tryz.prog 36 #[.pointer none, .int .i64 n] w (Told w (.tuple #[])) := by
  have KF := hide (wfail_nil 2 w)
  have KP := hide (Put_any n w)
  by_cases h0 : 0 ≤ n
  · have h0' : ¬ n < 0 := by omega
    by_cases h1 : n ≤ 1073741824
    · have h1' : ¬ 1073741824 < n := by omega
      generalize (⟨(Cnt.putL n).toArray⟩ : ByteArray) = S at KP
      go_enter Tryz.func36, Tryz.ntmps36
      go_wp2_with (first
        | (go_at_call 62; refine (unhide KP).mono ?_; rintro e w1 ⟨rfl, hb⟩; have HB := hide hb; clear hb)
        | (go_at_call 37; refine (add_nil _ _).mono ?_; rintro e w2 ⟨rfl, rfl⟩))
      go_end0
      exact ⟨rfl, unhide HB⟩
    · have h1' : 1073741824 < n := by omega
      go_enter Tryz.func36, Tryz.ntmps36
      go_wp2_with (go_at_call 17; refine (unhide KF).mono ?_; rintro e w2 ⟨rfl, hb⟩; have HB := hide hb; clear hb)
      go_end0
      exact ⟨rfl, unhide HB⟩
  · have h0' : n < 0 := by omega
    go_enter Tryz.func36, Tryz.ntmps36
    go_wp2_with (go_at_call 17; refine (unhide KF).mono ?_; rintro e w2 ⟨rfl, hb⟩; have HB := hide hb; clear hb)
    go_end0
    exact ⟨rfl, unhide HB⟩
set_option maxRecDepth 100000 in
theorem wtext_nil (s : ByteArray) (w : World) : Calls Tryz.prog 19 #[.pointer none, .string s] w (Told w (.tuple #[])) := by
  by_cases hs : s.size ≤ 65536
  · have hs' : ¬ 65536 < (s.size : Int) := by omega
    have KN := hide (wnumber_nil s.size w)
    go_enter Tryz.func19, Tryz.ntmps19
    go_wp2_with (first
      | (go_at_call 36; refine (unhide KN).mono ?_; rintro e w1 ⟨rfl, hb⟩; have HB := hide hb; clear hb)
      | (go_at_call 37; refine (add_nil _ _).mono ?_; rintro e w2 ⟨rfl, rfl⟩))
    go_end0
    exact ⟨rfl, unhide HB⟩
  · have hs' : 65536 < (s.size : Int) := by omega
    have KF := hide (wfail_nil 2 w)
    go_enter Tryz.func19, Tryz.ntmps19
    go_wp2_with (go_at_call 17; refine (unhide KF).mono ?_; rintro e w2 ⟨rfl, hb⟩; have HB := hide hb; clear hb)
    go_end0
    exact ⟨rfl, unhide HB⟩
set_option maxRecDepth 100000 in
theorem wflag_nil (is : Bool) (w : World) : Calls Tryz.prog 66 #[.pointer none, .bool is] w (Told w (.tuple #[])) := by
  cases is with
  | true =>
    go_enter Tryz.func66, Tryz.ntmps66
    go_wp2_with (go_at_call 37; refine (add_nil _ _).mono ?_; rintro e w2 ⟨rfl, rfl⟩)
    go_end0
    exact ⟨rfl, Below.refl _ _⟩
  | false =>
    go_enter Tryz.func66, Tryz.ntmps66
    go_wp2_with (go_at_call 37; refine (add_nil _ _).mono ?_; rintro e w2 ⟨rfl, rfl⟩)
    go_end0
    exact ⟨rfl, Below.refl _ _⟩
end Go.Proofs.YtklkacmeopfmhaaGreat
