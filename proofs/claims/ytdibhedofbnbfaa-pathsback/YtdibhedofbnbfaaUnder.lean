/-
  What Under answers: whether a path is below a directory.
-/
import Derived.Test.YtdibhedofbnbfaaName
namespace Go.Proofs.Ytdibhedofbnbfaa
open Go.RowKit

theorem pre_iff (d s : List UInt8) : (d ++ [47]).isPrefixOf s = (d.isPrefixOf s && [47].isPrefixOf (s.drop d.length)) := by
  rw [Bool.eq_iff_iff, Bool.and_eq_true, List.isPrefixOf_iff_prefix, List.isPrefixOf_iff_prefix, List.isPrefixOf_iff_prefix]
  constructor
  · rintro ⟨t, rfl⟩
    exact ⟨⟨47 :: t, by simp⟩, ⟨t, by simp⟩⟩
  · rintro ⟨⟨t, rfl⟩, ⟨r, hr⟩⟩
    rw [List.drop_left] at hr
    exact ⟨r, by rw [← hr]; simp⟩

theorem empty_iff (d : ByteArray) : d.toList.isEmpty = true ↔ d.data.toList = [] := by rw [Lib.toList_data, List.isEmpty_iff]

set_option maxRecDepth 100000 in
set_option maxHeartbeats 1000000 in
theorem under_any (s d : ByteArray) (hs : s.size ≤ 100000) (w : World) :
    Calls Try.prog 24 #[.string s, .string d] w fun e w' => e = .returned (.bool (Pt.under s.data.toList d.data.toList)) ∧ Below w.heap.size w w' := by
  have HP := hide (isPath_any s hs)
  unfold Pt.under
  cases he : d.toList.isEmpty with
  | true =>
    rw [if_pos ((empty_iff d).1 he)]
    generalize Pt.isPath s.data.toList = P at *
    go_enter Try.func24, Try.ntmps24
    go_wp2_with (go_at_call 29; refine (unhide HP _).mono ?_; rintro e w1 ⟨rfl, hb1⟩; have HB1 := hide hb1; clear hb1)
    go_ret
    exact ⟨rfl, unhide HB1⟩
  | false =>
    have hne : ¬ d.data.toList = [] := fun h => by rw [(empty_iff d).2 h] at he; cases he
    rw [if_neg hne, pre_iff, Bool.decide_eq_true]
    have H1 := hide (Try.strings_CutPrefix s d)
    unfold Lib.trimPrefix at H1
    have e1 : Lib.hasPrefix s.data.toList d.data.toList = d.data.toList.isPrefixOf s.data.toList := rfl
    rw [e1] at H1
    cases hb : d.data.toList.isPrefixOf s.data.toList with
    | false =>
      rw [hb] at H1
      rw [Bool.false_and, Bool.false_and]
      clear hb e1 hne
      generalize (⟨(if false = true then s.data.toList.drop d.data.toList.length else s.data.toList).toArray⟩ : ByteArray) = R at H1
      go_enter Try.func24, Try.ntmps24
      go_wp2_with fail
      refine (unhide H1 _).mono ?_
      rintro e w1 ⟨rfl, rfl⟩
      go_wp2_with fail
      go_ret
      exact ⟨rfl, Below.refl _ _⟩
    | true =>
      rw [hb, if_pos rfl] at H1
      rw [Bool.true_and]
      obtain ⟨R, hR⟩ : ∃ R : ByteArray, R = ⟨(s.data.toList.drop d.data.toList.length).toArray⟩ := ⟨_, rfl⟩
      have H2 := hide (Try.strings_HasPrefix R ⟨#[47]⟩)
      have e2 : Lib.hasPrefix R.data.toList [47] = [47].isPrefixOf (s.data.toList.drop d.data.toList.length) := by rw [hR]; rfl
      have e3 : (⟨#[47]⟩ : ByteArray).data.toList = [47] := rfl
      rw [e3, e2] at H2
      rw [← hR] at H1
      generalize [47].isPrefixOf (s.data.toList.drop d.data.toList.length) = B at H2
      generalize Pt.isPath s.data.toList = P at HP
      clear hb e1 hne hR e2 e3
      cases B with
      | false =>
        rw [Bool.false_and]
        go_enter Try.func24, Try.ntmps24
        go_wp2_with fail
        refine (unhide H1 _).mono ?_
        rintro e w1 ⟨rfl, rfl⟩
        go_wp2_with (go_at_call 35; refine (unhide H2 _).mono ?_; rintro e w1 ⟨rfl, rfl⟩)
        go_ret
        exact ⟨rfl, Below.refl _ _⟩
      | true =>
        rw [Bool.true_and]
        go_enter Try.func24, Try.ntmps24
        go_wp2_with fail
        refine (unhide H1 _).mono ?_
        rintro e w1 ⟨rfl, rfl⟩
        go_wp2_with (first
          | (go_at_call 35; refine (unhide H2 _).mono ?_; rintro e w1 ⟨rfl, rfl⟩)
          | (go_at_call 29; refine (unhide HP _).mono ?_; rintro e w1 ⟨rfl, hb1⟩; have HB1 := hide hb1; clear hb1))
        go_ret
        exact ⟨rfl, unhide HB1⟩
end Go.Proofs.Ytdibhedofbnbfaa
