/-
  What Under answers: whether a path is below a directory.
-/
import Derived.Test.YtebjlmnhpfoglaaGreatDoorB12
import Derived.Test.YtebjlmnhpfoglaaGreatDoorB15
import Derived.Test.YtebjlmnhpfoglaaGreatDoorB13
namespace Go.Proofs.YtebjlmnhpfoglaaGreatDoor.Pth
open Go.RowKit

theorem pre_iff (d s : List UInt8) : (d ++ [47]).isPrefixOf s = (d.isPrefixOf s && [47].isPrefixOf (s.drop d.length)) := by
  rw [Bool.eq_iff_iff, Bool.and_eq_true, List.isPrefixOf_iff_prefix, List.isPrefixOf_iff_prefix, List.isPrefixOf_iff_prefix]
  constructor
  · rintro ⟨t, rfl⟩
    exact ⟨⟨47 :: t, by simp⟩, ⟨t, by simp⟩⟩
  · rintro ⟨⟨t, rfl⟩, ⟨r, hr⟩⟩
    rw [List.drop_left] at hr
    exact ⟨r, by rw [← hr]; simp⟩

theorem empty_iff (d : ByteArray) : d.toList.isEmpty = true ↔ d.data.toList = [] := by rw [Lib.toList_data, List.isEmpty_iff]

end Go.Proofs.YtebjlmnhpfoglaaGreatDoor.Pth

/-
  What Under answers: whether a path is below a directory.
-/

namespace Go.Proofs.YtebjlmnhpfoglaaGreatDoor.Pth
open Go.RowKit

set_option maxRecDepth 100000 in
set_option maxHeartbeats 1000000 in
theorem under_any (s d : ByteArray) (hs : s.size ≤ 100000) (w : World) :
    Calls Tryz.prog 79 #[.string s, .string d] w fun e w' => e = .returned (.bool (Pt.under s.data.toList d.data.toList)) ∧ Below w.heap.size w w' := by
  have HP := hide (isPath_any s hs)
  unfold Pt.under
  cases he : d.toList.isEmpty with
  | true =>
    rw [if_pos ((empty_iff d).1 he)]
    generalize Pt.isPath s.data.toList = P at *
    go_enter Tryz.func79, Tryz.ntmps79
    go_wp2_with (go_at_call 61; refine (unhide HP _).mono ?_; rintro e w1 ⟨rfl, hb1⟩; have HB1 := hide hb1; clear hb1)
    go_ret
    exact ⟨rfl, unhide HB1⟩
  | false =>
    have hne : ¬ d.data.toList = [] := fun h => by rw [(empty_iff d).2 h] at he; cases he
    rw [if_neg hne, pre_iff, Bool.decide_eq_true]
    have H1 := hide (Tryz.strings_CutPrefix s d)
    unfold Lib.trimPrefix at H1
    have e1 : Lib.hasPrefix s.data.toList d.data.toList = d.data.toList.isPrefixOf s.data.toList := rfl
    rw [e1] at H1
    cases hb : d.data.toList.isPrefixOf s.data.toList with
    | false =>
      rw [hb] at H1
      rw [Bool.false_and, Bool.false_and]
      clear hb e1 hne
      generalize (⟨(if false = true then s.data.toList.drop d.data.toList.length else s.data.toList).toArray⟩ : ByteArray) = R at H1
      go_enter Tryz.func79, Tryz.ntmps79
      go_wp2_with fail
      refine (unhide H1 _).mono ?_
      rintro e w1 ⟨rfl, rfl⟩
      go_wp2_with fail
      go_ret
      exact ⟨rfl, Below.refl _ _⟩
    | true =>
      rw [hb, if_pos rfl] at H1
      rw [Bool.true_and]
      obtain ⟨R, hR⟩ : ∃ R : ByteArray, R = ⟨(s.data.toList.drop d.data.toList.length).toArray⟩ := ⟨_, rfl⟩
      have H2 := hide (Tryz.strings_HasPrefix R ⟨#[47]⟩)
      have e2 : Lib.hasPrefix R.data.toList [47] = [47].isPrefixOf (s.data.toList.drop d.data.toList.length) := by rw [hR]; rfl
      have e3 : (⟨#[47]⟩ : ByteArray).data.toList = [47] := rfl
      rw [e3, e2] at H2
      rw [← hR] at H1
      generalize [47].isPrefixOf (s.data.toList.drop d.data.toList.length) = B at H2
      generalize Pt.isPath s.data.toList = P at HP
      clear hb e1 hne hR e2 e3
      cases B with
      | false =>
        rw [Bool.false_and]
        go_enter Tryz.func79, Tryz.ntmps79
        go_wp2_with fail
        refine (unhide H1 _).mono ?_
        rintro e w1 ⟨rfl, rfl⟩
        go_wp2_with (go_at_call 110; refine (unhide H2 _).mono ?_; rintro e w1 ⟨rfl, rfl⟩)
        go_ret
        exact ⟨rfl, Below.refl _ _⟩
      | true =>
        rw [Bool.true_and]
        go_enter Tryz.func79, Tryz.ntmps79
        go_wp2_with fail
        refine (unhide H1 _).mono ?_
        rintro e w1 ⟨rfl, rfl⟩
        go_wp2_with (first
          | (go_at_call 110; refine (unhide H2 _).mono ?_; rintro e w1 ⟨rfl, rfl⟩)
          | (go_at_call 61; refine (unhide HP _).mono ?_; rintro e w1 ⟨rfl, hb1⟩; have HB1 := hide hb1; clear hb1))
        go_ret
        exact ⟨rfl, unhide HB1⟩
end Go.Proofs.YtebjlmnhpfoglaaGreatDoor.Pth

/-
  Whether two lists of texts are the same, and what Parts answers: a path's names.
-/

namespace Go.Proofs.YtebjlmnhpfoglaaGreatDoor.Pth
open Go.RowKit

theorem data_inj (a b : ByteArray) (h : a.data.toList = b.data.toList) : a = b := ByteArray.ext (Array.toList_inj.1 h)
theorem lists_inj : ∀ bs cs : List ByteArray, lists bs = lists cs → bs = cs
  | [], [], _ => rfl
  | [], _ :: _, h => by cases h
  | _ :: _, [], h => by cases h
  | b :: bs, c :: cs, h => by
    have h' : b.data.toList :: lists bs = c.data.toList :: lists cs := h
    rw [List.cons.injEq] at h'
    rw [data_inj b c h'.1, lists_inj bs cs h'.2]

theorem toList_eq (a b : ByteArray) : (a.toList == b.toList) = decide (a = b) := by
  rw [Bool.eq_iff_iff, beq_iff_eq, decide_eq_true_eq, Lib.toList_data, Lib.toList_data]
  exact ⟨data_inj a b, fun h => by rw [h]⟩

end Go.Proofs.YtebjlmnhpfoglaaGreatDoor.Pth

/-
  What Up and Last answer: the directory in which a path is, and its last name.
-/

namespace Go.Proofs.YtebjlmnhpfoglaaGreatDoor.Pth
open Go.RowKit

theorem bang_get (s : ByteArray) (j : Nat) (h : j < s.size) : s.data[j]! = s[j] := getElem!_pos s.data j h

theorem none_slash (s : ByteArray) (h : ∀ j, j < s.size → ((s.data[j]!).toNat : Int) ≠ 47) : ∀ x ∈ s.data.toList, x ≠ 47 := by
  intro x hx e
  obtain ⟨j, hj, rfl⟩ := List.mem_iff_getElem.1 hx
  have hj' : j < s.size := hj
  refine h j hj' ?_
  rw [bang_get s j hj']
  have : s[j] = 47 := e
  rw [this]
  rfl

theorem cut_slash (s : ByteArray) (i : Nat) (hi : i < s.size) (h47 : ((s.data[i]!).toNat : Int) = 47) (h : ∀ j, i < j → j < s.size → ((s.data[j]!).toNat : Int) ≠ 47) :
    s.data.toList = (s.extract 0 i).data.toList ++ 47 :: (s.extract (i + 1) s.size).data.toList ∧ ∀ x ∈ (s.extract (i + 1) s.size).data.toList, x ≠ 47 := by
  have hl : s.data.toList.length = s.size := rfl
  have e1 : (s.extract 0 i).data.toList = s.data.toList.take i := by rw [extract_list, List.drop_zero]
  have e2 : (s.extract (i + 1) s.size).data.toList = s.data.toList.drop (i + 1) := by rw [extract_list, List.take_of_length_le (by omega)]
  rw [bang_get s i hi] at h47
  have h8 : s[i] = 47 := UInt8.toNat_inj.1 (by show s[i].toNat = 47; omega)
  refine ⟨?_, ?_⟩
  · rw [e1, e2]
    conv => lhs; rw [← List.take_append_drop i s.data.toList]
    rw [List.drop_eq_getElem_cons (by omega)]
    have : s.data.toList[i] = 47 := h8
    rw [this]
  · rw [e2]
    intro x hx e
    obtain ⟨j, hj, rfl⟩ := List.mem_iff_getElem.1 hx
    rw [List.length_drop] at hj
    rw [List.getElem_drop] at e
    refine h (i + 1 + j) (by omega) (by omega) ?_
    rw [bang_get s (i + 1 + j) (by omega)]
    have : s[i + 1 + j] = 47 := e
    rw [this]
    rfl

theorem ret_str {a b : ByteArray} (h : a = b) : Ending.returned (.string a) = .returned (.string b) := by rw [h]
theorem one_of : (⟨#[47]⟩ : ByteArray).size = 1 := rfl

set_option maxRecDepth 100000 in
set_option maxHeartbeats 1000000 in
theorem up_any (s : ByteArray) (hs : s.size ≤ 100000) (U : ByteArray) (hU : U.data.toList = Pt.up s.data.toList) (w : World) :
    Calls Tryz.prog 112 #[.string s] w fun e w' => e = .returned (.string U) ∧ Below w.heap.size w w' := by
  have K1 := hide (isPath_any s hs)
  have K2 := hide (Tryz.strings_LastIndex_one s ⟨#[47]⟩ one_of (by omega))
  have e47 : (((⟨#[47]⟩ : ByteArray)[0]'(by decide)).toNat : Int) = 47 := rfl
  rw [e47] at K2
  unfold Pt.up at hU
  cases hp : Pt.isPath s.data.toList with
  | false =>
    rw [hp, if_neg (by decide)] at hU
    obtain rfl : U = ⟨#[]⟩ := data_inj _ _ hU
    rw [hp] at K1
    clear hp hU K2 e47
    go_enter Tryz.func112, Tryz.ntmps112
    go_wp2_with (go_at_call 61; refine (unhide K1 _).mono ?_; rintro e w1 ⟨rfl, hb1⟩; have HB1 := hide hb1; clear hb1)
    go_ret
    exact ⟨rfl, unhide HB1⟩
  | true =>
    rw [hp, if_pos rfl] at hU
    rw [hp] at K1
    clear hp e47
    rcases Lib.lastIndexByte_spec s 47 with ⟨e, hn⟩ | ⟨i, hi, e, h47, hn⟩
    · rw [(Pt.one_up _ (none_slash s hn)).1] at hU
      have HU : Hid (ByteArray.empty = U) := hide (data_inj _ _ hU.symm)
      rw [e] at K2
      have hmax : ∀ w : World, (Builtin.max_ #[3, 3] 3 #[.int .i64 0, .int .i64 (-1)]).run Tryz.prog w = .ok (.int .i64 0) w := by intro w; rfl
      clear e hn hU
      go_enter Tryz.func112, Tryz.ntmps112
      go_wp2_with (first
        | (go_at_call 61; refine (unhide K1 _).mono ?_; rintro e w1 ⟨rfl, hb1⟩; have HB1 := hide hb1; clear hb1)
        | (go_at_call 113; refine (unhide K2 _).mono ?_; rintro e w2 ⟨rfl, rfl⟩))
      go_ret
      exact ⟨ret_str (unhide HU), unhide HB1⟩
    · obtain ⟨hcut, hno⟩ := cut_slash s i hi h47 hn
      rw [hcut, (Pt.more_up _ _ hno).1] at hU
      have HU : Hid (s.extract 0 i = U) := hide (data_inj _ _ hU.symm)
      rw [e] at K2
      have hmax : ∀ w : World, (Builtin.max_ #[3, 3] 3 #[.int .i64 0, .int .i64 (i : Int)]).run Tryz.prog w = .ok (.int .i64 (i : Int)) w := by
        intro w
        simp [Builtin.max_, Builtin.max2]
        omega
      clear e hn hU hcut hno h47
      go_enter Tryz.func112, Tryz.ntmps112
      go_wp2_with (first
        | (go_at_call 61; refine (unhide K1 _).mono ?_; rintro e w1 ⟨rfl, hb1⟩; have HB1 := hide hb1; clear hb1)
        | (go_at_call 113; refine (unhide K2 _).mono ?_; rintro e w2 ⟨rfl, rfl⟩))
      go_ret
      exact ⟨ret_str (unhide HU), unhide HB1⟩

set_option maxRecDepth 100000 in
set_option maxHeartbeats 1000000 in
theorem last_any (s : ByteArray) (hs : s.size ≤ 100000) (U : ByteArray) (hU : U.data.toList = Pt.last s.data.toList) (w : World) :
    Calls Tryz.prog 81 #[.string s] w fun e w' => e = .returned (.string U) ∧ Below w.heap.size w w' := by
  have K1 := hide (isPath_any s hs)
  have K2 := hide (Tryz.strings_LastIndex_one s ⟨#[47]⟩ one_of (by omega))
  have e47 : (((⟨#[47]⟩ : ByteArray)[0]'(by decide)).toNat : Int) = 47 := rfl
  rw [e47] at K2
  unfold Pt.last at hU
  cases hp : Pt.isPath s.data.toList with
  | false =>
    rw [hp, if_neg (by decide)] at hU
    obtain rfl : U = ⟨#[]⟩ := data_inj _ _ hU
    rw [hp] at K1
    clear hp hU K2 e47
    go_enter Tryz.func81, Tryz.ntmps81
    go_wp2_with (go_at_call 61; refine (unhide K1 _).mono ?_; rintro e w1 ⟨rfl, hb1⟩; have HB1 := hide hb1; clear hb1)
    go_ret
    exact ⟨rfl, unhide HB1⟩
  | true =>
    rw [hp, if_pos rfl] at hU
    rw [hp] at K1
    clear hp e47
    rcases Lib.lastIndexByte_spec s 47 with ⟨e, hn⟩ | ⟨i, hi, e, h47, hn⟩
    · rw [(Pt.one_up _ (none_slash s hn)).2] at hU
      have HU : Hid (s = U) := hide (data_inj _ _ hU.symm)
      rw [e] at K2
      clear e hn hU
      go_enter Tryz.func81, Tryz.ntmps81
      go_wp2_with (first
        | (go_at_call 61; refine (unhide K1 _).mono ?_; rintro e w1 ⟨rfl, hb1⟩; have HB1 := hide hb1; clear hb1)
        | (go_at_call 113; refine (unhide K2 _).mono ?_; rintro e w2 ⟨rfl, rfl⟩))
      go_ret
      exact ⟨ret_str (unhide HU), unhide HB1⟩
    · obtain ⟨hcut, hno⟩ := cut_slash s i hi h47 hn
      rw [hcut, (Pt.more_up _ _ hno).2] at hU
      have HU : Hid (s.extract (i + 1) s.size = U) := hide (data_inj _ _ hU.symm)
      rw [e] at K2
      clear e hn hU hcut hno h47
      go_enter Tryz.func81, Tryz.ntmps81
      go_wp2_with (first
        | (go_at_call 61; refine (unhide K1 _).mono ?_; rintro e w1 ⟨rfl, hb1⟩; have HB1 := hide hb1; clear hb1)
        | (go_at_call 113; refine (unhide K2 _).mono ?_; rintro e w2 ⟨rfl, rfl⟩))
      go_ret
      exact ⟨ret_str (unhide HU), unhide HB1⟩
end Go.Proofs.YtebjlmnhpfoglaaGreatDoor.Pth

/-
  What stands at a directory and below it: what within answers. Conditions: those that each theorem names.
-/

namespace Go.Proofs.YtebjlmnhpfoglaaGreatDoor
open Go.RowKit

theorem tw_stop {α : Type} {p : α → Bool} {l : List α} {k : Nat} (hk : k ≤ l.length) (h : ∀ x ∈ l.take k, p x = true) (hs : ∀ x, l[k]? = some x → p x = false) : (l.takeWhile p).length = k := by
  have e : l = l.take k ++ l.drop k := (List.take_append_drop k l).symm
  have h2 : l.takeWhile p = l.take k := by
    conv => lhs; rw [e]
    refine tw_append h fun x hx => hs x ?_
    rw [List.head?_drop] at hx
    exact hx
  rw [h2, List.length_take]
  omega

set_option maxRecDepth 100000 in
set_option maxHeartbeats 1000000 in
theorem within_any (a : Option Addr) (cap : Nat) (l : List En) (hl : l.length ≤ 100000) (hc : l.length ≤ cap) (hps : ∀ x ∈ l, x.1.size ≤ 1000) (d : ByteArray) (w : World) (h : EL w a l) :
    Calls Tryz.prog 50 #[.slice a l.length cap, .string d] w fun e w' => e = .returned (.slice a (l.takeWhile (atU d)).length cap) ∧ (l.takeWhile (atU d)).length ≤ l.length ∧ Below w.heap.size w w' := by
  have HS := hide h
  have HPS := hide hps
  obtain ⟨n, hn⟩ : ∃ n, l.length = n := ⟨_, rfl⟩
  have HN := hide hn
  obtain ⟨M, hM⟩ : ∃ M, (l.takeWhile (atU d)).length = M := ⟨_, rfl⟩
  have HM := hide hM
  rw [hn] at hl hc ⊢
  rw [hM]
  clear h hps hn hM
  go_enter Tryz.func50, Tryz.ntmps50
  go_wp2_with fail
  go_loopw [5] (fun i wr => ∃ k : Nat, k ≤ n ∧ i = .int .i64 k ∧ (∀ x ∈ l.take k, atU d x = true) ∧ Below w.heap.size w wr) (fun i _ => n - (intOf i).toNat)
  case atStart => exact ⟨0, Nat.zero_le _, rfl, fun x hx => (by simp at hx), Below.refl _ _⟩
  case round =>
    obtain ⟨k, hk, rfl, hall, hb⟩ := hrel
    have HB := hide hb
    have HALL := hide hall
    have HS1 := hide ((unhide HS).after hb)
    clear hb hall
    by_cases hlt : k < n
    · obtain ⟨x, hx⟩ : ∃ x, l[k]? = some x := ⟨_, List.getElem?_eq_getElem (by rw [unhide HN]; exact hlt)⟩
      obtain ⟨g, o, rfl, hg, hcell⟩ := unhide HS1 (by rw [unhide HN]; omega)
      obtain ⟨r, c, x0, x1, h5, h6⟩ := hcell k x hx
      have HSN : Hid (atU d x = true → ∀ y ∈ l.take (k + 1), atU d y = true) := hide (fun hat y hy => by
        rw [List.take_add_one, hx] at hy
        rcases List.mem_append.1 hy with hy | hy
        · exact unhide HALL y hy
        · simp at hy
          rw [hy]
          exact hat)
      have HST : Hid (atU d x = false → M = k) := hide (fun hat => by
        rw [← unhide HM]
        refine tw_stop (by rw [unhide HN]; omega) (unhide HALL) fun y hy => ?_
        rw [hx] at hy
        injection hy with hy
        rw [← hy]
        exact hat)
      have KU := hide fun W => Pth.under_any x.1 d (by have := unhide HPS x (List.mem_of_getElem? hx); omega) W
      rw [show Pth.Pt.under x.1.data.toList d.data.toList = underE x.1 d from rfl] at KU
      have hlt2 : (k : Int) < (n : Int) := by omega
      clear hx hcell hg h5 h6 x1 HALL
      by_cases he : x.1 = d
      · have hat : atU d x = true := by unfold atU; rw [decide_eq_true he]; rfl
        have hE : (x.1.toList == d.toList) = true := by rw [same_text, decide_eq_true he]
        have H1 := hide (unhide HSN hat)
        clear HSN HST hat he KU
        go_wp2_with fail
        go_roundw
        case rel => exact ⟨k + 1, by omega, by go_num, unhide H1, unhide HB⟩
        case measure => simp [intOf]; omega
      · have hE : (x.1.toList == d.toList) = false := by rw [same_text, decide_eq_false he]
        have hat : atU d x = underE x.1 d := by unfold atU; rw [decide_eq_false he]; rfl
        rw [hat] at HSN HST
        generalize underE x.1 d = U at HSN HST KU
        clear hat he
        cases U with
        | true =>
          have H1 := hide (unhide HSN rfl)
          clear HSN HST
          go_wp2_with fail
          refine (unhide KU _).mono ?_
          rintro e w2 ⟨rfl, hb2⟩
          have HB2 := hide (below_grow (unhide HB) (Nat.le_refl _) hb2)
          clear hb2 KU x0
          go_wp2_with fail
          go_roundw
          case rel => exact ⟨k + 1, by omega, by go_num, unhide H1, unhide HB2⟩
          case measure => simp [intOf]; omega
        | false =>
          obtain rfl := unhide HST rfl
          have hsl := sliceE_to (some ⟨g, o, none⟩) n cap M hk hc
          clear HSN HST
          go_wp2_with fail
          refine (unhide KU _).mono ?_
          rintro e w2 ⟨rfl, hb2⟩
          have HB2 := hide (below_grow (unhide HB) (Nat.le_refl _) hb2)
          clear hb2 KU x0
          go_wp2_with fail
          go_ret
          exact ⟨rfl, hk, unhide HB2⟩
    · obtain rfl : k = n := by omega
      obtain rfl : M = k := by
        rw [← unhide HM]
        exact tw_stop (by rw [unhide HN]; exact Nat.le_refl _) (unhide HALL) fun y hy => by rw [List.getElem?_eq_none (by rw [unhide HN]; exact Nat.le_refl _)] at hy; cases hy
      have hsl := sliceE_to a M cap M (Nat.le_refl _) hc
      go_wp2_with fail
      go_ret
      exact ⟨rfl, Nat.le_refl _, unhide HB⟩
end Go.Proofs.YtebjlmnhpfoglaaGreatDoor

/-
  The paths right below a directory, each with what stands at it and below it: what below goes through, for every loop that keeps what lay ahead of it. Conditions: those that each theorem names.
-/

namespace Go.Proofs.YtebjlmnhpfoglaaGreatDoor
open Go.RowKit Go.Shelf

attribute [local go_sem] Oper.semAt_some

/-- What a round keeps: what lay below, and one block more. -/
structure KB (n B : Nat) (W W' : World) : Prop where
  below : Below n W W'
  same : W'.heap[B]? = W.heap[B]?
theorem KB.trans {n B : Nat} {W W' W'' : World} (h : KB n B W W') (k : KB n B W' W'') : KB n B W W'' := ⟨h.below.trans k.below, k.same.trans h.same⟩
theorem KB.put {n B : Nat} {w : World} (hn : n ≤ w.heap.size) (hB : B < w.heap.size) (W : World) (l : Nat) (o o' : Obj) (hl : w.heap.size ≤ l) (h : W.heap[l]? = some o) (h1 : o.isCells = false) (h2 : o.isWalk = false) : KB n B W (W.putObj l o') :=
  ⟨belowK_b hn W l o o' hl h h1 h2, World.putObj_heap_other (by omega)⟩
theorem KB.cell {n B : Nat} {W W' : World} (h : KB n B W W') {v : Value} (hc : W.cell? ⟨B, 0, none⟩ = some v) : W'.cell? ⟨B, 0, none⟩ = some v := (World.cell?_of_block h.same).trans hc

/-- A path right below, with a slice of what stands there. -/
def GK (w : World) (t : List En) (d : ByteArray) := { x : ByteArray × Value // ∃ s ∈ namesT t d, x.1 = downE d s ∧ ∃ a c, x.2 = .slice a (grpT t d s).length c ∧ (grpT t d s).length ≤ c ∧ EL w a (grpT t d s) }
def encG {w : World} {t : List En} {d : ByteArray} (x : GK w t d) : Array Value := #[.string x.1.1, x.1.2]
def lenS : Value → Nat
  | .slice _ n _ => n
  | _ => 0
def partsOf : Value → Nat
  | .string s => (partsE s).length
  | _ => 0
theorem abide_below {α : Type} {B : Nat} {J : List α → World → Prop} (hJ : AbidesFrom B J) {pre : List α} {A W : World} (h : J pre A) (hb : Below A.heap.size A W) : J pre W :=
  hJ pre A W none h ⟨hb.os, hb.tape, hb.output, hb.size, fun k hk _ => hb.block k hk⟩ (fun r e => by cases e)
theorem flat_pos {t : List En} {d : ByteArray} {j : Nat} (hj : j < (namesT t d).length) : 0 < (((namesT t d).drop j).flatMap (grpT t d)).length := by
  rw [List.drop_eq_getElem_cons hj, List.flatMap_cons, List.length_append]
  have := List.length_pos_iff.2 (grp_pos (List.getElem_mem hj))
  omega

set_option maxRecDepth 100000 in
set_option maxHeartbeats 2000000 in
theorem below1_in (n : Nat) (l B1 B2 : Nat) (t : List En) (ht : Tr t) (d : ByteArray) (w : World) (a : Option Addr) (ca : Nat) (hca : (underT t d).length ≤ ca) (hel : EL w a (underT t d))
    (J Jx : List (GK w t d) → World → Prop) (hJ : ∀ pre A B, J pre A → Below A.heap.size A B → J pre B)
    (hY : ∀ pre s W, J pre W → pre.length < 128 → YieldAt Fence.wide (n - 1) Tryz.prog l (encG s) W fun e W' =>
      (e = .returned (.bool true) ∧ J (pre ++ [s]) W' ∧ KB w.heap.size B2 W W') ∨ (e = .returned (.bool false) ∧ Jx (pre ++ [s]) W'))
    (W : World) (hW : Below w.heap.size w W) (hB1 : W.cell? ⟨B1, 0, none⟩ = some (.slice a (underT t d).length ca)) (hB2 : W.cell? ⟨B2, 0, none⟩ = some (.string d)) (h0 : J [] W) :
    CallsIn Fence.wide n Tryz.prog 111 #[.func (.yield l) #[] #[], .pointer (some ⟨B1, 0, none⟩), .pointer (some ⟨B2, 0, none⟩)] W fun e W' => (∃ v, e = .returned v) ∧
      ((∃ zs : List (GK w t d), zs.map (·.1.1) = (namesT t d).map (downE d) ∧ J zs W') ∨ (∃ pre : List (GK w t d), True ∧ Jx pre W')) := by
  have HT := hide ht
  have HY := hide hY
  have HJ := hide hJ
  have HW := hide hW
  obtain ⟨N, hN⟩ : ∃ N, namesT t d = N := ⟨_, rfl⟩
  have HN := hide hN
  have hug := under_groups ht.srt d
  rw [hN] at hug
  have HE0 : Hid (EL w a ((N.drop 0).flatMap (grpT t d))) := hide (by rw [List.drop_zero, hug]; exact hel)
  obtain ⟨U, hU⟩ : ∃ U, (underT t d).length = U := ⟨_, rfl⟩
  have HU : Hid (((N.drop 0).flatMap (grpT t d)).length = U) := hide (by rw [List.drop_zero, hug, hU])
  rw [hU] at hB1 hca
  have HUL : Hid (U ≤ 128) := hide (by rw [← hU]; have h1 : (underT t d).length ≤ t.length := List.length_filter_le _ _; have h2 := ht.few; omega)
  have HNL : Hid (N.length ≤ 128) := hide (by rw [← hN]; have h1 := len_names t d; have h2 := ht.few; omega)
  have HJ0 := hide h0
  clear ht hY hJ hel hug hU hW h0 hN
  refine callsIn_of_wp Tryz.func111 rfl trivial ?_ rfl
  simp only [Tryz.ntmps111, List.size_toArray, List.length_cons, List.length_nil, Nat.reduceAdd, Nat.reduceSub, Array.replicate_succ, Array.replicate_zero, List.push_toArray, List.append_toArray, List.nil_append, List.cons_append]
  gi_wp2
  gi_loopw [4] (fun p wr => ∃ (j : Nat) (pre : List (GK w t d)) (a' : Option Addr) (ca' m : Nat), p = .slice a' m ca' ∧ ((N.drop j).flatMap (grpT t d)).length = m ∧ m ≤ ca' ∧ m ≤ U ∧ j ≤ N.length ∧ pre.map (·.1.1) = (N.take j).map (downE d) ∧ EL w a' ((N.drop j).flatMap (grpT t d)) ∧ Below w.heap.size w wr ∧ wr.cell? ⟨B2, 0, none⟩ = some (.string d) ∧ J pre wr) (fun p _ => lenS p)
  case atStart => exact ⟨0, [], a, ca, U, rfl, unhide HU, hca, Nat.le_refl _, Nat.zero_le _, rfl, unhide HE0, unhide HW, hB2, unhide HJ0⟩
  case round =>
    obtain ⟨j, pre, a', ca', m, rfl, hm, hmc, hmU, hj, hpre, hel, hbw, hb2, hJ1⟩ := hrel
    have HM := hide hm
    have HPRE := hide hpre
    have HE := hide hel
    have HBW := hide hbw
    have HJ1 := hide hJ1
    clear hm hpre hel hbw hJ1 hB1 hB2 HE0 HU HJ0 HW
    by_cases hjN : j < N.length
    · obtain ⟨s, hs⟩ : ∃ s, N[j]? = some s := ⟨_, List.getElem?_eq_getElem hjN⟩
      have hmem : s ∈ namesT t d := by rw [unhide HN]; exact List.mem_of_getElem? hs
      obtain ⟨hdir, hsn, h4⟩ := names_dir hmem
      obtain ⟨hrun1, hrun2⟩ := grp_run (unhide HT).srt (unhide HN) hs
      obtain ⟨e0, er, hge⟩ : ∃ e0 er, grpT t d s = e0 :: er := by
        cases hg : grpT t d s with
        | nil => exact absurd hg (grp_pos hmem)
        | cons x r => exact ⟨x, r, rfl⟩
      have hm0 : 0 < m := by
        rw [← unhide HM, hrun1, hge]
        simp
      have hR0 : ((N.drop j).flatMap (grpT t d))[0]? = some e0 := by rw [hrun1, hge]; rfl
      obtain ⟨g, o, rfl, hg, hcell⟩ := ((unhide HE).after (unhide HBW)) (by rw [unhide HM]; exact hm0)
      obtain ⟨r, c, x0, _, _, _⟩ := hcell 0 e0 hR0
      rw [Nat.zero_mul, Nat.add_zero] at x0
      have he0 := (grp_mem hmem e0).1 (by rw [hge]; exact List.mem_cons_self ..)
      have hm0z : (0 : Int) < (m : Int) := by omega
      have HMEM := hide hmem
      have HS := hide hs
      have HRUN1 := hide hrun1
      have HRUN2 := hide hrun2
      have HE0 := hide he0
      have HP0 : Hid (e0.1.size ≤ 1000) := hide (by have := path_size ((unhide HT).path e0 he0.1); omega)
      have HSUB : Hid (∀ x ∈ (N.drop j).flatMap (grpT t d), x.1.size ≤ 1000) := hide (fun x hx => by
        obtain ⟨s', hs', hx2⟩ := List.mem_flatMap.1 hx
        have hm' : s' ∈ namesT t d := by rw [unhide HN]; exact List.mem_of_mem_drop hs'
        have := path_size ((unhide HT).path x ((grp_mem hm' x).1 hx2).1)
        omega)
      have HDIR := hide (And.intro hdir (And.intro hsn h4))
      clear hs hmem hdir hsn h4 hrun1 hrun2 hge hR0 hcell he0 hg er
      gi_wp2_with fail
      obtain ⟨wo, hwo⟩ : ∃ wo, wo = wr := ⟨_, rfl⟩
      subst hwo
      gi_loopw [5] (fun q wr2 => ∃ k : ByteArray, q = .string k ∧ underE k d = true ∧ nm k d = s ∧ k.size ≤ 1000 ∧ Below wo.heap.size wo wr2) (fun q _ => partsOf q)
      case atStart => exact ⟨e0.1, rfl, (unhide HE0).2.1, (unhide HE0).2.2, unhide HP0, Below.refl _ _⟩
      case round =>
        obtain ⟨k, rfl, hku, hkn, hks, hbk⟩ := hrel
        have KU := hide fun W => Pth.up_any k (by omega) (upE k) (by unfold upE; rw [str_data]) W
        have hst := up_step hku
        rw [hkn] at hst
        have HBK := hide hbk
        have hb3 := (hbk.cell (p := ⟨B2, 0, none⟩) (block_lt_of_cell hb2)).trans hb2
        have q0 := cell_regrown hb3
        clear hku hkn hbk x0
        rcases hst with ⟨hup, hkd⟩ | ⟨hup, hu2, hn2, hlt⟩
        · have hE : ((upE k).toList == d.toList) = true := by rw [same_text, decide_eq_true hup]
          clear hup
          subst hkd
          obtain ⟨q, hq⟩ : ∃ q, (grpT t d s).length = q := ⟨_, rfl⟩
          have HQ := hide hq
          have hqm : q ≤ m := by rw [← unhide HM, unhide HRUN1, List.length_append, hq]; omega
          have KWI := hide fun W (h : EL W (some ⟨g, o, none⟩) ((N.drop j).flatMap (grpT t d))) => within_any (some ⟨g, o, none⟩) ca' ((N.drop j).flatMap (grpT t d)) (by rw [unhide HM]; have h2 := unhide HUL; omega) (by rw [unhide HM]; exact hmc) (unhide HSUB) (downE d s) W h
          rw [unhide HRUN2, unhide HM, hq] at KWI
          clear hq
          have HEG : Hid (EL w (some ⟨g, o, none⟩) (grpT t d s)) := hide (by
            have h1 := (unhide HE).take q
            rw [unhide HRUN1, List.take_append_of_le_length (by rw [unhide HQ]; exact Nat.le_refl _), List.take_of_length_le (by rw [unhide HQ]; exact Nat.le_refl _)] at h1
            exact h1)
          have hsl := sliceE_from (some ⟨g, o, none⟩) ((N.drop j).flatMap (grpT t d)) m ca' q (unhide HM) hqm hmc
          obtain ⟨A, cA, s2, hcA, hA⟩ := hsl
          have HA : Hid (EL w A ((N.drop (j + 1)).flatMap (grpT t d))) := hide (by
            have h1 := hA w (unhide HE)
            rw [unhide HRUN1, List.drop_append_of_le_length (by rw [unhide HQ]; exact Nat.le_refl _), List.drop_of_length_le (by rw [unhide HQ]; exact Nat.le_refl _), List.nil_append] at h1
            exact h1)
          have HA2 : Hid (((N.drop (j + 1)).flatMap (grpT t d)).length = m - q) := hide (by
            have h1 := unhide HM
            rw [unhide HRUN1, List.length_append, unhide HQ] at h1
            omega)
          have hlen : pre.length < 128 := by
            have h1 := congrArg List.length (unhide HPRE)
            rw [List.length_map, List.length_map, List.length_take] at h1
            have h2 := unhide HNL
            omega
          clear hA
          gi_wp2_with fail
          refine wpIn_wide.2 ?_
          refine wp_region_quiet_below (by kernel_rfl) (by kernel_rfl) ?_
          repeat (quiet_step (first | (go_at_call 112; exact Calls.regrown_of (unhide KU _))))
          refine wpQuiet_nil ?_
          rintro _ ⟨⟨dq, osq⟩, rfl⟩
          have HB2 := hide (below_grow (below_grow (unhide HBW) (Nat.le_refl _) (unhide HBK)) (Nat.le_refl _) (below_regrown _ dq osq))
          gi_wp2_with fail
          refine ⟨trivial, fun h => (by cases h), (callsIn_wide.2 (unhide KWI _ ((unhide HE).after (unhide HB2)))).mono ?_⟩
          rintro e w3 ⟨rfl, _, hb4⟩
          have HB3 := hide (below_grow (unhide HB2) (Nat.le_refl _) hb4)
          have H03 := hide (below_grow (below_grow (unhide HBK) (Nat.le_refl _) (below_regrown _ dq osq)) (Nat.le_refl _) hb4)
          have HC3 := hide (((unhide H03).cell (p := ⟨B2, 0, none⟩) (block_lt_of_cell hb2)).trans hb2)
          obtain ⟨fn, tmps, assign, body, hy, hR⟩ := unhide HY pre ⟨(downE d s, .slice (some ⟨g, o, none⟩) (grpT t d s).length ca'), s, unhide HMEM, rfl, _, ca', rfl, by rw [unhide HQ]; omega, unhide HEG⟩ w3 (unhide HJ _ _ _ (unhide HJ1) (unhide H03)) hlen
          have hy2 : (Instr.yield l #[.string (downE d s), .slice (some ⟨g, o, none⟩) q ca']).run Tryz.prog w3 = .ok (.round l fn tmps assign body) w3 := by rw [← unhide HQ]; exact hy
          clear hy hb4 KWI KU q0 hb3 hE
          gi_wp2_with fail
          refine ⟨fun h => (by cases h), hR.mono ?_⟩
          rintro e W4 (⟨rfl, hJ4, hk4⟩ | ⟨rfl, hJx4⟩)
          · have HJ4 := hide hJ4
            have HB4 := hide ((unhide HB3).trans hk4.below)
            have HC4 := hide (hk4.cell (unhide HC3))
            clear hJ4 hk4 hR hy2 hb2
            gi_wp2_with fail
            go_roundw
            case rel => exact ⟨j + 1, pre ++ [⟨(downE d s, .slice (some ⟨g, o, none⟩) (grpT t d s).length ca'), s, unhide HMEM, rfl, _, ca', rfl, by rw [unhide HQ]; omega, unhide HEG⟩], A, cA, m - q, rfl, unhide HA2, hcA, by omega, by omega, by rw [List.map_append, unhide HPRE, List.take_add_one, unhide HS, List.map_append]; rfl, unhide HA, unhide HB4, unhide HC4, unhide HJ4⟩
            case measure =>
              simp only [lenS]
              have h1 := List.length_pos_iff.2 (grp_pos (unhide HMEM))
              rw [unhide HQ] at h1
              omega
          · have HJx4 := hide hJx4
            clear hJx4 hR hy2 hb2
            gi_wp2_with fail
            refine bodyPost_ret (results_none rfl _ _ _) rfl ?_
            exact ⟨⟨_, rfl⟩, .inr ⟨_, trivial, unhide HJx4⟩⟩
        · have hE : ((upE k).toList == d.toList) = false := by rw [same_text, decide_eq_false hup]
          clear hup
          gi_wp2_with fail
          refine wpIn_wide.2 ?_
          refine wp_region_quiet_below (by kernel_rfl) (by kernel_rfl) ?_
          repeat (quiet_step (first | (go_at_call 112; exact Calls.regrown_of (unhide KU _))))
          refine wpQuiet_nil ?_
          rintro _ ⟨⟨dq, osq⟩, rfl⟩
          gi_wp2_with fail
          refine ⟨trivial, fun h => (by cases h), (callsIn_wide.2 (unhide KU _)).mono ?_⟩
          rintro e w3 ⟨rfl, hb4⟩
          have HB3 := hide (below_grow (below_grow (unhide HBK) (Nat.le_refl _) (below_regrown _ dq osq)) (Nat.le_refl _) hb4)
          clear hb4 KU q0 hb3 hE
          gi_wp2_with fail
          go_roundw
          case rel => exact ⟨upE k, rfl, hu2, hn2, by have := path_size (under_split hu2).1; omega, unhide HB3⟩
          case measure => simp only [partsOf]; exact hlt
    · obtain rfl : j = N.length := by omega
      have hm0 : m = 0 := by rw [← unhide HM, List.drop_length]; rfl
      subst hm0
      gi_wp2_with fail
      go_end0
      exact ⟨⟨_, rfl⟩, .inl ⟨pre, by rw [unhide HPRE, List.take_length, unhide HN], unhide HJ1⟩⟩
end Go.Proofs.YtebjlmnhpfoglaaGreatDoor

/-
  What the document's Up, Last and Under answer.
-/

namespace Go.Proofs.YtebjlmnhpfoglaaGreatDoor.Pth
open Go.RowKit

theorem lists_at (bs : List ByteArray) (k : Nat) : (lists bs)[k]? = bs[k]?.map (·.data.toList) := by simp [lists]

set_option maxRecDepth 100000 in
set_option maxHeartbeats 1000000 in
theorem refUnder_any (s d : ByteArray) (hs : s.size ≤ 1000) (hd : d.size ≤ 1000) (w : World) :
    Calls Tryz.prog 82 #[.string s, .string d] w fun e w' => e = .returned (.bool (Pt.under s.data.toList d.data.toList)) ∧ Below w.heap.size w w' := by
  have K1 := hide (refParts_any s hs)
  have K2 := hide (refParts_any d hd)
  have HI := hide (Pt.under_names s.data.toList d.data.toList)
  have hP4 := Pt.parts_le s.data.toList
  have hQ4 := Pt.parts_le d.data.toList
  have HPP := hide (Pt.parts_pos s.data.toList)
  have HPQ := hide (Pt.parts_pos d.data.toList)
  have HE := hide (empty_iff d)
  generalize Pt.under s.data.toList d.data.toList = B at *
  generalize Pt.parts s.data.toList = PS at *
  generalize Pt.parts d.data.toList = PD at *
  have no : (¬ (B = true)) → B = false := fun h => by cases B with | false => rfl | true => exact absurd rfl h
  have NO := hide no
  clear no
  go_enter Tryz.func82, Tryz.ntmps82
  go_wp2_with fail
  refine (unhide K1 _).mono ?_
  rintro e w1 ⟨a1, c1, bs, rfl, hl1, _, hs1, hb1⟩
  go_wp2_with fail
  refine (unhide K2 _).mono ?_
  rintro e w2 ⟨a2, c2, cs, rfl, hl2, _, hs2, hb2⟩
  have hbl : PS.length = bs.length := by rw [← hl1, size_lists]
  have hcl : PD.length = cs.length := by rw [← hl2, size_lists]
  rw [hbl] at hP4
  rw [hcl] at hQ4
  have HL1 := hide hl1
  have HL2 := hide hl2
  have HS1 := hide (hs1.after hb2)
  have HS2 := hide hs2
  have HB2 := hide (below_grow hb1 (Nat.le_refl _) hb2)
  rw [hbl] at HPP HI
  rw [hcl] at HPQ HI
  clear hl1 hl2 hs1 hs2 hb1 hb2 hbl hcl K1 K2
  by_cases h0 : bs.length = 0
  · obtain rfl := unhide NO fun h => by have := ((unhide HI).1 h).2.2.1; omega
    obtain rfl : bs = [] := List.length_eq_zero_iff.1 h0
    clear h0
    go_wp2_with fail
    go_ret
    exact ⟨rfl, unhide HB2⟩
  · have h0b : ((bs.length : Int) == 0) = false := by
      cases h : ((bs.length : Int) == 0) with
      | false => rfl
      | true => rw [beq_iff_eq] at h; omega
    have hpath : Hid (Pt.isPath s.data.toList = true) := hide (by rw [← unhide HPP]; exact decide_eq_true (by omega))
    have h1 : 1 ≤ bs.length := by omega
    clear h0
    by_cases hdd : d.toList.isEmpty = false ∧ cs.length = 0
    · obtain ⟨hde, hcz⟩ := hdd
      obtain rfl := unhide NO fun h => by
        rcases ((unhide HI).1 h).2.1 with h | h
        · rw [(unhide HE).2 h] at hde; cases hde
        · rw [← unhide HPQ, decide_eq_true_eq] at h; omega
      obtain rfl : cs = [] := List.length_eq_zero_iff.1 hcz
      clear hcz
      go_wp2_with fail
      go_ret
      exact ⟨rfl, unhide HB2⟩
    · have hdir : Hid (d.data.toList = [] ∨ Pt.isPath d.data.toList = true) := by
        cases hde : d.toList.isEmpty with
        | true => exact .inl ((unhide HE).1 hde)
        | false => refine .inr ?_; rw [← unhide HPQ]; exact decide_eq_true (Nat.pos_of_ne_zero fun h => hdd ⟨hde, h⟩)
      by_cases hge : bs.length ≤ cs.length
      · obtain rfl := unhide NO fun h => by have := ((unhide HI).1 h).2.2.1; omega
        cases hde : d.toList.isEmpty with
        | true =>
          clear hdd
          go_wp2_with fail
          go_ret
          exact ⟨rfl, unhide HB2⟩
        | false =>
          have hcb : ((cs.length : Int) == 0) = false := by
            cases h : ((cs.length : Int) == 0) with
            | false => rfl
            | true => rw [beq_iff_eq] at h; omega
          clear hdd
          go_wp2_with fail
          go_ret
          exact ⟨rfl, unhide HB2⟩
      · have hcond : d.toList.isEmpty = true ∨ (d.toList.isEmpty = false ∧ ((cs.length : Int) == 0) = false) := by
          cases hde : d.toList.isEmpty with
          | true => exact .inl rfl
          | false =>
            refine .inr ⟨rfl, ?_⟩
            cases h : ((cs.length : Int) == 0) with
            | false => rfl
            | true => rw [beq_iff_eq] at h; exact absurd ⟨hde, by omega⟩ hdd
        clear hdd
        rcases hcond with hde | ⟨hde, hcb⟩
        all_goals
          go_wp2_with fail
          go_loopw [7] (fun i wr => ∃ k q : Nat, k ≤ cs.length ∧ i = .int .i64 k ∧ (∀ j : Nat, j < k → bs[j]? = cs[j]?) ∧ wr = w2.drewN q) (fun i _ => cs.length - (intOf i).toNat)
          case atStart => exact ⟨0, 0, Nat.zero_le _, rfl, fun j hj => absurd hj (Nat.not_lt_zero _), rfl⟩
          case round =>
            obtain ⟨k, q, hk, rfl, hall, rfl⟩ := hrel
            have HALL := hide hall
            clear hall
            by_cases hlt : k < cs.length
            · obtain ⟨x, hx⟩ : ∃ x, bs[k]? = some x := ⟨_, List.getElem?_eq_getElem (by omega)⟩
              obtain ⟨y, hy⟩ : ∃ y, cs[k]? = some y := ⟨_, List.getElem?_eq_getElem hlt⟩
              obtain ⟨g1, o1, rfl, _, hc1⟩ := unhide HS1 (by omega)
              obtain ⟨g2, o2, rfl, _, hc2⟩ := unhide HS2 (by omega)
              have e1 : w2.cell? ⟨g1, o1 + k, none⟩ = some (.string x) := hc1 k x hx
              have e2 : w2.cell? ⟨g2, o2 + k, none⟩ = some (.string y) := hc2 k y hy
              have ht := toList_eq x y
              by_cases hxy : x = y
              · have HALL2 : Hid (∀ j : Nat, j < k + 1 → bs[j]? = cs[j]?) := by
                  intro j hj
                  by_cases e : j = k
                  · subst e; rw [hx, hy, hxy]
                  · exact unhide HALL j (by omega)
                have ht' : (x.toList == y.toList) = true := by rw [ht]; exact decide_eq_true hxy
                clear ht hxy hc1 hc2 hx hy
                go_wp2_with fail
                go_quiet (fail)
                go_wp2_with fail
                go_roundw
                case rel => exact ⟨k + 1, _, by omega, by go_num, unhide HALL2, rfl⟩
                case measure => simp [intOf]; omega
              · obtain rfl := unhide NO fun h => by
                  have := ((unhide HI).1 h).2.2.2 k (by omega)
                  rw [← unhide HL1, ← unhide HL2, lists_at, lists_at, hx, hy] at this
                  exact hxy (data_inj _ _ (Option.some.inj this))
                have ht' : (x.toList == y.toList) = false := by rw [ht]; exact decide_eq_false hxy
                clear ht hxy hc1 hc2 hx hy
                go_wp2_with fail
                go_quiet (fail)
                go_wp2_with fail
                go_ret
                exact ⟨rfl, below_drewN (below_drewN (unhide HB2) _) _⟩
            · obtain rfl : B = true := (unhide HI).2 ⟨unhide hpath, unhide hdir, by omega, fun i hi => by
                rw [← unhide HL1, ← unhide HL2, lists_at, lists_at, unhide HALL i (by omega)]⟩
              go_wp2_with fail
              go_ret
              exact ⟨rfl, below_drewN (unhide HB2) _⟩
end Go.Proofs.YtebjlmnhpfoglaaGreatDoor.Pth

/-
  A row of texts of the call's own; the document's names below a directory. Conditions: those that each theorem names.
-/

namespace Go.Proofs.YtebjlmnhpfoglaaGreatDoor
open Go.RowKit

/-- A row of texts of the call's own. -/
def OT (W : World) (base : Nat) (v : Value) (bs : List ByteArray) : Prop := W.ownsRow base 9 1 v bs.length (bs.map Value.string)
theorem OT.nil (W : World) (base : Nat) : OT W base (.slice none 0 0) [] := World.ownsRow_nil _ _ _ _
theorem OT.after {W W' : World} {base : Nat} {v : Value} {bs : List ByteArray} (h : OT W base v bs) (hb : Below W.heap.size W W') : OT W' base v bs := by
  refine ⟨h.1, ?_⟩
  rcases h.2 with h2 | ⟨g, cap, cur, e1, e2, e3, e4⟩
  · exact .inl h2
  · exact .inr ⟨g, cap, cur, e1, e2, (hb.block g (Array.getElem?_eq_some_iff.1 e3).1).trans e3, e4⟩
theorem OT.sl {W : World} {base : Nat} {v : Value} {bs : List ByteArray} (h : OT W base v bs) : ∃ a cap, v = .slice a bs.length cap ∧ bs.length ≤ cap ∧ Pth.Sl W a bs ∧ ∀ g o, a = some ⟨g, o, none⟩ → base ≤ g := by
  rcases h.2 with ⟨rfl, h0⟩ | ⟨g, cap, cur, rfl, hg, hh, c1, c2, c3, c4⟩
  · have : bs = [] := List.eq_nil_of_length_eq_zero h0
    subst this
    exact ⟨none, 0, rfl, Nat.le_refl _, Pth.Sl.none _ _, fun _ _ e => by cases e⟩
  · refine ⟨_, cap, rfl, c1, fun _ => ⟨g, 0, rfl, (Array.getElem?_eq_some_iff.1 hh).1, fun j b hj => ?_⟩, fun g' o' e => by injection e with e; injection e with e; omega⟩
    have hjl : j < bs.length := (List.getElem?_eq_some_iff.1 hj).1
    rw [cell_of_row W g _ cur 9 (0, 0) hh]
    have h5 : (cur.toList.take (bs.length * 1))[j]? = (bs.map Value.string)[j]? := by rw [c4]
    rw [List.getElem?_take_of_lt (by omega), List.getElem?_map, hj] at h5
    rw [Nat.zero_add]
    simpa using h5
theorem addr_add (g o j : Nat) : (⟨g, o, none⟩ : Addr).add j = ⟨g, o + j, none⟩ := by unfold Addr.add; split <;> simp_all
set_option maxRecDepth 100000 in
theorem append_txt {w : World} {ops : Array Oper} {rest : List Oper} {o : Oper} {a : Act} {Q : Exit → Act → World → Prop} (hgd : o.guard = none) (s x : Operand)
    (ho : o.op = .call { callee := .builtin .append, args := #[s, x], argTypes := #[67, 67] }) (base : Nat) (v : Value) (bs : List ByteArray) (hs : a.eval s = v) (hown : OT w base v bs)
    (ad : Option Addr) (n c : Nat) (ys : List ByteArray) (hn' : ys.length = n) (hx : a.eval x = .slice ad n c) (hD : Pth.Sl w ad ys) (hn : bs.length + ys.length ≤ 1000000) (hbase : base ≤ w.heap.size)
    (h : ∀ v' w', OT w' base v' (bs ++ ys) → Below base w w' → w.grownBy w' v.ownBlock → (v'.ownBlock = v.ownBlock ∨ v'.ownBlock = some w.heap.size) → wpList Tryz.prog ops Q rest (a.put o.dst v') w') : wpList Tryz.prog ops Q (o :: rest) a w := by
  subst hn'
  obtain ⟨i0, hi, hz0, hz1, hz2⟩ := info_parts Pth.info9
  have hone : ∀ v ∈ (ys.map Value.string), v.oneCell' = true := fun v hv => by
    obtain ⟨b, _, rfl⟩ := List.mem_map.1 hv
    rfl
  cases ad with
  | none =>
    have hxs : ys = [] := by
      cases ys with
      | nil => rfl
      | cons d l => obtain ⟨g, o, e, _⟩ := hD (by simp); cases e
    subst hxs
    refine wpList_plain hgd fun K hK => ?_
    have hrun := run_append_noneV (w := w) base 67 o.type 9 i0 1 Tryz.underlying67 hi v bs.length _ hown c
    unfold Oper.wp
    simp only [List.length_nil] at hx
    simp [execOp, ho, resolve, invoke, builtin, hs, hx, hrun, Result.andThen]
    refine hK _ _ (h v w ?_ (Below.refl _ _) ⟨rfl, rfl, rfl, Nat.le_refl _, fun _ _ _ => rfl⟩ (.inl rfl))
    rw [List.append_nil]
    exact hown
  | some ad =>
    have hps : ∀ j u, (ys.map Value.string)[j]? = some u → w.cell? (ad.add j) = some u := by
      intro j u hu
      rw [List.getElem?_map] at hu
      obtain ⟨b, hb, rfl⟩ := Option.map_eq_some_iff.1 hu
      obtain ⟨g, o, e, hg, hc⟩ := hD (by have := (List.getElem?_eq_some_iff.1 hb).1; omega)
      injection e with e
      subst e
      rw [addr_add]
      exact hc j b hb
    refine wpList_append_own_at w hgd s x 67 ho base 9 i0 _ 1 16 Tryz.underlying67 hi hz0 hz1 hz2 rfl (by decide) v bs.length (bs.map Value.string) hs hown ad ys.length c (ys.map Value.string) hx (by simp) hps hone (by unfold maxLen; omega) (by omega) hbase ?_
    intro v' w' g1 g2 _ g4
    refine h v' w' ?_ (grown_below hown g2 hbase) g2 g4
    unfold OT
    rw [List.length_append, List.map_append]
    exact g1
theorem one_txt {W : World} {D T : Nat} {b : ByteArray} (h : VRow W D T [.string b]) : Pth.Sl W (some ⟨D, 0, none⟩) [b] := fun _ => ⟨D, 0, rfl, h.lt, fun j x hj => by
  have hj0 : j = 0 := by have := (List.getElem?_eq_some_iff.1 hj).1; simp at this; omega
  subst hj0
  simp at hj
  subst hj
  exact h.cell 0 _ rfl⟩
def MadeT (w : World) (bs : List ByteArray) (e : Ending) (w' : World) : Prop := ∃ a cap, e = .returned (.slice a bs.length cap) ∧ bs.length ≤ cap ∧ Pth.Sl w' a bs ∧ (∀ g o, a = some ⟨g, o, none⟩ → w.heap.size ≤ g) ∧ Below w.heap.size w w'
theorem nm_at {p d : ByteArray} (h : underE p d = true) {bs cs : List ByteArray} (hb : Pth.lists bs = Pth.Pt.parts p.data.toList) (hc : Pth.lists cs = Pth.Pt.parts d.data.toList) : bs[cs.length]? = some (nm p d) := by
  obtain ⟨h1, _, r, h3⟩ := under_split h
  have e1 : (Pth.lists bs)[cs.length]? = some (nm p d).data.toList := by
    have e2 : cs.length = (partsE d).length := by unfold partsE; rw [← hc, Pth.size_lists]
    rw [hb, Pth.Pt.parts_path _ h1, h3, e2, List.getElem?_append_right (Nat.le_refl _), Nat.sub_self]
    rfl
  rw [Pth.lists_at] at e1
  obtain ⟨b, hb2, hb3⟩ := Option.map_eq_some_iff.1 e1
  rw [hb2, Pth.data_inj _ _ hb3]

set_option maxRecDepth 100000 in
set_option maxHeartbeats 4000000 in
theorem refNames_any (a : Option Addr) (cap : Nat) (t : List En) (ht : Eok t) (d : ByteArray) (hd : d.size ≤ 1000) (w : World) (h : EL w a t) :
    Calls Tryz.prog 52 #[.slice a t.length cap, .string d] w (MadeT w (namesT t d)) := by
  have KU := hide fun q (hq : q.size ≤ 1000) W => Pth.refUnder_any q d hq hd W
  have KP := hide fun q (hq : q.size ≤ 1000) W => Pth.refParts_any q hq W
  have HU : Hid (∀ q, Pth.Pt.under q.data.toList d.data.toList = underE q d) := hide fun _ => rfl
  have HT := hide ht
  have HS := hide h
  have hl := ht.len
  clear h ht
  go_enter Tryz.func52, Tryz.ntmps52
  go_wp2_with fail
  go_loopw [5, 6] (fun o i wr => ∃ (k : Nat), k ≤ t.length ∧ i = .int .i64 k ∧ OT wr w.heap.size o (namesT (t.take k) d) ∧ Below w.heap.size w wr) (fun _ i _ => t.length - (intOf i).toNat)
  case atStart => exact ⟨0, Nat.zero_le _, rfl, OT.nil _ _, Below.refl _ _⟩
  case round =>
    obtain ⟨k, hk, rfl, hot, hb⟩ := hrel
    have HO := hide hot
    have HB := hide hb
    have hsz := hb.size
    have hnl := len_names (t.take k) d
    rw [List.length_take] at hnl
    by_cases hlt : k < t.length
    · obtain ⟨x, hx⟩ : ∃ d, t[k]? = some d := ⟨_, List.getElem?_eq_getElem hlt⟩
      obtain ⟨g0, o0, e0, hg0, hcell0⟩ := unhide HS (by omega)
      subst e0
      obtain ⟨q, c, y0, _, _, _⟩ := hcell0 k x hx
      have HY0 := hide y0
      have x0 := (hb.cell (p := ⟨g0, o0 + k * 2, none⟩) hg0).trans y0
      have HG0 := hide hg0
      have HSN := hide (names_snoc t d k x hx)
      have hpx : x.1.size ≤ 1000 := (unhide HT).path x (List.mem_of_getElem? hx)
      generalize namesT (t.take k) d = L at HO HSN hnl
      clear hcell0 hx hg0 y0 hot hb
      go_wp2_with fail
      refine (unhide KU x.1 hpx _).mono ?_
      rintro e w1 ⟨rfl, hb⟩
      have HB1 := hide (below_grow (unhide HB) (Nat.le_refl _) hb)
      have HO1 := hide ((unhide HO).after hb)
      have hz1 := (unhide HB1).size
      have x0 := ((unhide HB1).cell (p := ⟨g0, o0 + k * 2, none⟩) (unhide HG0)).trans (unhide HY0)
      clear hb HB HO
      rw [unhide HU]
      cases hu : underE x.1 d with
      | false =>
        have HX : Hid (namesT (t.take (k + 1)) d = L) := hide (by rw [unhide HSN]; unfold nameStep; rw [if_pos hu])
        clear hu HSN
        go_wp2_with fail
        go_roundw
        case rel => exact ⟨k + 1, by omega, by go_num, by rw [unhide HX]; exact unhide HO1, unhide HB1⟩
        case measure => simp [intOf]; omega
      | true =>
        have HNM := hide (fun bs cs => nm_at (bs := bs) (cs := cs) hu)
        have HSN2 : Hid (namesT (t.take (k + 1)) d = if L.getLast? = some (nm x.1 d) then L else L ++ [nm x.1 d]) := hide (by rw [unhide HSN]; unfold nameStep; rw [if_neg (by simp [hu])])
        clear hu HSN
        generalize nm x.1 d = N at HNM HSN2
        go_wp2_with fail
        refine (unhide KP x.1 hpx _).mono ?_
        rintro e w2 ⟨a2, c2, bs, rfl, hbs, hc2, hsl2, hb⟩
        have HB2 := hide (below_grow (unhide HB1) (Nat.le_refl _) hb)
        have HO2 := hide ((unhide HO1).after hb)
        have HS2 := hide hsl2
        have HBS := hide hbs
        clear hb HB1 HO1 x0 hsl2 hbs
        go_wp2_with fail
        refine (unhide KP d hd _).mono ?_
        rintro e w3 ⟨a3, c3, cs, rfl, hcs, hc3, _, hb⟩
        have HB3 := hide (below_grow (unhide HB2) (Nat.le_refl _) hb)
        have HO3 := hide ((unhide HO2).after hb)
        have hz3 := (unhide HB3).size
        have hat := unhide HNM bs cs (unhide HBS) hcs
        have hcl : cs.length < bs.length := (List.getElem?_eq_some_iff.1 hat).1
        obtain ⟨g2, o2, rfl, hg2, hc2'⟩ := (unhide HS2).after hb (by omega)
        have z0 := hc2' _ _ hat
        clear hb HB2 HO2 hat hc2' hg2 HS2 HBS hcs HNM
        obtain ⟨a4, c4, rfl, hc4, hs4, _⟩ := (unhide HO3).sl
        by_cases hL : L = []
        · subst hL
          have HX : Hid (namesT (t.take (k + 1)) d = [N]) := hide (by rw [unhide HSN2, if_neg (by simp)]; rfl)
          have HV := hide (VRow.new w3 9 [.string N])
          have HA := hide (below_alloc' (w := w3) (.cells #[.string N] 9))
          clear HSN2 hs4
          go_wp2_with (at_builtin; refine append_txt (by rfl) _ _ (by rfl) w.heap.size _ [] (by rfl) ((unhide HO3).after (unhide HA)) _ 1 1 [N] rfl (by rfl) (one_txt (unhide HV)) (by simp) (Nat.le_trans hz3 (unhide HA).size) ?_; intro v5 w5 hot5 hb5 _ _; have HO5 := hide hot5; have HB5 := hide (((unhide HB3).trans ((unhide HA).mono hz3)).trans hb5); clear hot5 hb5)
          go_roundw
          case rel => exact ⟨k + 1, by omega, by go_num, by rw [unhide HX]; exact unhide HO5, unhide HB5⟩
          case measure => simp [intOf]; omega
        · obtain ⟨M, z, rfl⟩ : ∃ M z, L = M ++ [z] := ⟨L.dropLast, L.getLast hL, (List.dropLast_concat_getLast hL).symm⟩
          have hML : (M ++ [z]).length = M.length + 1 := by simp
          obtain ⟨g4, o4, rfl, hg4, hc4'⟩ := hs4 (by omega)
          have z1 := hc4' M.length z (by simp)
          have hst := same_text z N
          clear hc4' hg4 hL
          rw [List.getLast?_concat] at HSN2
          rw [hML] at HO3
          by_cases he : z = N
          · rw [decide_eq_true he] at hst
            have HX : Hid (namesT (t.take (k + 1)) d = M ++ [z]) := hide (by rw [unhide HSN2, he, if_pos rfl])
            clear he HSN2
            go_wp2_with fail
            go_roundw
            case rel => exact ⟨k + 1, by omega, by go_num, by rw [unhide HX]; exact unhide HO3, unhide HB3⟩
            case measure => simp [intOf]; omega
          · rw [decide_eq_false he] at hst
            have HX : Hid (namesT (t.take (k + 1)) d = M ++ [z] ++ [N]) := hide (by rw [unhide HSN2, if_neg (by simpa using he)])
            have HV := hide (VRow.new w3 9 [.string N])
            have HA := hide (below_alloc' (w := w3) (.cells #[.string N] 9))
            clear he HSN2
            go_wp2_with (at_builtin; refine append_txt (by rfl) _ _ (by rfl) w.heap.size _ (M ++ [z]) (by rfl) ((unhide HO3).after (unhide HA)) _ 1 1 [N] rfl (by rfl) (one_txt (unhide HV)) (by simp; omega) (Nat.le_trans hz3 (unhide HA).size) ?_; intro v5 w5 hot5 hb5 _ _; have HO5 := hide hot5; have HB5 := hide (((unhide HB3).trans ((unhide HA).mono hz3)).trans hb5); clear hot5 hb5)
            go_roundw
            case rel => exact ⟨k + 1, by omega, by go_num, by rw [unhide HX]; exact unhide HO5, unhide HB5⟩
            case measure => simp [intOf]; omega
    · obtain rfl : k = t.length := by omega
      rw [List.take_length] at HO
      clear hot
      obtain ⟨r, c, rfl, hc, hs, hfr⟩ := (unhide HO).sl
      have HS2 := hide hs
      have HFR := hide hfr
      clear hs hfr
      go_wp2_with fail
      go_ret
      exact ⟨r, c, rfl, hc, unhide HS2, unhide HFR, unhide HB⟩
end Go.Proofs.YtebjlmnhpfoglaaGreatDoor
