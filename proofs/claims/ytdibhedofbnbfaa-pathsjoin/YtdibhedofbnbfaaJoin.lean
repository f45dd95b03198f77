/-
  What Join answers, the program's and the document's: the path of some names, or that there is none.
-/
import Derived.Test.YtdibhedofbnbfaaParts
namespace Go.Proofs.Ytdibhedofbnbfaa
open Go.RowKit

/-- The path of some names, and that there is none. -/
inductive JoinAt (ps : List Pt.Bs) : ByteArray → Int → Prop
  | yes (J : ByteArray) (h : Pt.joins ps = true) (e : J.data.toList = Pt.joinP ps) : JoinAt ps J 0
  | no (h : Pt.joins ps = false) : JoinAt ps ⟨#[]⟩ 1

theorem join_ex (ps : List Pt.Bs) : ∃ J E, JoinAt ps J E := by
  cases h : Pt.joins ps with
  | true => exact ⟨ofList (Pt.joinP ps), 0, .yes _ h (by simp [ofList])⟩
  | false => exact ⟨_, _, .no h⟩

theorem JoinAt.bad {ps : List Pt.Bs} {J : ByteArray} {E : Int} (h : JoinAt ps J E) (hb : ¬ Pt.joins ps = true) : J = ⟨#[]⟩ ∧ E = 1 := by
  cases h with
  | yes _ h _ => exact absurd h hb
  | no _ => exact ⟨rfl, rfl⟩
theorem JoinAt.good {ps : List Pt.Bs} {J : ByteArray} {E : Int} (h : JoinAt ps J E) (hb : Pt.joins ps = true) : J.data.toList = Pt.joinP ps ∧ E = 0 := by
  cases h with
  | yes _ _ e => exact ⟨e, rfl⟩
  | no h => rw [hb] at h; cases h

theorem lib_join : ∀ ps : List Pt.Bs, Lib.join ps [47] = Pt.joinP ps
  | [] => rfl
  | [p] => by rw [Lib.join_one]; rfl
  | p :: q :: r => by
    have ih := lib_join (q :: r)
    rw [Lib.join_cons] at ih ⊢
    rw [Pt.joinP_two, ← ih]
    simp [Lib.joinTail]

theorem joins_lists (bs : List ByteArray) : Pt.joins (lists bs) = true ↔ 1 ≤ bs.length ∧ bs.length ≤ 4 ∧ ∀ (j : Nat) (x : ByteArray), bs[j]? = some x → Pt.isName x.data.toList = true := by
  rw [Pt.joins_iff, size_lists]
  constructor
  · rintro ⟨a, b, c⟩
    exact ⟨a, b, fun j x hx => c _ (List.mem_map_of_mem (List.mem_of_getElem? hx))⟩
  · rintro ⟨a, b, c⟩
    refine ⟨a, b, fun p hp => ?_⟩
    obtain ⟨x, hx, rfl⟩ := List.mem_map.1 hp
    obtain ⟨j, hj⟩ := List.mem_iff_getElem?.1 hx
    exact c j x hj

theorem join_short (ps : List Pt.Bs) (h : Pt.joins ps = true) : (Pt.joinP ps).length ≤ 100 := by
  obtain ⟨h1, h4, hn⟩ := (Pt.joins_iff ps).1 h
  have := Pt.joinP_length ps fun p hp => ((Pt.isName_iff p).1 (hn p hp)).2.1
  split at this <;> omega

set_option maxRecDepth 100000 in
set_option maxHeartbeats 1000000 in
theorem join_any (a : Option Addr) (cap : Nat) (bs : List ByteArray) (hb : bs.length ≤ 1000) (hcap : bs.length ≤ cap) (hsz : ∀ x ∈ bs, x.size ≤ 1000) (w : World) (hsl : Sl w a bs) (J : ByteArray) (E : Int) (hJ : JoinAt (lists bs) J E) :
    Calls Try.prog 18 #[.slice a bs.length cap] w fun e w' => e = .returned (.tuple #[.string J, .int .i64 E]) ∧ Below w.heap.size w w' := by
  have HJ := hide hJ
  have HI := hide (joins_lists bs)
  have HSL := hide hsl
  have HSZ := hide hsz
  clear hJ hsl hsz
  by_cases h0 : bs.length = 0
  · obtain ⟨rfl, rfl⟩ := (unhide HJ).bad fun h => by have := (unhide HI).1 h; omega
    obtain rfl : bs = [] := List.length_eq_zero_iff.1 h0
    clear h0
    go_enter Try.func18, Try.ntmps18
    go_wp2_with fail
    go_ret2
    exact ⟨rfl, Below.refl _ _⟩
  · by_cases h4 : 4 < bs.length
    · obtain ⟨rfl, rfl⟩ := (unhide HJ).bad fun h => by have := (unhide HI).1 h; omega
      have h0b : ((bs.length : Int) == 0) = false := by
        cases h : ((bs.length : Int) == 0) with
        | false => rfl
        | true => rw [beq_iff_eq] at h; omega
      clear h0
      go_enter Try.func18, Try.ntmps18
      go_wp2_with fail
      go_ret2
      exact ⟨rfl, Below.refl _ _⟩
    · obtain ⟨g, o, rfl, hg, hc⟩ := unhide HSL (by omega)
      have HCE := hide hc
      have h0b : ((bs.length : Int) == 0) = false := by
        cases h : ((bs.length : Int) == 0) with
        | false => rfl
        | true => rw [beq_iff_eq] at h; omega
      clear hc h0
      have h0 : 1 ≤ bs.length := by
        rcases Nat.eq_zero_or_pos bs.length with h | h
        · rw [h] at h0b; cases h0b
        · exact h
      go_enter Try.func18, Try.ntmps18
      go_wp2_with fail
      go_loopw [16] (fun i wr => ∃ k : Nat, k ≤ bs.length ∧ i = .int .i64 k ∧ (∀ (j : Nat) (x : ByteArray), j < k → bs[j]? = some x → Pt.isName x.data.toList = true) ∧ Below w.heap.size w wr) (fun i _ => bs.length - (intOf i).toNat)
      case atStart => exact ⟨0, Nat.zero_le _, rfl, fun j _ hj => absurd hj (Nat.not_lt_zero _), Below.refl _ _⟩
      case round =>
        obtain ⟨k, hk, rfl, hall, hbl⟩ := hrel
        have HALL := hide hall
        have HB := hide hbl
        clear hall hbl
        by_cases hlt : k < bs.length
        · obtain ⟨x, hx⟩ : ∃ x, bs[k]? = some x := ⟨_, List.getElem?_eq_getElem hlt⟩
          have c1 : wr.cell? ⟨g, o + k, none⟩ = some (.string x) := ((unhide HB).cell (p := ⟨g, o + k, none⟩) hg).trans (unhide HCE k x hx)
          have hxs := unhide HSZ x (List.mem_of_getElem? hx)
          have HX := hide hx
          have K1 := hide (name_any x (by omega))
          clear hx
          cases hn : Pt.isName x.data.toList with
          | false =>
            obtain ⟨rfl, rfl⟩ := (unhide HJ).bad fun h => by
              have := ((unhide HI).1 h).2.2 k x (unhide HX)
              rw [hn] at this
              cases this
            rw [hn] at K1
            clear hn
            go_wp2_with (go_at_call 11; refine (unhide K1 _).mono ?_; rintro e w2 ⟨rfl, hb2⟩; have HB2 := hide (below_grow (unhide HB) (Nat.le_refl _) hb2); clear hb2)
            go_ret2
            exact ⟨rfl, unhide HB2⟩
          | true =>
            have HALL2 : Hid (∀ (j : Nat) (y : ByteArray), j < k + 1 → bs[j]? = some y → Pt.isName y.data.toList = true) := by
              intro j y hj hy
              by_cases e : j = k
              · subst e
                rw [unhide HX] at hy
                cases hy
                exact hn
              · exact unhide HALL j y (by omega) hy
            rw [hn] at K1
            clear hn
            go_wp2_with (go_at_call 11; refine (unhide K1 _).mono ?_; rintro e w2 ⟨rfl, hb2⟩; have HB2 := hide (below_grow (unhide HB) (Nat.le_refl _) hb2); clear hb2)
            go_roundw
            case rel => exact ⟨k + 1, by omega, by go_num, unhide HALL2, unhide HB2⟩
            case measure => simp [intOf]; omega
        · obtain rfl : k = bs.length := by omega
          have hjn : Pt.joins (lists bs) = true := (unhide HI).2 ⟨h0, by omega, fun j x hx => unhide HALL j x (List.getElem?_eq_some_iff.1 hx).1 hx⟩
          obtain ⟨hJl, rfl⟩ := (unhide HJ).good hjn
          have hJe : (⟨(Lib.join (bs.map (·.data.toList)) (⟨#[47]⟩ : ByteArray).data.toList).toArray⟩ : ByteArray) = J := by
            apply data_inj
            rw [hJl]
            exact lib_join (lists bs)
          have K2 := Try.strings_Join g o cap bs ⟨#[47]⟩ wr (fun j x hx => ((unhide HB).cell (p := ⟨g, o + j, none⟩) hg).trans (unhide HCE j x hx)) (Nat.lt_of_lt_of_le hg (unhide HB).size) (by omega) hcap (by
            have e : Lib.join (bs.map (·.data.toList)) (⟨#[47]⟩ : ByteArray).data.toList = Pt.joinP (lists bs) := lib_join (lists bs)
            rw [e]
            have := join_short _ hjn
            omega)
          rw [hJe] at K2
          have HK2 := hide K2
          clear K2 hJe hJl hjn
          go_wp2_with (go_at_call 32; refine (unhide HK2).mono ?_; rintro e w2 ⟨rfl, hb2⟩; have HB2 := hide (below_grow (unhide HB) (Nat.le_refl _) hb2); clear hb2)
          go_ret2
          exact ⟨rfl, unhide HB2⟩

theorem joinP_take (bs : List ByteArray) (k : Nat) (x : ByteArray) (hx : bs[k]? = some x) (h0 : 0 < k) : Pt.joinP (lists (bs.take (k + 1))) = Pt.joinP (lists (bs.take k)) ++ 47 :: x.data.toList := by
  have hk : k < bs.length := (List.getElem?_eq_some_iff.1 hx).1
  have e : bs.take (k + 1) = bs.take k ++ [x] := by rw [List.take_add_one, hx]; rfl
  rw [e, lists_snoc]
  refine Pt.joinP_snoc _ _ fun h => ?_
  have := congrArg List.length h
  rw [size_lists, List.length_take] at this
  have h2 : min k bs.length = 0 := this
  omega
theorem joinP_first (bs : List ByteArray) (x : ByteArray) (hx : bs[0]? = some x) : Pt.joinP (lists (bs.take 1)) = x.data.toList := by
  have e : bs.take 1 = [x] := by rw [List.take_add_one, hx]; rfl
  rw [e]
  rfl

theorem nonempty_list (A : ByteArray) (h : A.data.toList ≠ []) : A.toList.isEmpty = false := by
  cases he : A.toList.isEmpty with
  | false => rfl
  | true => rw [Lib.toList_data, List.isEmpty_iff] at he; exact absurd he h

set_option maxRecDepth 100000 in
set_option maxHeartbeats 1000000 in
theorem refJoin_any (a : Option Addr) (cap : Nat) (bs : List ByteArray) (hb : bs.length ≤ 1000) (hsz : ∀ x ∈ bs, x.size ≤ 1000) (w : World) (hsl : Sl w a bs) (J : ByteArray) (E : Int) (hJ : JoinAt (lists bs) J E) :
    Calls Try.prog 19 #[.slice a bs.length cap] w fun e w' => e = .returned (.tuple #[.string J, .int .i64 E]) ∧ w' = w := by
  have HJ := hide hJ
  have HI := hide (joins_lists bs)
  have HSL := hide hsl
  have HSZ := hide hsz
  clear hJ hsl hsz
  go_enter Try.func19, Try.ntmps19
  go_wp2_with fail
  go_loopw [4, 5] (fun s i wr => ∃ (k : Nat) (A : ByteArray), k ≤ bs.length ∧ i = .int .i64 k ∧ s = .string A ∧ A.size ≤ 2000 * k ∧ A.data.toList = Pt.joinP (lists (bs.take k)) ∧ (∀ (j : Nat) (x : ByteArray), j < k → bs[j]? = some x → Pt.isName x.data.toList = true) ∧ (0 < k → bs.length ≤ 4) ∧ wr = w) (fun _ i _ => bs.length - (intOf i).toNat)
  case atStart => exact ⟨0, ⟨#[]⟩, Nat.zero_le _, rfl, rfl, Nat.le_refl _, rfl, fun j _ hj => absurd hj (Nat.not_lt_zero _), fun h => absurd h (Nat.not_lt_zero _), rfl⟩
  case round =>
    obtain ⟨k, A, hk, rfl, rfl, hAs, hA, hall, hk4, rfl⟩ := hrel
    have HA := hide hA
    have HALL := hide hall
    have HK4 := hide hk4
    clear hall hk4 hA
    by_cases hlt : k < bs.length
    · obtain ⟨x, hx⟩ : ∃ x, bs[k]? = some x := ⟨_, List.getElem?_eq_getElem hlt⟩
      obtain ⟨g, o, rfl, hg, hc⟩ := unhide HSL (by omega)
      have c1 : wr.cell? ⟨g, o + k, none⟩ = some (.string x) := hc k x hx
      have hxs := unhide HSZ x (List.mem_of_getElem? hx)
      have HX := hide hx
      have K1 := hide (refName_any x (by omega))
      clear hx hc
      cases hn : Pt.isName x.data.toList with
      | false =>
        obtain ⟨rfl, rfl⟩ := (unhide HJ).bad fun h => by
          have := ((unhide HI).1 h).2.2 k x (unhide HX)
          rw [hn] at this
          cases this
        rw [hn] at K1
        clear hn
        go_wp2_with (go_at_call 12; refine (unhide K1 _).mono ?_; rintro e w2 ⟨rfl, rfl⟩)
        go_ret2
        exact ⟨rfl, rfl⟩
      | true =>
        by_cases h4 : 4 < bs.length
        · obtain ⟨rfl, rfl⟩ := (unhide HJ).bad fun h => by have := (unhide HI).1 h; omega
          rw [hn] at K1
          clear hn
          go_wp2_with (go_at_call 12; refine (unhide K1 _).mono ?_; rintro e w2 ⟨rfl, rfl⟩)
          go_ret2
          exact ⟨rfl, rfl⟩
        · have HALL2 : Hid (∀ (j : Nat) (y : ByteArray), j < k + 1 → bs[j]? = some y → Pt.isName y.data.toList = true) := by
            intro j y hj hy
            by_cases e : j = k
            · subst e
              rw [unhide HX] at hy
              cases hy
              exact hn
            · exact unhide HALL j y (by omega) hy
          rw [hn] at K1
          clear hn
          by_cases hk0 : k = 0
          · subst hk0
            rw [Nat.add_zero] at c1
            have hA0 : A = ⟨#[]⟩ := data_inj _ _ (unhide HA)
            subst hA0
            have HN : Hid (((⟨#[]⟩ : ByteArray) ++ x).data.toList = Pt.joinP (lists (bs.take 1))) := hide (by rw [cat_data, joinP_first bs x (unhide HX)]; rfl)
            have hcat : ¬ ((⟨#[]⟩ : ByteArray).size + x.size > 9223372036854775807) := by have : (⟨#[]⟩ : ByteArray).size = 0 := rfl; omega
            have HSZ2 : Hid (((⟨#[]⟩ : ByteArray) ++ x).size ≤ 2000 * (0 + 1)) := hide (by rw [ByteArray.size_append]; have : (⟨#[]⟩ : ByteArray).size = 0 := rfl; omega)
            go_wp2_with (go_at_call 12; refine (unhide K1 _).mono ?_; rintro e w2 ⟨rfl, rfl⟩)
            go_roundw
            case rel => exact ⟨1, _, by omega, by go_num, rfl, unhide HSZ2, unhide HN, unhide HALL2, fun _ => by omega, by first | rfl | trivial⟩
            case measure => simp [intOf]; omega
          · have hkp : 0 < k := by omega
            have HN : Hid ((A ++ ⟨#[47]⟩ ++ x).data.toList = Pt.joinP (lists (bs.take (k + 1)))) := hide (by rw [cat_data, cat_data, joinP_take bs k x (unhide HX) hkp, unhide HA]; simp)
            have h1 : (⟨#[47]⟩ : ByteArray).size = 1 := rfl
            have hcat : ¬ (A.size + (⟨#[47]⟩ : ByteArray).size > 9223372036854775807) := by omega
            have hcat2 : ¬ ((A ++ ⟨#[47]⟩).size + x.size > 9223372036854775807) := by rw [ByteArray.size_append]; omega
            have HSZ2 : Hid ((A ++ ⟨#[47]⟩ ++ x).size ≤ 2000 * (k + 1)) := hide (by rw [ByteArray.size_append, ByteArray.size_append]; omega)
            clear h1
            go_wp2_with (go_at_call 12; refine (unhide K1 _).mono ?_; rintro e w2 ⟨rfl, rfl⟩)
            go_roundw
            case rel => exact ⟨k + 1, _, by omega, by go_num, rfl, unhide HSZ2, unhide HN, unhide HALL2, fun _ => by omega, by first | rfl | trivial⟩
            case measure => simp [intOf]; omega
    · obtain rfl : k = bs.length := by omega
      have hA := unhide HA
      rw [List.take_length] at hA
      by_cases h0 : bs.length = 0
      · obtain rfl : bs = [] := List.length_eq_zero_iff.1 h0
        obtain ⟨rfl, rfl⟩ := (unhide HJ).bad fun h => by have := (unhide HI).1 h; simp at this
        obtain rfl : A = ⟨#[]⟩ := data_inj _ _ hA
        clear h0 hA
        go_wp2_with fail
        go_ret2
        exact ⟨rfl, rfl⟩
      · have hjn : Pt.joins (lists bs) = true := (unhide HI).2 ⟨by omega, unhide HK4 (by omega), fun j x hx => unhide HALL j x (List.getElem?_eq_some_iff.1 hx).1 hx⟩
        obtain ⟨hJl, rfl⟩ := (unhide HJ).good hjn
        obtain rfl : A = J := data_inj _ _ (by rw [hA, hJl])
        obtain ⟨j1, j2, j3⟩ := (Pt.joins_iff _).1 hjn
        have hne := nonempty_list A (by rw [hA]; exact Pt.joinP_ne _ (fun h => by rw [h] at j1; simp at j1) j3)
        clear hJl hjn j1 j2 j3 hA h0
        go_wp2_with fail
        go_ret2
        exact ⟨rfl, rfl⟩
end Go.Proofs.Ytdibhedofbnbfaa
