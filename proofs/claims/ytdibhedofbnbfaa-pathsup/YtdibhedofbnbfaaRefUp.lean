/-
  What the document's Up, Last and Under answer.
-/
import Derived.Test.YtdibhedofbnbfaaUp
namespace Go.Proofs.Ytdibhedofbnbfaa
open Go.RowKit

theorem up_parts (s : Pt.Bs) : Pt.up s = Pt.joinP (Pt.parts s).dropLast := by
  unfold Pt.up Pt.parts
  split <;> rfl
theorem last_parts (s : Pt.Bs) : Pt.last s = (Pt.parts s).getLast?.getD [] := by
  unfold Pt.last Pt.parts
  split <;> rfl

theorem lists_take (bs : List ByteArray) (n : Nat) : lists (bs.take n) = (lists bs).take n := by simp [lists, List.map_take]

set_option maxRecDepth 100000 in
set_option maxHeartbeats 1000000 in
theorem refUp_any (s : ByteArray) (hs : s.size ≤ 1000) (U : ByteArray) (hU : U.data.toList = Pt.up s.data.toList) (w : World) :
    Calls Try.prog 21 #[.string s] w fun e w' => e = .returned (.string U) ∧ Below w.heap.size w w' := by
  have K1 := hide (refParts_any s hs)
  rw [up_parts] at hU
  have hP4 := Pt.parts_le s.data.toList
  have hPN := Pt.parts_names s.data.toList
  generalize Pt.parts s.data.toList = PS at *
  have HU := hide hU
  have HPN := hide hPN
  clear hU hPN
  go_enter Try.func21, Try.ntmps21
  go_wp2_with fail
  refine (unhide K1 _).mono ?_
  rintro e w1 ⟨a, cap, bs, rfl, hl, hcap, hsl, hb1⟩
  have hbl : bs.length = PS.length := by rw [← hl, size_lists]
  have hb4 : bs.length ≤ 4 := by omega
  have HL := hide hl
  have HSL := hide hsl
  have HB1 := hide hb1
  clear hl hsl hb1 hbl hP4
  by_cases h2 : bs.length < 2
  · have hU0 : U = ⟨#[]⟩ := by
      apply data_inj
      rw [unhide HU, ← unhide HL]
      have : (lists bs).dropLast = [] := by
        apply List.length_eq_zero_iff.1
        rw [List.length_dropLast, size_lists]
        omega
      rw [this]
      rfl
    subst hU0
    go_wp2_with fail
    go_ret
    exact ⟨rfl, unhide HB1⟩
  · obtain ⟨g, o, rfl, hg, hc⟩ := unhide HSL (by omega)
    obtain ⟨m, hm⟩ : ∃ m, bs.length = m + 1 := ⟨bs.length - 1, by omega⟩
    have htk : (bs.take m).length = m := by rw [List.length_take]; omega
    have hdl : (lists bs).dropLast = lists (bs.take m) := by
      rw [List.dropLast_eq_take, size_lists, hm, lists_take]
      rfl
    have hbm : ∀ x ∈ bs, Pt.isName x.data.toList = true := fun x hx => unhide HPN _ (by rw [← unhide HL]; exact List.mem_map_of_mem hx)
    have hJA : JoinAt (lists (bs.take m)) U 0 := by
      refine .yes U ((Pt.joins_iff _).2 ⟨?_, ?_, fun p hp => ?_⟩) ?_
      · rw [size_lists]; omega
      · rw [size_lists]; omega
      · obtain ⟨x, hx, rfl⟩ := List.mem_map.1 hp
        exact hbm x (List.mem_of_mem_take hx)
      · rw [unhide HU, ← unhide HL, hdl]
    have K2 := refJoin_any (some ⟨g, o, none⟩) cap (bs.take m) (by omega) (fun x hx => by
      have := ((Pt.isName_iff _).1 (hbm x (List.mem_of_mem_take hx))).2.1
      have e : x.data.toList.length = x.size := rfl
      omega) w1 ((unhide HSL).take m) U 0 hJA
    rw [htk] at K2
    have HK2 := hide K2
    rw [hm]
    rw [hm] at hcap h2 hb4
    clear K2 hJA hbm hdl htk hc hm
    go_wp2_with fail
    refine (unhide HK2).mono ?_
    rintro e w2 ⟨rfl, rfl⟩
    go_wp2_with fail
    go_ret
    exact ⟨rfl, unhide HB1⟩

set_option maxRecDepth 100000 in
set_option maxHeartbeats 1000000 in
theorem refLast_any (s : ByteArray) (hs : s.size ≤ 1000) (U : ByteArray) (hU : U.data.toList = Pt.last s.data.toList) (w : World) :
    Calls Try.prog 23 #[.string s] w fun e w' => e = .returned (.string U) ∧ Below w.heap.size w w' := by
  have K1 := hide (refParts_any s hs)
  rw [last_parts] at hU
  have hP4 := Pt.parts_le s.data.toList
  generalize Pt.parts s.data.toList = PS at *
  have HU := hide hU
  clear hU
  go_enter Try.func23, Try.ntmps23
  go_wp2_with fail
  refine (unhide K1 _).mono ?_
  rintro e w1 ⟨a, cap, bs, rfl, hl, hcap, hsl, hb1⟩
  have hbl : bs.length = PS.length := by rw [← hl, size_lists]
  have hb4 : bs.length ≤ 4 := by omega
  have HL := hide hl
  have HSL := hide hsl
  have HB1 := hide hb1
  clear hl hsl hb1 hbl hP4
  by_cases h0 : bs.length = 0
  · obtain rfl : bs = [] := List.length_eq_zero_iff.1 h0
    have hU0 : U = ⟨#[]⟩ := data_inj _ _ (by rw [unhide HU, ← unhide HL]; rfl)
    subst hU0
    clear h0
    go_wp2_with fail
    go_ret
    exact ⟨rfl, unhide HB1⟩
  · obtain ⟨g, o, rfl, hg, hc⟩ := unhide HSL (by omega)
    obtain ⟨m, hm⟩ : ∃ m, bs.length = m + 1 := ⟨bs.length - 1, by omega⟩
    have hx : bs[m]? = some U := by
      have h1 : m < bs.length := by omega
      rw [List.getElem?_eq_getElem h1]
      congr 1
      apply data_inj
      rw [unhide HU, ← unhide HL, List.getLast?_eq_getElem?, size_lists, hm]
      simp [lists, h1]
    have c1 : w1.cell? ⟨g, o + m, none⟩ = some (.string U) := hc m U hx
    rw [hm]
    rw [hm] at hcap hb4
    clear hx hc hm h0
    go_wp2_with fail
    go_ret
    exact ⟨rfl, unhide HB1⟩

theorem lists_at (bs : List ByteArray) (k : Nat) : (lists bs)[k]? = bs[k]?.map (·.data.toList) := by simp [lists]

set_option maxRecDepth 100000 in
set_option maxHeartbeats 1000000 in
theorem refUnder_any (s d : ByteArray) (hs : s.size ≤ 1000) (hd : d.size ≤ 1000) (w : World) :
    Calls Try.prog 25 #[.string s, .string d] w fun e w' => e = .returned (.bool (Pt.under s.data.toList d.data.toList)) ∧ Below w.heap.size w w' := by
  have K1 := hide (refParts_any s hs)
  have K2 := hide (refParts_any d hd)
  have HI := hide (Pt.under_names s.data.toList d.data.toList)
  have hP4 := Pt.parts_le s.data.toList
  have hQ4 := Pt.parts_le d.data.toList
  have HPP := hide (Pt.parts_pos s.data.toList)
  have HPQ := hide (Pt.parts_pos d.data.toList)
  have HE := hide (empty_iff d)
  generalize Pt.under s.data.toList d.data.toList = B at *
  generalize Pt.parts s.data.toList = PS at *
  generalize Pt.parts d.data.toList = PD at *
  have no : (¬ (B = true)) → B = false := fun h => by cases B with | false => rfl | true => exact absurd rfl h
  have NO := hide no
  clear no
  go_enter Try.func25, Try.ntmps25
  go_wp2_with fail
  refine (unhide K1 _).mono ?_
  rintro e w1 ⟨a1, c1, bs, rfl, hl1, _, hs1, hb1⟩
  go_wp2_with fail
  refine (unhide K2 _).mono ?_
  rintro e w2 ⟨a2, c2, cs, rfl, hl2, _, hs2, hb2⟩
  have hbl : PS.length = bs.length := by rw [← hl1, size_lists]
  have hcl : PD.length = cs.length := by rw [← hl2, size_lists]
  rw [hbl] at hP4
  rw [hcl] at hQ4
  have HL1 := hide hl1
  have HL2 := hide hl2
  have HS1 := hide (hs1.after hb2)
  have HS2 := hide hs2
  have HB2 := hide (below_grow hb1 (Nat.le_refl _) hb2)
  rw [hbl] at HPP HI
  rw [hcl] at HPQ HI
  clear hl1 hl2 hs1 hs2 hb1 hb2 hbl hcl K1 K2
  by_cases h0 : bs.length = 0
  · obtain rfl := unhide NO fun h => by have := ((unhide HI).1 h).2.2.1; omega
    obtain rfl : bs = [] := List.length_eq_zero_iff.1 h0
    clear h0
    go_wp2_with fail
    go_ret
    exact ⟨rfl, unhide HB2⟩
  · have h0b : ((bs.length : Int) == 0) = false := by
      cases h : ((bs.length : Int) == 0) with
      | false => rfl
      | true => rw [beq_iff_eq] at h; omega
    have hpath : Hid (Pt.isPath s.data.toList = true) := hide (by rw [← unhide HPP]; exact decide_eq_true (by omega))
    have h1 : 1 ≤ bs.length := by omega
    clear h0
    by_cases hdd : d.toList.isEmpty = false ∧ cs.length = 0
    · obtain ⟨hde, hcz⟩ := hdd
      obtain rfl := unhide NO fun h => by
        rcases ((unhide HI).1 h).2.1 with h | h
        · rw [(unhide HE).2 h] at hde; cases hde
        · rw [← unhide HPQ, decide_eq_true_eq] at h; omega
      obtain rfl : cs = [] := List.length_eq_zero_iff.1 hcz
      clear hcz
      go_wp2_with fail
      go_ret
      exact ⟨rfl, unhide HB2⟩
    · have hdir : Hid (d.data.toList = [] ∨ Pt.isPath d.data.toList = true) := by
        cases hde : d.toList.isEmpty with
        | true => exact .inl ((unhide HE).1 hde)
        | false => refine .inr ?_; rw [← unhide HPQ]; exact decide_eq_true (Nat.pos_of_ne_zero fun h => hdd ⟨hde, h⟩)
      by_cases hge : bs.length ≤ cs.length
      · obtain rfl := unhide NO fun h => by have := ((unhide HI).1 h).2.2.1; omega
        cases hde : d.toList.isEmpty with
        | true =>
          clear hdd
          go_wp2_with fail
          go_ret
          exact ⟨rfl, unhide HB2⟩
        | false =>
          have hcb : ((cs.length : Int) == 0) = false := by
            cases h : ((cs.length : Int) == 0) with
            | false => rfl
            | true => rw [beq_iff_eq] at h; omega
          clear hdd
          go_wp2_with fail
          go_ret
          exact ⟨rfl, unhide HB2⟩
      · have hcond : d.toList.isEmpty = true ∨ (d.toList.isEmpty = false ∧ ((cs.length : Int) == 0) = false) := by
          cases hde : d.toList.isEmpty with
          | true => exact .inl rfl
          | false =>
            refine .inr ⟨rfl, ?_⟩
            cases h : ((cs.length : Int) == 0) with
            | false => rfl
            | true => rw [beq_iff_eq] at h; exact absurd ⟨hde, by omega⟩ hdd
        clear hdd
        rcases hcond with hde | ⟨hde, hcb⟩
        all_goals
          go_wp2_with fail
          go_loopw [7] (fun i wr => ∃ k q : Nat, k ≤ cs.length ∧ i = .int .i64 k ∧ (∀ j : Nat, j < k → bs[j]? = cs[j]?) ∧ wr = w2.drewN q) (fun i _ => cs.length - (intOf i).toNat)
          case atStart => exact ⟨0, 0, Nat.zero_le _, rfl, fun j hj => absurd hj (Nat.not_lt_zero _), rfl⟩
          case round =>
            obtain ⟨k, q, hk, rfl, hall, rfl⟩ := hrel
            have HALL := hide hall
            clear hall
            by_cases hlt : k < cs.length
            · obtain ⟨x, hx⟩ : ∃ x, bs[k]? = some x := ⟨_, List.getElem?_eq_getElem (by omega)⟩
              obtain ⟨y, hy⟩ : ∃ y, cs[k]? = some y := ⟨_, List.getElem?_eq_getElem hlt⟩
              obtain ⟨g1, o1, rfl, _, hc1⟩ := unhide HS1 (by omega)
              obtain ⟨g2, o2, rfl, _, hc2⟩ := unhide HS2 (by omega)
              have e1 : w2.cell? ⟨g1, o1 + k, none⟩ = some (.string x) := hc1 k x hx
              have e2 : w2.cell? ⟨g2, o2 + k, none⟩ = some (.string y) := hc2 k y hy
              have ht := toList_eq x y
              by_cases hxy : x = y
              · have HALL2 : Hid (∀ j : Nat, j < k + 1 → bs[j]? = cs[j]?) := by
                  intro j hj
                  by_cases e : j = k
                  · subst e; rw [hx, hy, hxy]
                  · exact unhide HALL j (by omega)
                have ht' : (x.toList == y.toList) = true := by rw [ht]; exact decide_eq_true hxy
                clear ht hxy hc1 hc2 hx hy
                go_wp2_with fail
                go_quiet (fail)
                go_wp2_with fail
                go_roundw
                case rel => exact ⟨k + 1, _, by omega, by go_num, unhide HALL2, rfl⟩
                case measure => simp [intOf]; omega
              · obtain rfl := unhide NO fun h => by
                  have := ((unhide HI).1 h).2.2.2 k (by omega)
                  rw [← unhide HL1, ← unhide HL2, lists_at, lists_at, hx, hy] at this
                  exact hxy (data_inj _ _ (Option.some.inj this))
                have ht' : (x.toList == y.toList) = false := by rw [ht]; exact decide_eq_false hxy
                clear ht hxy hc1 hc2 hx hy
                go_wp2_with fail
                go_quiet (fail)
                go_wp2_with fail
                go_ret
                exact ⟨rfl, below_drewN (below_drewN (unhide HB2) _) _⟩
            · obtain rfl : B = true := (unhide HI).2 ⟨unhide hpath, unhide hdir, by omega, fun i hi => by
                rw [← unhide HL1, ← unhide HL2, lists_at, lists_at, unhide HALL i (by omega)]⟩
              go_wp2_with fail
              go_ret
              exact ⟨rfl, below_drewN (unhide HB2) _⟩
end Go.Proofs.Ytdibhedofbnbfaa
