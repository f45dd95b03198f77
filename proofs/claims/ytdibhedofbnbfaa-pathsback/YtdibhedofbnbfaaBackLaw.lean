/-
  The walk of the statement that names, joined, are the path, and a path that was joined has those names.
-/
import Derived.Test.YtdibhedofbnbfaaUp
import Derived.Test.YtdibhedofbnbfaaJoinLaw
namespace Go.Proofs.Ytdibhedofbnbfaa
open Go.RowKit

theorem join_back (bs : List ByteArray) (J : ByteArray) (E : Int) (h : JoinAt (lists bs) J E) :
    E = 1 ∨ (E = 0 ∧ J.size ≤ 1000 ∧ Pt.check J.data.toList = 0 ∧ Pt.parts J.data.toList = lists bs) := by
  cases h with
  | no _ => exact .inl rfl
  | yes _ h e =>
    obtain ⟨h1, h4, hn⟩ := (Pt.joins_iff _).1 h
    obtain ⟨hp, hq⟩ := Pt.join_path _ (fun h => by rw [h] at h1; simp at h1) h4 hn
    have hs := join_short _ h
    have e1 : J.data.toList.length = J.size := rfl
    rw [← e] at hp hq hs
    exact .inr ⟨rfl, by omega, (Pt.check_ok _).2 hq, by rw [Pt.parts_path _ hq, hp]⟩

theorem path_back (s : ByteArray) (hp : Pt.isPath s.data.toList = true) (cs : List ByteArray) (hl : lists cs = Pt.parts s.data.toList) :
    cs.length ≤ 4 ∧ (∀ x ∈ cs, x.size ≤ 1000) ∧ JoinAt (lists cs) s 0 := by
  have h4 := Pt.parts_le s.data.toList
  have hn := Pt.parts_names s.data.toList
  rw [← hl] at h4 hn
  rw [size_lists] at h4
  refine ⟨h4, fun x hx => ?_, .yes s ((Pt.joins_iff _).2 ⟨?_, by rw [size_lists]; exact h4, hn⟩) ?_⟩
  · have := ((Pt.isName_iff _).1 (hn x.data.toList (List.mem_map_of_mem hx))).2.1
    have e : x.data.toList.length = x.size := rfl
    omega
  · rw [hl, Pt.parts_path _ hp]; exact Pt.pieces_pos _
  · rw [hl, Pt.parts_path _ hp, Pt.join_pieces]

theorem up_back (s U V : ByteArray) (hp : Pt.isPath s.data.toList = true) (hU : U.data.toList = Pt.up s.data.toList) (hV : V.data.toList = Pt.last s.data.toList) :
    (if U.toList.isEmpty = true then U ++ V else U ++ ⟨#[47]⟩ ++ V) = s ∧ U.size ≤ 1000 ∧ V.size ≤ 1000 := by
  have h := Pt.up_last s.data.toList hp
  have hl := Pt.path_length s.data.toList hp
  rw [← hU, ← hV] at h
  have e1 : U.data.toList.length = U.size := rfl
  have e2 : V.data.toList.length = V.size := rfl
  have h3 := congrArg List.length h
  rw [List.length_append] at h3
  refine ⟨?_, ?_, by omega⟩
  · apply data_inj
    by_cases he : U.toList.isEmpty = true
    · have : U.data.toList = [] := by rw [Lib.toList_data, List.isEmpty_iff] at he; exact he
      rw [if_pos he, cat_data]
      rw [if_pos this] at h
      exact h
    · have : ¬ U.data.toList = [] := fun h => he (by rw [Lib.toList_data, List.isEmpty_iff]; exact h)
      rw [if_neg he, cat_data, cat_data]
      rw [if_neg this] at h
      exact h
  · by_cases he : U.data.toList = []
    · rw [he] at e1; simp at e1; omega
    · rw [if_neg he, List.length_append] at h3; omega

set_option maxRecDepth 100000 in
set_option maxHeartbeats 2000000 in
theorem backlaw_walk (s : ByteArray) (a : Option Addr) (cap : Nat) (bs : List ByteArray) (hb : bs.length ≤ maxLen) (hcap : bs.length ≤ cap) (w : World) (hsl : Sl w a bs) :
    Calls Try.prog 7 #[.string s, .slice a bs.length cap] w fun e w' => e = .returned (.bool true) ∧ Below w.heap.size w w' := by
  have HSL := hide hsl
  have HB := hide hb
  unfold maxLen at hb
  clear hsl
  by_cases h20 : 20 < bs.length
  · have HB1 := hide (Below.refl w.heap.size w)
    go_enter Try.func7, Try.ntmps7
    go_wp2_with fail
    refine (awake_any _).mono ?_
    rintro e w9 ⟨rfl, hb9⟩
    have HB9 := hide (below_grow (unhide HB1) (Nat.le_refl _) hb9)
    clear hb9
    go_wp2_with fail
    go_ret
    exact ⟨rfl, unhide HB9⟩
  · obtain ⟨L1, hL1⟩ : ∃ L, ([s].any fun x => decide (400 < x.size)) = L := ⟨_, rfl⟩
    obtain ⟨L2, hL2⟩ : ∃ L, (bs.any fun x => decide (400 < x.size)) = L := ⟨_, rfl⟩
    have HL1 := hide hL1
    have HL2 := hide hL2
    clear hL1 hL2
    go_enter Try.func7, Try.ntmps7
    go_wp2_with fail
    refine (long_row [s] 1 rfl (by decide) (by decide) _ w.heap.size 9 (VRow.new w 9 ([s].map Value.string)) L1 (unhide HL1)).mono ?_
    rintro e w1 ⟨rfl, rfl⟩
    have HB1 := hide ((Below.refl w.heap.size w).alloc (Nat.le_refl _) (.cells ([s].map Value.string).toArray 9))
    have HS1 := hide ((unhide HSL).after (unhide HB1))
    cases L1 with
    | true =>
      go_wp2_with fail
      refine (awake_any _).mono ?_
      rintro e w9 ⟨rfl, hb9⟩
      have HB9 := hide (below_grow (unhide HB1) (Nat.le_refl _) hb9)
      clear hb9
      go_wp2_with fail
      go_ret
      exact ⟨rfl, unhide HB9⟩
    | false =>
      have hss := small_all _ (unhide HL1) s (by simp)
      go_wp2_with fail
      refine (long_sl a cap bs (unhide HB) _ (unhide HS1) L2 (unhide HL2)).mono ?_
      rintro e w2 ⟨rfl, rfl⟩
      have HB2 := hide (unhide HB1)
      have HS2 := hide (unhide HS1)
      cases L2 with
      | true =>
        go_wp2_with fail
        refine (awake_any _).mono ?_
        rintro e w9 ⟨rfl, hb9⟩
        have HB9 := hide (below_grow (unhide HB1) (Nat.le_refl _) hb9)
        clear hb9
        go_wp2_with fail
        go_ret
        exact ⟨rfl, unhide HB9⟩
      | false =>
        have KC := hide (check_any s (by omega))
        by_cases h0 : Pt.check s.data.toList = 0
        · have hp := (Pt.check_ok _).1 h0
          obtain ⟨U, hU⟩ : ∃ U : ByteArray, U.data.toList = Pt.up s.data.toList := ⟨ofList (Pt.up s.data.toList), by simp [ofList]⟩
          obtain ⟨V, hV⟩ : ∃ U : ByteArray, U.data.toList = Pt.last s.data.toList := ⟨ofList (Pt.last s.data.toList), by simp [ofList]⟩
          have KP := hide (parts_any s (by omega))
          have KU := hide (up_any s (by omega) U hU)
          have KV := hide (last_any s (by omega) V hV)
          obtain ⟨hUV, hUs, hVs⟩ := up_back s U V hp hU hV
          have HPJ := hide (path_back s hp)
          rw [h0] at KC
          clear h0 hU hV
          go_wp2_with fail
          refine (unhide KC _).mono ?_
          rintro e w3 ⟨rfl, hb⟩
          have HB3 := hide (below_grow (unhide HB2) (Nat.le_refl _) hb)
          have HS3 := hide ((unhide HS2).after hb)
          clear hb
          go_wp2_with fail
          refine (unhide KP _).mono ?_
          rintro e w4 ⟨a4, c4, cs, rfl, hl4, hc4, hs4, hb4⟩
          have HB4 := hide (below_grow (unhide HB3) (Nat.le_refl _) hb4)
          have HS4 := hide ((unhide HS3).after hb4)
          obtain ⟨hcl, hcsz, hja⟩ := unhide HPJ cs hl4
          have KJ := hide (join_any a4 c4 cs (by omega) hc4 hcsz w4 hs4 s 0 hja)
          clear hl4 hs4 hb4 hcl hcsz hja hc4
          go_wp2_with fail
          refine (unhide KJ).mono ?_
          rintro e w5 ⟨rfl, hb⟩
          have HB5 := hide (below_grow (unhide HB4) (Nat.le_refl _) hb)
          have HS5 := hide ((unhide HS4).after hb)
          clear hb
          go_wp2_with fail
          refine (unhide KU _).mono ?_
          rintro e wu ⟨rfl, hb⟩
          have HBu := hide (below_grow (unhide HB5) (Nat.le_refl _) hb)
          have HSu := hide ((unhide HS5).after hb)
          clear hb
          go_wp2_with fail
          refine (unhide KV _).mono ?_
          rintro e wv ⟨rfl, hb⟩
          have HBv := hide (below_grow (unhide HBu) (Nat.le_refl _) hb)
          have HSv := hide ((unhide HSu).after hb)
          clear hb
          cases hue : U.toList.isEmpty with
          | true =>
            rw [hue, if_pos rfl] at hUV
            have hcat : ¬ (U.size + V.size > 9223372036854775807) := by omega
            have hsm := small_all _ (unhide HL2)
            obtain ⟨J, E, hJ⟩ := join_ex (lists bs)
            have K1 := hide (join_any a cap bs (by omega) hcap (fun x hx => by have := hsm x hx; omega) wv (unhide HSv) J E hJ)
            rcases join_back bs J E hJ with rfl | ⟨rfl, hJs, hJc, hJp⟩
            · clear hsm hJ
              go_wp2_with fail
              refine (unhide K1).mono ?_
              rintro e w6 ⟨rfl, hb6⟩
              have HB6 := hide (below_grow (unhide HBv) (Nat.le_refl _) hb6)
              clear hb6
              go_wp2_with fail
              refine (awake_any _).mono ?_
              rintro e w9 ⟨rfl, hb9⟩
              have HB9 := hide (below_grow (unhide HB6) (Nat.le_refl _) hb9)
              clear hb9
              go_wp2_with fail
              go_ret
              exact ⟨rfl, unhide HB9⟩
            · have K2 := hide (check_any J (by omega))
              have K3 := hide (parts_any J (by omega))
              rw [hJc] at K2
              rw [hJp] at K3
              clear hsm hJ hJc hJp
              go_wp2_with fail
              refine (unhide K1).mono ?_
              rintro e w6 ⟨rfl, hb6⟩
              have HB6 := hide (below_grow (unhide HBv) (Nat.le_refl _) hb6)
              have HS6 := hide ((unhide HSv).after hb6)
              clear hb6
              go_wp2_with fail
              refine (unhide K2 _).mono ?_
              rintro e w7 ⟨rfl, hb7⟩
              have HB7 := hide (below_grow (unhide HB6) (Nat.le_refl _) hb7)
              have HS7 := hide ((unhide HS6).after hb7)
              clear hb7
              go_wp2_with fail
              refine (unhide K3 _).mono ?_
              rintro e w8 ⟨a8, c8, cs, rfl, hl8, _, hs8, hb8⟩
              have HB8 := hide (below_grow (unhide HB7) (Nat.le_refl _) hb8)
              have HS8 := hide ((unhide HS7).after hb8)
              have HL8 := hide hl8
              have HT8 := hide hs8
              clear hb8 hl8 hs8
              go_wp2_with fail
              refine (same_any a8 a c8 cap cs bs (by have h := congrArg List.length (unhide HL8); rw [size_lists, size_lists] at h; omega) w8 (unhide HT8) (unhide HS8) true (by rw [unhide HL8]; exact ⟨fun _ => rfl, fun _ => rfl⟩)).mono ?_
              rintro e w10 ⟨rfl, n10, rfl⟩
              go_wp2_with fail
              refine (awake_any _).mono ?_
              rintro e w9 ⟨rfl, hb9⟩
              have HB9 := hide (below_grow (below_drewN (unhide HB8) _) (Nat.le_refl _) hb9)
              clear hb9
              go_wp2_with fail
              go_ret
              exact ⟨rfl, unhide HB9⟩
          | false =>
            rw [hue, if_neg (by decide)] at hUV
            have h1 : (⟨#[47]⟩ : ByteArray).size = 1 := rfl
            have hcat : ¬ (U.size + (⟨#[47]⟩ : ByteArray).size > 9223372036854775807) := by omega
            have hcat2 : ¬ ((U ++ ⟨#[47]⟩).size + V.size > 9223372036854775807) := by rw [ByteArray.size_append]; omega
            clear h1
            have hsm := small_all _ (unhide HL2)
            obtain ⟨J, E, hJ⟩ := join_ex (lists bs)
            have K1 := hide (join_any a cap bs (by omega) hcap (fun x hx => by have := hsm x hx; omega) wv (unhide HSv) J E hJ)
            rcases join_back bs J E hJ with rfl | ⟨rfl, hJs, hJc, hJp⟩
            · clear hsm hJ
              go_wp2_with fail
              refine (unhide K1).mono ?_
              rintro e w6 ⟨rfl, hb6⟩
              have HB6 := hide (below_grow (unhide HBv) (Nat.le_refl _) hb6)
              clear hb6
              go_wp2_with fail
              refine (awake_any _).mono ?_
              rintro e w9 ⟨rfl, hb9⟩
              have HB9 := hide (below_grow (unhide HB6) (Nat.le_refl _) hb9)
              clear hb9
              go_wp2_with fail
              go_ret
              exact ⟨rfl, unhide HB9⟩
            · have K2 := hide (check_any J (by omega))
              have K3 := hide (parts_any J (by omega))
              rw [hJc] at K2
              rw [hJp] at K3
              clear hsm hJ hJc hJp
              go_wp2_with fail
              refine (unhide K1).mono ?_
              rintro e w6 ⟨rfl, hb6⟩
              have HB6 := hide (below_grow (unhide HBv) (Nat.le_refl _) hb6)
              have HS6 := hide ((unhide HSv).after hb6)
              clear hb6
              go_wp2_with fail
              refine (unhide K2 _).mono ?_
              rintro e w7 ⟨rfl, hb7⟩
              have HB7 := hide (below_grow (unhide HB6) (Nat.le_refl _) hb7)
              have HS7 := hide ((unhide HS6).after hb7)
              clear hb7
              go_wp2_with fail
              refine (unhide K3 _).mono ?_
              rintro e w8 ⟨a8, c8, cs, rfl, hl8, _, hs8, hb8⟩
              have HB8 := hide (below_grow (unhide HB7) (Nat.le_refl _) hb8)
              have HS8 := hide ((unhide HS7).after hb8)
              have HL8 := hide hl8
              have HT8 := hide hs8
              clear hb8 hl8 hs8
              go_wp2_with fail
              refine (same_any a8 a c8 cap cs bs (by have h := congrArg List.length (unhide HL8); rw [size_lists, size_lists] at h; omega) w8 (unhide HT8) (unhide HS8) true (by rw [unhide HL8]; exact ⟨fun _ => rfl, fun _ => rfl⟩)).mono ?_
              rintro e w10 ⟨rfl, n10, rfl⟩
              go_wp2_with fail
              refine (awake_any _).mono ?_
              rintro e w9 ⟨rfl, hb9⟩
              have HB9 := hide (below_grow (below_drewN (unhide HB8) _) (Nat.le_refl _) hb9)
              clear hb9
              go_wp2_with fail
              go_ret
              exact ⟨rfl, unhide HB9⟩
        · have h0b : (Pt.check s.data.toList == 0) = false := by
            cases h : (Pt.check s.data.toList == 0) with
            | false => rfl
            | true => rw [beq_iff_eq] at h; exact absurd h h0
          generalize Pt.check s.data.toList = C at *
          clear h0
          go_wp2_with fail
          refine (unhide KC _).mono ?_
          rintro e w3 ⟨rfl, hb⟩
          have HB3 := hide (below_grow (unhide HB2) (Nat.le_refl _) hb)
          have HS3 := hide ((unhide HS2).after hb)
          clear hb
          have hsm := small_all _ (unhide HL2)
          obtain ⟨J, E, hJ⟩ := join_ex (lists bs)
          have K1 := hide (join_any a cap bs (by omega) hcap (fun x hx => by have := hsm x hx; omega) w3 (unhide HS3) J E hJ)
          rcases join_back bs J E hJ with rfl | ⟨rfl, hJs, hJc, hJp⟩
          · clear hsm hJ
            go_wp2_with fail
            refine (unhide K1).mono ?_
            rintro e w6 ⟨rfl, hb6⟩
            have HB6 := hide (below_grow (unhide HB3) (Nat.le_refl _) hb6)
            clear hb6
            go_wp2_with fail
            refine (awake_any _).mono ?_
            rintro e w9 ⟨rfl, hb9⟩
            have HB9 := hide (below_grow (unhide HB6) (Nat.le_refl _) hb9)
            clear hb9
            go_wp2_with fail
            go_ret
            exact ⟨rfl, unhide HB9⟩
          · have K2 := hide (check_any J (by omega))
            have K3 := hide (parts_any J (by omega))
            rw [hJc] at K2
            rw [hJp] at K3
            clear hsm hJ hJc hJp
            go_wp2_with fail
            refine (unhide K1).mono ?_
            rintro e w6 ⟨rfl, hb6⟩
            have HB6 := hide (below_grow (unhide HB3) (Nat.le_refl _) hb6)
            have HS6 := hide ((unhide HS3).after hb6)
            clear hb6
            go_wp2_with fail
            refine (unhide K2 _).mono ?_
            rintro e w7 ⟨rfl, hb7⟩
            have HB7 := hide (below_grow (unhide HB6) (Nat.le_refl _) hb7)
            have HS7 := hide ((unhide HS6).after hb7)
            clear hb7
            go_wp2_with fail
            refine (unhide K3 _).mono ?_
            rintro e w8 ⟨a8, c8, cs, rfl, hl8, _, hs8, hb8⟩
            have HB8 := hide (below_grow (unhide HB7) (Nat.le_refl _) hb8)
            have HS8 := hide ((unhide HS7).after hb8)
            have HL8 := hide hl8
            have HT8 := hide hs8
            clear hb8 hl8 hs8
            go_wp2_with fail
            refine (same_any a8 a c8 cap cs bs (by have h := congrArg List.length (unhide HL8); rw [size_lists, size_lists] at h; omega) w8 (unhide HT8) (unhide HS8) true (by rw [unhide HL8]; exact ⟨fun _ => rfl, fun _ => rfl⟩)).mono ?_
            rintro e w10 ⟨rfl, n10, rfl⟩
            go_wp2_with fail
            refine (awake_any _).mono ?_
            rintro e w9 ⟨rfl, hb9⟩
            have HB9 := hide (below_grow (below_drewN (unhide HB8) _) (Nat.le_refl _) hb9)
            clear hb9
            go_wp2_with fail
            go_ret
            exact ⟨rfl, unhide HB9⟩
end Go.Proofs.Ytdibhedofbnbfaa
