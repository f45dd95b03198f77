/-
  What the document's Check and Parts answer, and whether two lists of texts are the same.
-/
import Derived.Test.YtpfighkafmammaaB05
import Derived.Test.YtpfighkafmammaaB04
import Derived.Deep.RegionHeld3
import Derived.Shelf.Small.Strs
import Derived.Shelf.Small.Wraps
import Derived.Shelf.Strings.Search1
import Derived.Shelf.Strings.Search2
import Derived.Shelf.Strings.Prefix
import Derived.Ground.Names2Prog
import Derived.Shelf.Slices.Clone
import Derived.Test.YtpfighkafmammaaProg
import Derived.WalkKit
import Derived.WalkSpells
import Derived.WalkLawsBesides
import Derived.BigQuiet
import Derived.Outline
namespace Go.Proofs.Ytpfighkafmammaa.Pth
open Go.RowKit

theorem pieces_len : ∀ (l p : Pt.Bs), p ∈ Pt.pieces l → p.length ≤ l.length
  | [], p, h => by simp [Pt.pieces] at h; subst h; simp
  | b :: l, p, h => by
    obtain ⟨q, r, e⟩ := Pt.pieces_cons l
    unfold Pt.pieces at h
    split at h
    · rcases List.mem_cons.1 h with rfl | h
      · simp
      · have := pieces_len l p h; simp; omega
    · rw [e] at h
      rcases List.mem_cons.1 h with rfl | h
      · have := pieces_len l q (by rw [e]; exact List.mem_cons_self ..); simp; omega
      · have := pieces_len l p (by rw [e]; exact List.mem_cons_of_mem _ h); simp; omega

theorem piece_size (s : ByteArray) (bs : List ByteArray) (h : lists bs = Pt.pieces s.data.toList) : ∀ x ∈ bs, x.size ≤ s.size := by
  intro x hx
  have := pieces_len s.data.toList x.data.toList (by rw [← h]; exact List.mem_map_of_mem hx)
  exact this

theorem path_lists (s : ByteArray) (bs : List ByteArray) (h : lists bs = Pt.pieces s.data.toList) : Pt.isPath s.data.toList = true ↔ bs.length ≤ 4 ∧ ∀ x ∈ bs, Pt.isName x.data.toList = true := by
  rw [Pt.isPath_iff, ← h, size_lists]
  constructor
  · rintro ⟨a, b⟩; exact ⟨a, fun x hx => b _ (List.mem_map_of_mem hx)⟩
  · rintro ⟨a, b⟩
    refine ⟨a, fun p hp => ?_⟩
    obtain ⟨x, hx, rfl⟩ := List.mem_map.1 hp
    exact b x hx

theorem not_path (s : ByteArray) (h : ¬ Pt.isPath s.data.toList = true) (hs : ¬ 51 < s.size) : Pt.check s.data.toList = 1 := by
  have hsz : s.data.toList.length = s.size := rfl
  unfold Pt.check
  rw [hsz, if_neg hs, if_neg h]

set_option maxRecDepth 100000 in
set_option maxHeartbeats 1000000 in
theorem refCheck_any (s : ByteArray) (hs : s.size ≤ 1000) (w : World) :
    Calls Try.prog 48 #[.string s] w fun e w' => e = .returned (.int .i64 (Pt.check s.data.toList)) ∧ Below w.heap.size w w' := by
  have hsz : s.data.toList.length = s.size := rfl
  obtain ⟨C, hC⟩ : ∃ C, Pt.check s.data.toList = C := ⟨_, rfl⟩
  rw [hC]
  by_cases h51 : 51 < s.size
  · have hC2 : C = 2 := by rw [← hC]; unfold Pt.check; rw [hsz, if_pos h51]
    subst hC2
    clear hC hsz
    go_enter Try.func48, Try.ntmps48
    go_wp2_with fail
    go_ret
    exact ⟨rfl, Below.refl _ _⟩
  · have HP := hide (pieces_any s hs)
    have HN := hide (not_path s)
    have HO := hide (Pt.check_ok s.data.toList)
    have HC := hide hC
    clear hC hsz
    go_enter Try.func48, Try.ntmps48
    go_wp2_with fail
    refine (unhide HP _).mono ?_
    rintro e w1 ⟨g, cap, bs, rfl, hl, hf, hb⟩
    have hb1 : bs.length ≤ 100000 := few_pieces s bs hs hl
    have HL := hide hl
    have HF := hide hf
    have HB := hide hb
    clear hl hf hb HP
    go_wp2_with fail
    go_loopw [4] (fun i wr => ∃ k : Nat, k ≤ bs.length ∧ i = .int .i64 k ∧ (∀ (j : Nat) (x : ByteArray), j < k → bs[j]? = some x → Pt.isName x.data.toList = true) ∧ (0 < k → bs.length ≤ 4) ∧ wr = w1) (fun i _ => bs.length - (intOf i).toNat)
    case atStart => exact ⟨0, Nat.zero_le _, rfl, fun j _ hj => absurd hj (Nat.not_lt_zero _), fun h => absurd h (Nat.not_lt_zero _), rfl⟩
    case round =>
      obtain ⟨k, hk, rfl, hall, hk4, rfl⟩ := hrel
      have HALL := hide hall
      have HK4 := hide hk4
      clear hall hk4
      by_cases hlt : k < bs.length
      · obtain ⟨x, hx⟩ : ∃ x, bs[k]? = some x := ⟨_, List.getElem?_eq_getElem hlt⟩
        have c1 : wr.cell? ⟨g, k, none⟩ = some (.string x) := (unhide HF).cell k x hx
        have hxs := piece_size s bs (unhide HL) x (List.mem_of_getElem? hx)
        have HX := hide hx
        have K1 := hide (refName_any x (by omega))
        clear hx
        cases hn : Pt.isName x.data.toList with
        | false =>
          have hbad : C = 1 := by
            rw [← unhide HC]
            refine unhide HN (fun hp => ?_) h51
            have := ((path_lists s bs (unhide HL)).1 hp).2 x (List.mem_of_getElem? (unhide HX))
            rw [hn] at this
            cases this
          subst hbad
          rw [hn] at K1
          clear hn
          go_wp2_with (go_at_call 68; refine (unhide K1 _).mono ?_; rintro e w2 ⟨rfl, rfl⟩)
          go_ret
          exact ⟨rfl, unhide HB⟩
        | true =>
          by_cases h4 : 4 < bs.length
          · have hbad : C = 1 := by
              rw [← unhide HC]
              refine unhide HN (fun hp => ?_) h51
              have := ((path_lists s bs (unhide HL)).1 hp).1
              omega
            subst hbad
            rw [hn] at K1
            clear hn
            go_wp2_with (go_at_call 68; refine (unhide K1 _).mono ?_; rintro e w2 ⟨rfl, rfl⟩)
            go_ret
            exact ⟨rfl, unhide HB⟩
          · have HALL2 : Hid (∀ (j : Nat) (y : ByteArray), j < k + 1 → bs[j]? = some y → Pt.isName y.data.toList = true) := by
              intro j y hj hy
              by_cases e : j = k
              · subst e
                rw [unhide HX] at hy
                cases hy
                exact hn
              · exact unhide HALL j y (by omega) hy
            rw [hn] at K1
            clear hn
            go_wp2_with (go_at_call 68; refine (unhide K1 _).mono ?_; rintro e w2 ⟨rfl, rfl⟩)
            go_roundw
            case rel => exact ⟨k + 1, by omega, by go_num, unhide HALL2, fun _ => by omega, by first | rfl | trivial⟩
            case measure => simp [intOf]; omega
      · obtain rfl : k = bs.length := by omega
        have hpos : 0 < bs.length := by
          have h1 := congrArg List.length (unhide HL)
          rw [size_lists] at h1
          have := Pt.pieces_pos s.data.toList
          omega
        have hgood : C = 0 := by
          rw [← unhide HC, unhide HO, path_lists s bs (unhide HL)]
          refine ⟨unhide HK4 hpos, fun x hx => ?_⟩
          obtain ⟨j, hj⟩ := List.mem_iff_getElem?.1 hx
          exact unhide HALL j x (List.getElem?_eq_some_iff.1 hj).1 hj
        subst hgood
        go_wp2_with fail
        go_ret
        exact ⟨rfl, unhide HB⟩

/-- A slice of texts, wherever it lies; nothing is asked of one that has none. -/
def Sl (W : World) (a : Option Addr) (bs : List ByteArray) : Prop :=
  0 < bs.length → ∃ g o, a = some ⟨g, o, none⟩ ∧ g < W.heap.size ∧ ∀ (j : Nat) (b : ByteArray), bs[j]? = some b → W.cell? ⟨g, o + j, none⟩ = some (.string b)

theorem Sl.after {W W' : World} {a : Option Addr} {bs : List ByteArray} (h : Sl W a bs) (hb : Below W.heap.size W W') : Sl W' a bs := fun h0 => by
  obtain ⟨g, o, e, hg, hc⟩ := h h0
  exact ⟨g, o, e, Nat.lt_of_lt_of_le hg hb.size, fun j b hj => (hb.cell (p := ⟨g, o + j, none⟩) hg).trans (hc j b hj)⟩
theorem Sl.drewN {W : World} {a : Option Addr} {bs : List ByteArray} (h : Sl W a bs) (n : Nat) : Sl (W.drewN n) a bs := h
theorem Buf.sl {W : World} {base g cap : Nat} {bs : List ByteArray} (h : Buf W base g cap bs) : Sl W (some ⟨g, 0, none⟩) bs := fun _ => ⟨g, 0, rfl, h.lt, fun j b hj => by rw [Nat.zero_add]; exact h.cell j b hj⟩
theorem Sl.none (W : World) (a : Option Addr) : Sl W a [] := fun h => absurd h (Nat.lt_irrefl _)
theorem Sl.take {W : World} {a : Option Addr} {bs : List ByteArray} (h : Sl W a bs) (n : Nat) : Sl W a (bs.take n) := fun h0 => by
  obtain ⟨g, o, e, hg, hc⟩ := h (by rw [List.length_take] at h0; omega)
  refine ⟨g, o, e, hg, fun j b hj => hc j b ?_⟩
  have hl := (List.getElem?_eq_some_iff.1 hj).1
  rw [List.length_take] at hl
  rwa [List.getElem?_take_of_lt (by omega)] at hj

set_option maxRecDepth 100000 in
set_option maxHeartbeats 400000 in
theorem refParts_any (s : ByteArray) (hs : s.size ≤ 1000) (w : World) :
    Calls Try.prog 39 #[.string s] w fun e w' => ∃ a cap bs, e = .returned (.slice a bs.length cap) ∧ lists bs = Pt.parts s.data.toList ∧ bs.length ≤ cap ∧ Sl w' a bs ∧ Below w.heap.size w w' := by
  have K1 := hide (refCheck_any s hs)
  have K2 := hide (pieces_any s hs)
  have HO := hide (Pt.check_ok s.data.toList)
  have HPa := hide (Pt.parts_path s.data.toList)
  have HPn := hide (Pt.parts_none s.data.toList)
  by_cases h0 : Pt.check s.data.toList = 0
  · have HE := hide (unhide HPa ((unhide HO).1 h0))
    rw [h0] at K1
    clear h0
    go_enter Try.func39, Try.ntmps39
    go_wp2_with fail
    refine (unhide K1 _).mono ?_
    rintro e w1 ⟨rfl, hb1⟩
    have HB1 := hide hb1
    clear hb1
    go_wp2_with fail
    refine (unhide K2 _).mono ?_
    rintro e w2 ⟨g, cap, bs, rfl, hl, hf, hb2⟩
    have HL := hide hl
    have HF := hide hf
    have HB2 := hide (below_grow (unhide HB1) (Nat.le_refl _) hb2)
    clear hl hf hb2
    go_wp2_with fail
    go_ret
    exact ⟨_, _, bs, rfl, by rw [unhide HL, unhide HE], (unhide HF).fits, (unhide HF).sl, unhide HB2⟩
  · have hnp : Pt.isPath s.data.toList = false := by
      cases hp : Pt.isPath s.data.toList with
      | false => rfl
      | true => exact absurd ((unhide HO).2 hp) h0
    have HE := hide (unhide HPn hnp)
    have h0b : (Pt.check s.data.toList != 0) = true := bne_iff_ne.2 h0
    generalize Pt.check s.data.toList = C at *
    clear hnp h0
    go_enter Try.func39, Try.ntmps39
    go_wp2_with fail
    refine (unhide K1 _).mono ?_
    rintro e w1 ⟨rfl, hb1⟩
    have HB1 := hide hb1
    clear hb1
    go_wp2_with fail
    go_ret
    exact ⟨none, 0, [], rfl, (unhide HE).symm, Nat.le_refl _, Sl.none _ _, unhide HB1⟩
end Go.Proofs.Ytpfighkafmammaa.Pth

/-
  The document's Set: what it answers. Conditions: those that each theorem names.
-/

namespace Go.Proofs.Ytpfighkafmammaa
open Go.RowKit

theorem setS_snoc (p : ByteArray) (l : List Vc.V) (t : List En) (k : Nat) (x : En) (hx : t[k]? = some x) : setS p l (t.take (k + 1)) = setStep p l (setS p l (t.take k)) x := by
  unfold setS
  rw [List.take_add_one, hx]
  simp
theorem setS_len (p : ByteArray) (l : List Vc.V) : ∀ (t : List En), (setS p l t).1.length ≤ 2 * t.length := by
  have key : ∀ (t : List En) (st : List En × Bool), (t.foldl (setStep p l) st).1.length ≤ st.1.length + 2 * t.length := by
    intro t
    induction t with
    | nil => intro st; simp
    | cons x t ih =>
      intro st
      rw [List.foldl_cons]
      have h1 := ih (setStep p l st x)
      have h2 : (setStep p l st x).1.length ≤ st.1.length + 2 := by
        unfold setStep
        simp only [List.length_append]
        have h3 : (if st.2 = false ∧ cmpE p x.1 ≤ 0 then st.1 ++ [(p, l)] else st.1).length ≤ st.1.length + 1 := by split <;> simp
        have h4 : (if x.1 ≠ p then [x] else [] : List En).length ≤ 1 := by split <;> simp
        omega
      simp only [List.length_cons]
      omega
  intro t
  have := key t ([], decide (l.length = 0))
  unfold setS
  simpa using this
/-- What is put ahead of an entry, and the entry itself. -/
def setA (p : ByteArray) (l : List Vc.V) (st : List En × Bool) (x : En) : List En := if st.2 = false ∧ cmpE p x.1 ≤ 0 then st.1 ++ [(p, l)] else st.1

set_option maxRecDepth 100000 in
set_option maxHeartbeats 4000000 in
theorem refSetT_any (a : Option Addr) (cap : Nat) (t : List En) (ht : Eok t) (p : ByteArray) (hp : p.size ≤ 1000) (r : Option Addr) (c : Nat) (l : List Vc.V) (hf : Few l) (hc : l.length ≤ c) (w : World) (h : EL w a t) (hv : SV w r l) :
    Calls Try.prog 27 #[.slice a t.length cap, .string p, .slice r l.length c] w (MadeEE w (setT t p l)) := by
  have K1 := hide fun W => Pth.refCheck_any p hp W
  have K2 := hide fun W h => refCheckLeaf_any r c l hf W h
  have HC : Hid (Pth.Pt.check p.data.toList = pchkE p) := hide rfl
  rw [unhide HC] at K1
  clear HC
  have KC := hide fun q (hq : q.size ≤ 1000) W => Pth.refCompare_any p q hp hq W
  have HT := hide ht
  have HS := hide h
  have HV := hide hv
  have hl := ht.len
  obtain ⟨R, hR⟩ : ∃ R, setT t p l = R := ⟨_, rfl⟩
  rw [hR]
  unfold setT setE at hR
  have HR := hide hR
  clear h hv hR ht
  generalize hE1 : pchkE p = E1 at K1 HR
  generalize hE2 : Vc.checkLeaf l = E2 at K2 HR
  clear hE1 hE2
  by_cases h1 : E1 = 0
  · subst h1
    rw [if_neg (show ¬ ((0 : Int) ≠ 0) from fun h => h rfl)] at HR
    by_cases h2 : E2 = 0
    · subst h2
      rw [if_neg (show ¬ ((0 : Int) ≠ 0) from fun h => h rfl)] at HR
      go_enter Try.func27, Try.ntmps27
      go_wp2_with fail
      refine (unhide K1 _).mono ?_
      rintro e w1 ⟨rfl, hb⟩
      have HB1 := hide hb
      clear hb
      go_wp2_with fail
      refine (unhide K2 _ ((unhide HV).after (unhide HB1))).mono ?_
      rintro e w2 ⟨rfl, hb⟩
      have HB2 := hide (below_grow (unhide HB1) (Nat.le_refl _) hb)
      have hbw := (unhide HB2).size
      clear hb HB1
      have hb0 : (((l.length : Nat) : Int) == 0) = decide (l.length = 0) := by
        by_cases h : l.length = 0
        · simp [h]
        · rw [decide_eq_false h]; simpa using h
      go_wp2_with fail
      go_loopw [9, 10, 11] (fun o u i wr => ∃ (k : Nat), k ≤ t.length ∧ i = .int .i64 k ∧ u = .bool (setS p l (t.take k)).2 ∧ OE wr w.heap.size o (setS p l (t.take k)).1 ∧ Below w.heap.size w wr) (fun _ _ i _ => t.length - (intOf i).toNat)
      case atStart => exact ⟨0, Nat.zero_le _, rfl, by simp [setS], OE.nil _ _, unhide HB2⟩
      case round =>
        obtain ⟨k, hk, rfl, rfl, hoe, hb⟩ := hrel
        have HO := hide hoe
        have HB := hide hb
        have S := (unhide HS).after hb
        have hsz := hb.size
        have hsl := setS_len p l (t.take k)
        rw [List.length_take] at hsl
        by_cases hlt : k < t.length
        · obtain ⟨x, hx⟩ : ∃ d, t[k]? = some d := ⟨_, List.getElem?_eq_getElem hlt⟩
          obtain ⟨g0, o0, e0, hg0, hcell0⟩ := unhide HS (by omega)
          subst e0
          obtain ⟨q, d, y0, y1, h5, h6⟩ := hcell0 k x hx
          have HY0 := hide y0
          have HY1 := hide y1
          have H6 := hide h6
          have x0 := (hb.cell (p := ⟨g0, o0 + k * 2, none⟩) hg0).trans y0
          have x1 := (hb.cell (p := ⟨g0, o0 + k * 2 + 1, none⟩) hg0).trans y1
          have HG0 := hide hg0
          have HSN := hide (setS_snoc p l t k x hx)
          have hst := same_text x.1 p
          have hpx : x.1.size ≤ 1000 := (unhide HT).path x (List.mem_of_getElem? hx)
          generalize setS p l (t.take k) = ST at HO HSN hsl
          obtain ⟨L, U⟩ := ST
          dsimp only at HO hsl
          clear hcell0 hx hg0 h6 y0 y1 hoe hb S
          cases U with
          | true =>
            by_cases he : x.1 = p
            · rw [decide_eq_true he] at hst
              have HX : Hid (setS p l (t.take (k + 1)) = (L, true)) := hide (by rw [unhide HSN]; simp [setStep, he])
              clear he
              go_wp2_with fail
              go_roundw
              case rel => exact ⟨k + 1, by omega, by go_num, by rw [unhide HX], by rw [unhide HX]; exact unhide HO, unhide HB⟩
              case measure => simp [intOf]; omega
            · rw [decide_eq_false he] at hst
              have HX : Hid (setS p l (t.take (k + 1)) = (L ++ [x], true)) := hide (by rw [unhide HSN]; simp [setStep, he])
              clear he
              have HV9 := hide (VRow.new wr 44 [.string x.1, .slice q x.2.length d])
              have HA9 := hide (below_alloc' (w := wr) (.cells #[.string x.1, .slice q x.2.length d] 44))
              have HF9 := hide (((unhide H6)).off (row := _) (fun g e => ((unhide HO).lt g e).1) (below_grow (unhide HB) (Nat.le_refl _) (unhide HA9)))
              go_wp2_with (first
                | (refine load_ent (by rfl) _ (by rfl) g0 (o0 + k * 2) (by rfl) x q d (ent_range x0 x1) ?_)
                | (at_builtin; refine append_ent (by rfl) _ _ (by rfl) w.heap.size _ L (by rfl) ((unhide HO).after (unhide HA9)) wr.heap.size x q d (by rfl) (ent_row (unhide HV9)) h5 (unhide HF9).1 (unhide HF9).2 (by omega) (Nat.le_trans hsz (unhide HA9).size) ?_; intro v9 w9 hoe9 hb9 _; have HO9 := hide hoe9; have HB9 := hide (((unhide HB).trans ((unhide HA9).mono hsz)).trans hb9); clear hoe9 hb9))
              go_roundw
              case rel => exact ⟨k + 1, by omega, by go_num, by rw [unhide HX], by rw [unhide HX]; exact unhide HO9, unhide HB9⟩
              case measure => simp [intOf]; omega
          | false =>
            go_wp2_with fail
            refine (unhide KC x.1 hpx _).mono ?_
            rintro e w3 ⟨rfl, hb⟩
            have HB3 := hide (below_grow (unhide HB) (Nat.le_refl _) hb)
            have HO3 := hide ((unhide HO).after hb)
            have hz3 := (unhide HB3).size
            have x0 := ((unhide HB3).cell (p := ⟨g0, o0 + k * 2, none⟩) (unhide HG0)).trans (unhide HY0)
            have x1 := ((unhide HB3).cell (p := ⟨g0, o0 + k * 2 + 1, none⟩) (unhide HG0)).trans (unhide HY1)
            clear hb HB HO
            have HC : Hid (Pth.Pt.cmpT p.data.toList x.1.data.toList = cmpE p x.1) := hide rfl
            have HCE : Hid (cmpE p x.1 = 0 ↔ p = x.1) := hide cmpE_eq
            rw [unhide HC]
            clear HC
            have HSN2 : Hid (∀ C, cmpE p x.1 = C → setS p l (t.take (k + 1)) = ((if C ≤ 0 then L ++ [(p, l)] else L) ++ (if x.1 ≠ p then [x] else []), decide (C ≤ 0))) := hide (fun C h => by rw [unhide HSN, ← h]; simp [setStep])
            obtain ⟨C, hC⟩ : ∃ C, cmpE p x.1 = C := ⟨_, rfl⟩
            have HX := hide (unhide HSN2 C hC)
            rw [hC] at HCE ⊢
            clear hC HSN2 HSN
            by_cases hle : C ≤ 0
            · have hcl : decide (C ≤ 0) = true := decide_eq_true hle
              rw [hcl, if_pos hle] at HX
              have HV4 := hide (VRow.new w3 44 [.string p, .slice r l.length c])
              have HA4 := hide (below_alloc' (w := w3) (.cells #[.string p, .slice r l.length c] 44))
              have HF4 := hide ((unhide HV).off (row := _) (fun g e => ((unhide HO3).lt g e).1) (below_grow (unhide HB3) (Nat.le_refl _) (unhide HA4)))
              by_cases he : x.1 = p
              · rw [decide_eq_true he] at hst
                rw [if_neg (fun h => h he), List.append_nil] at HX
                clear he x0 x1 HCE hle
                go_wp2_with (first
                  | (at_builtin; refine append_ent (by rfl) _ _ (by rfl) w.heap.size _ (L) (by rfl) ((unhide HO3).after (unhide HA4)) w3.heap.size (p, l) r c (by rfl) (ent_row (unhide HV4)) hc (unhide HF4).1 (unhide HF4).2 (by omega) (Nat.le_trans hz3 (unhide HA4).size) ?_; intro v4 w4 hoe4 hb4 _; have HO4 := hide hoe4; have HB4 := hide (((unhide HB3).trans ((unhide HA4).mono hz3)).trans hb4); clear hoe4 hb4; have x0 := ((unhide HB4).cell (p := ⟨g0, o0 + k * 2, none⟩) (unhide HG0)).trans (unhide HY0)))
                go_roundw
                case rel => exact ⟨k + 1, by omega, by go_num, by rw [unhide HX], by rw [unhide HX]; exact unhide HO4, unhide HB4⟩
                case measure => simp [intOf]; omega
              · rw [decide_eq_false he] at hst
                rw [if_pos he] at HX
                clear he x0 x1 HCE hle
                go_wp2_with (first
                  | (refine load_ent (by rfl) _ (by rfl) g0 (o0 + k * 2) (by rfl) x q d (ent_range x0 x1) ?_)
                  | (at_builtin; refine append_ent (by rfl) _ _ (by rfl) w.heap.size _ (L) (by rfl) ((unhide HO3).after (unhide HA4)) w3.heap.size (p, l) r c (by rfl) (ent_row (unhide HV4)) hc (unhide HF4).1 (unhide HF4).2 (by omega) (Nat.le_trans hz3 (unhide HA4).size) ?_; intro v4 w4 hoe4 hb4 _; have HO4 := hide hoe4; have HB4 := hide (((unhide HB3).trans ((unhide HA4).mono hz3)).trans hb4); clear hoe4 hb4; have x0 := ((unhide HB4).cell (p := ⟨g0, o0 + k * 2, none⟩) (unhide HG0)).trans (unhide HY0); have x1 := ((unhide HB4).cell (p := ⟨g0, o0 + k * 2 + 1, none⟩) (unhide HG0)).trans (unhide HY1); have hz4 := (unhide HB4).size; have HV5 := hide (VRow.new w4 44 [.string x.1, .slice q x.2.length d]); have HA5 := hide (below_alloc' (w := w4) (.cells #[.string x.1, .slice q x.2.length d] 44)); have HF5 := hide ((unhide H6).off (row := _) (fun g e => ((unhide HO4).lt g e).1) (below_grow (unhide HB4) (Nat.le_refl _) (unhide HA5))))
                  | (at_builtin; refine append_ent (by rfl) _ _ (by rfl) w.heap.size _ (L ++ [(p, l)]) (by rfl) ((unhide HO4).after (unhide HA5)) w4.heap.size x q d (by rfl) (ent_row (unhide HV5)) h5 (unhide HF5).1 (unhide HF5).2 (by simp; omega) (Nat.le_trans hz4 (unhide HA5).size) ?_; intro v5 w5 hoe5 hb5 _; have HO5 := hide hoe5; have HB5 := hide (((unhide HB4).trans ((unhide HA5).mono hz4)).trans hb5); clear hoe5 hb5))
                go_roundw
                case rel => exact ⟨k + 1, by omega, by go_num, by rw [unhide HX], by rw [unhide HX]; exact unhide HO5, unhide HB5⟩
                case measure => simp [intOf]; omega
            · have hcl : decide (C ≤ 0) = false := decide_eq_false hle
              have he : ¬ x.1 = p := fun h => hle (by have := (unhide HCE).2 h.symm; omega)
              rw [hcl, if_neg hle, if_pos he] at HX
              rw [decide_eq_false he] at hst
              clear he HCE hle
              have HV5 := hide (VRow.new w3 44 [.string x.1, .slice q x.2.length d])
              have HA5 := hide (below_alloc' (w := w3) (.cells #[.string x.1, .slice q x.2.length d] 44))
              have HF5 := hide ((unhide H6).off (row := _) (fun g e => ((unhide HO3).lt g e).1) (below_grow (unhide HB3) (Nat.le_refl _) (unhide HA5)))
              go_wp2_with (first
                | (refine load_ent (by rfl) _ (by rfl) g0 (o0 + k * 2) (by rfl) x q d (ent_range x0 x1) ?_)
                | (at_builtin; refine append_ent (by rfl) _ _ (by rfl) w.heap.size _ (L) (by rfl) ((unhide HO3).after (unhide HA5)) w3.heap.size x q d (by rfl) (ent_row (unhide HV5)) h5 (unhide HF5).1 (unhide HF5).2 (by omega) (Nat.le_trans hz3 (unhide HA5).size) ?_; intro v5 w5 hoe5 hb5 _; have HO5 := hide hoe5; have HB5 := hide (((unhide HB3).trans ((unhide HA5).mono hz3)).trans hb5); clear hoe5 hb5))
              go_roundw
              case rel => exact ⟨k + 1, by omega, by go_num, by rw [unhide HX], by rw [unhide HX]; exact unhide HO5, unhide HB5⟩
              case measure => simp [intOf]; omega
        · obtain rfl : k = t.length := by omega
          have HPT : Hid (putT p l t = (setS p l t).1 ++ (if (setS p l t).2 = false then [(p, l)] else [])) := hide rfl
          rw [List.take_length] at HO hsl ⊢
          generalize setS p l t = ST at HO HPT hsl ⊢
          obtain ⟨L, U⟩ := ST
          dsimp only at HO HPT hsl ⊢
          clear hoe hb S hlt
          cases U with
          | true =>
            rw [if_neg (by simp), List.append_nil] at HPT
            rw [unhide HPT] at HR
            obtain ⟨a9, c9, rfl, hc9, hel9⟩ := (unhide HO).el
            have HE := hide hel9
            clear hel9 HO
            by_cases hbig : 128 < L.length
            · have hd : decide ((128 : Int) < ((L.length : Nat) : Int)) = true := decide_eq_true (by omega)
              rw [if_pos hbig] at HR
              go_wp2_with fail
              go_ret2
              rw [← unhide HR]
              exact ⟨none, 0, rfl, by simp, EL.none _ _, unhide HB⟩
            · have hd : decide ((128 : Int) < ((L.length : Nat) : Int)) = false := decide_eq_false (by omega)
              rw [if_neg hbig] at HR
              go_wp2_with fail
              go_ret2
              rw [← unhide HR]
              exact ⟨a9, c9, rfl, hc9, unhide HE, unhide HB⟩
          | false =>
            rw [if_pos rfl] at HPT
            rw [unhide HPT] at HR
            have HV4 := hide (VRow.new wr 44 [.string p, .slice r l.length c])
            have HA4 := hide (below_alloc' (w := wr) (.cells #[.string p, .slice r l.length c] 44))
            have HF4 := hide ((unhide HV).off (row := _) (fun g e => ((unhide HO).lt g e).1) (below_grow (unhide HB) (Nat.le_refl _) (unhide HA4)))
            by_cases hbig : 128 < (L ++ [(p, l)]).length
            · have hd : decide ((128 : Int) < ((L.length : Nat) : Int) + 1) = true := decide_eq_true (by simp at hbig; omega)
              rw [if_pos hbig] at HR
              go_wp2_with (first
                | (at_builtin; refine append_ent (by rfl) _ _ (by rfl) w.heap.size _ (L) (by rfl) ((unhide HO).after (unhide HA4)) wr.heap.size (p, l) r c (by rfl) (ent_row (unhide HV4)) hc (unhide HF4).1 (unhide HF4).2 (by omega) (Nat.le_trans hsz (unhide HA4).size) ?_; intro v4 w4 hoe4 hb4 _; have HO4 := hide hoe4; have HB4 := hide (((unhide HB).trans ((unhide HA4).mono hsz)).trans hb4); clear hoe4 hb4; obtain ⟨a9, c9, rfl, hc9, hel9⟩ := (unhide HO4).el; have HE := hide hel9; clear hel9 HO4))
              go_ret2
              rw [← unhide HR]
              exact ⟨none, 0, rfl, by simp, EL.none _ _, unhide HB4⟩
            · have hd : decide ((128 : Int) < ((L.length : Nat) : Int) + 1) = false := decide_eq_false (by simp at hbig; omega)
              rw [if_neg hbig] at HR
              go_wp2_with (first
                | (at_builtin; refine append_ent (by rfl) _ _ (by rfl) w.heap.size _ (L) (by rfl) ((unhide HO).after (unhide HA4)) wr.heap.size (p, l) r c (by rfl) (ent_row (unhide HV4)) hc (unhide HF4).1 (unhide HF4).2 (by omega) (Nat.le_trans hsz (unhide HA4).size) ?_; intro v4 w4 hoe4 hb4 _; have HO4 := hide hoe4; have HB4 := hide (((unhide HB).trans ((unhide HA4).mono hsz)).trans hb4); clear hoe4 hb4; obtain ⟨a9, c9, rfl, hc9, hel9⟩ := (unhide HO4).el; have HE := hide hel9; clear hel9 HO4))
              go_ret2
              rw [← unhide HR]
              exact ⟨a9, c9, by show _ = Ending.returned (.tuple #[.slice a9 (L ++ [(p, l)]).length c9, .int .i64 0]); rw [show (L ++ [(p, l)]).length = L.length + 1 by simp]; rfl, hc9, unhide HE, unhide HB4⟩
    · rw [if_pos h2] at HR
      have hb1 : (E2 == 0) = false := by simpa using h2
      have hb2 : (E2 != 0) = true := bne_iff_ne.2 h2
      go_enter Try.func27, Try.ntmps27
      go_wp2_with fail
      refine (unhide K1 _).mono ?_
      rintro e w1 ⟨rfl, hb⟩
      have HB1 := hide hb
      clear hb
      go_wp2_with fail
      refine (unhide K2 _ ((unhide HV).after (unhide HB1))).mono ?_
      rintro e w2 ⟨rfl, hb⟩
      have HB2 := hide (below_grow (unhide HB1) (Nat.le_refl _) hb)
      clear hb HB1
      go_wp2_with fail
      go_ret2
      rw [← unhide HR]
      exact ⟨none, 0, rfl, by simp, EL.none _ _, unhide HB2⟩
  · rw [if_pos h1, if_pos h1] at HR
    have hb1 : (E1 == 0) = false := by simpa using h1
    have hb2 : (E1 != 0) = true := bne_iff_ne.2 h1
    go_enter Try.func27, Try.ntmps27
    go_wp2_with fail
    refine (unhide K1 _).mono ?_
    rintro e w1 ⟨rfl, hb⟩
    have HB1 := hide hb
    clear hb
    go_wp2_with fail
    go_ret2
    rw [← unhide HR]
    exact ⟨none, 0, rfl, by simp, EL.none _ _, unhide HB1⟩
end Go.Proofs.Ytpfighkafmammaa

/-
  What is seen of a tree, and the tree of entries: the document's. Conditions: those that each theorem names.
-/

namespace Go.Proofs.Ytpfighkafmammaa
open Go.RowKit

theorem leaf_fewT {l : List Vc.V} (h : Vc.checkLeaf l = 0) : Few l ∧ l.length ≤ 64 := by
  have h1 := (Vc.checkLeaf_zero l).1 h
  have h2 := h1.len
  refine ⟨⟨by omega, fun v hv => ?_⟩, h2⟩
  have key : ∀ (l : List Vc.V) (p : Int), Vc.VUp p l → ∀ v ∈ l, v.past.length ≤ 64 := by
    intro l
    induction l with
    | nil => intro _ _ v hv; cases hv
    | cons a l ih =>
      intro p hu v hv
      rcases List.mem_cons.1 hv with rfl | hv
      · exact Vc.vec_len hu.1.past
      · exact ih _ hu.2.2 v hv
  have := key l _ h1.up v hv
  omega
theorem Tr.eok {t : List En} (h : Tr t) : Eok t where
  len := by have := h.few; omega
  path := fun x hx => by
    have h1 := Pth.Pt.path_length _ (h.path x hx)
    rw [size_data] at h1
    omega
  few := fun x hx => (leaf_fewT (h.leaf x hx).2).1
  data := fun x hx v hv => by
    have key : ∀ (l : List Vc.V) (p : Int), Vc.VUp p l → ∀ v ∈ l, v.data.size ≤ 48 := by
      intro l
      induction l with
      | nil => intro _ _ v hv; cases hv
      | cons a l ih =>
        intro p hu v hv
        rcases List.mem_cons.1 hv with rfl | hv
        · exact hu.1.data
        · exact ih _ hu.2.2 v hv
    have := key x.2 _ ((Vc.checkLeaf_zero _).1 (h.leaf x hx).2).up v hv
    omega
theorem shown_len (t : List En) : (shownT t).length ≤ t.length := List.length_filterMap_le _ _

/-! A drawn region with one call: two cells that are loaded stay. -/
theorem keepE {W0 w w' : World} {g i j : Nat} {x y : Value} (hg : g < W0.heap.size) (h : w.cell? ⟨g, i, none⟩ = some x ∧ w.cell? ⟨g, j, none⟩ = some y ∧ Below W0.heap.size W0 w) (hb : Below w.heap.size w w') :
    w'.cell? ⟨g, i, none⟩ = some x ∧ w'.cell? ⟨g, j, none⟩ = some y ∧ Below W0.heap.size W0 w' :=
  have hlt : g < w.heap.size := Nat.lt_of_lt_of_le hg h.2.2.size
  ⟨(hb.cell (p := ⟨g, i, none⟩) hlt).trans h.1, (hb.cell (p := ⟨g, j, none⟩) hlt).trans h.2.1, below_grow h.2.2 (Nat.le_refl _) hb⟩
theorem drewE {W0 : World} {g i j : Nat} {x y : Value} (h0 : W0.cell? ⟨g, i, none⟩ = some x) (h1 : W0.cell? ⟨g, j, none⟩ = some y) :
    W0.drew.cell? ⟨g, i, none⟩ = some x ∧ W0.drew.cell? ⟨g, j, none⟩ = some y ∧ Below W0.heap.size W0 W0.drew := ⟨h0, h1, below_drew (Below.refl _ _)⟩
set_option maxRecDepth 100000 in
set_option maxHeartbeats 4000000 in
theorem refOf_any (a : Option Addr) (cap : Nat) (l : List En) (ht : Eok l) (w : World) (h : EL w a l) :
    Calls Try.prog 10 #[.slice a l.length cap] w (MadeEE w (ofT l)) := by
  have HT := hide ht
  have HS := hide h
  have hl := ht.len
  clear h ht
  go_enter Try.func10, Try.ntmps10
  go_wp2_with fail
  go_loopw [4, 5] (fun o i wr => ∃ (k : Nat), k ≤ l.length ∧ i = .int .i64 k ∧ (ofT (l.take k)).2 = 0 ∧ (∃ r c, o = .slice r (ofT (l.take k)).1.length c ∧ (ofT (l.take k)).1.length ≤ c ∧ EL wr r (ofT (l.take k)).1) ∧ Below w.heap.size w wr) (fun _ i _ => l.length - (intOf i).toNat)
  case atStart => exact ⟨0, Nat.zero_le _, rfl, rfl, ⟨none, 0, rfl, by simp [ofT], EL.none _ _⟩, Below.refl _ _⟩
  case round =>
    obtain ⟨k, hk, rfl, hz, ⟨r, c, rfl, hc, hel⟩, hb⟩ := hrel
    have HE := hide hel
    have HB := hide hb
    by_cases hlt : k < l.length
    · obtain ⟨x, hx⟩ : ∃ d, l[k]? = some d := ⟨_, List.getElem?_eq_getElem hlt⟩
      obtain ⟨g0, o0, e0, hg0, hcell0⟩ := unhide HS (by omega)
      subst e0
      obtain ⟨q, d, y0, y1, h5, h6⟩ := hcell0 k x hx
      have x0 := (hb.cell (p := ⟨g0, o0 + k * 2, none⟩) hg0).trans y0
      have x1 := (hb.cell (p := ⟨g0, o0 + k * 2 + 1, none⟩) hg0).trans y1
      have HG : Hid (g0 < wr.heap.size) := hide (Nat.lt_of_lt_of_le hg0 hb.size)
      have H6 := hide (h6.after hb)
      have HTR := (ofT_tr (l.take k)).eok
      have HSN : Hid (ofT (l.take (k + 1)) = setT (ofT (l.take k)).1 x.1 x.2) := hide (by rw [ofT_snoc l k x hx]; unfold ofStep; rw [if_neg (by simpa using hz)])
      have HEA := hide (fun (hne : (ofT (l.take (k + 1))).2 ≠ 0) => ofT_early l (k + 1) hne)
      have hf := (unhide HT).few x (List.mem_of_getElem? hx)
      have hpx := (unhide HT).path x (List.mem_of_getElem? hx)
      generalize (ofT (l.take k)).1 = T at HE HTR HSN hc
      have KS := hide (fun W (h1 : EL W r T) (h2 : SV W q x.2) => refSetT_any r c T HTR x.1 hpx q d x.2 hf h5 W h1 h2)
      rw [← unhide HSN] at KS
      obtain ⟨R, hRR⟩ : ∃ R, ofT (l.take (k + 1)) = R := ⟨_, rfl⟩
      rw [hRR] at KS HEA HSN
      have HRR := hide hRR
      clear hRR
      clear hcell0 hx hg0 y0 y1 hb h6 hel hz
      go_wp2_with fail
      go_region_held3 (fun w' => w'.cell? ⟨g0, o0 + k * 2, none⟩ = some (.string x.1) ∧ w'.cell? ⟨g0, o0 + k * 2 + 1, none⟩ = some (.slice q x.2.length d) ∧ Below wr.heap.size wr w')
        (first | exact keepE (unhide HG) (by assumption) (by assumption) | exact drewE x0 x1)
        (first
          | (go_at_call 27; refine (unhide KS _ ((unhide HE).after (And.right (And.right (by assumption)))) ((unhide H6).after (And.right (And.right (by assumption))))).mono ?_; rintro e w4 ⟨r4, c4, rfl, hc4, hel4, hb4⟩))
      rename_i hHeld
      have HB4 := hide (below_grow (unhide HB) (Nat.le_refl _) hHeld.2.2)
      have HE4 := hide hel4
      have HBAD := hide (fun (hne : R.2 ≠ 0) => show R.1 = [] by have := setT_bad (t := T) (p := x.1) (l := x.2); rw [← unhide HSN] at this; exact this hne)
      clear hHeld hel4 hb4 KS HSN x0 x1
      obtain ⟨RL, RE⟩ := R
      dsimp only at HB4 HE4 HBAD HEA hc4 ⊢
      by_cases hR : RE = 0
      · subst hR
        go_wp2_with fail
        go_roundw
        case rel => exact ⟨k + 1, by omega, by go_num, by rw [unhide HRR], ⟨r4, c4, by rw [unhide HRR], by rw [unhide HRR]; exact hc4, by rw [unhide HRR]; exact unhide HE4⟩, unhide HB4⟩
        case measure => simp [intOf]; omega
      · have hne : (RE != 0) = true := bne_iff_ne.2 hR
        have HO := unhide HEA hR
        have HN := unhide HBAD hR
        subst HN
        go_wp2_with fail
        go_ret2
        exact ⟨none, 0, rfl, by simp, EL.none _ _, unhide HB4⟩
    · obtain rfl : k = l.length := by omega
      rw [List.take_length] at HE hc hz ⊢
      have HZ := hide hz
      clear hel hz
      go_wp2_with fail
      go_ret2
      refine ⟨r, c, ?_, hc, unhide HE, unhide HB⟩
      rw [unhide HZ]
      rfl
end Go.Proofs.Ytpfighkafmammaa

/-
  A leaf copied, entries copied: what copyLeaf and Entries make. Conditions: those that each theorem names.
-/

namespace Go.Proofs.Ytpfighkafmammaa
open Go.RowKit

theorem grownBy_set (W : World) (g k : Nat) (v : Value) : W.grownBy (W.setCell ⟨g, k, none⟩ v) (some g) :=
  ⟨rfl, rfl, rfl, by simp, fun j _ hj => heap_setCell_other W ⟨g, k, none⟩ j v (fun e => hj (by rw [e]))⟩
theorem flatV_set (v : Vc.V) (r : Option Addr) (c : Nat) : ∀ (ps : List VP) (i : Nat) (x : VP), ps[i]? = some x → x.1 = v → (flatV ps).set (i * 5 + 2) (.slice r v.past.length c) = flatV (ps.set i (v, r, c))
  | [], i, x, h, _ => by simp at h
  | y :: l, 0, x, h, e => by
    simp at h
    subst h
    subst e
    rfl
  | y :: l, i + 1, x, h, e => by
    have ih := flatV_set v r c l i x (by simpa using h) e
    rw [List.set_cons_succ]
    show (verL y.1 y.2.1 y.2.2 ++ flatV l).set ((i + 1) * 5 + 2) _ = verL y.1 y.2.1 y.2.2 ++ flatV (l.set i (v, r, c))
    rw [← ih, show (i + 1) * 5 + 2 = i * 5 + 2 + 1 + 1 + 1 + 1 + 1 by omega]
    rfl
theorem flatE_set (v : En) (r : Option Addr) (c : Nat) : ∀ (ps : List EP) (i : Nat) (x : EP), ps[i]? = some x → x.1 = v → (flatE ps).set (i * 2 + 1) (.slice r v.2.length c) = flatE (ps.set i (v, r, c))
  | [], i, x, h, _ => by simp at h
  | y :: l, 0, x, h, e => by
    simp at h
    subst h
    subst e
    rfl
  | y :: l, i + 1, x, h, e => by
    have ih := flatE_set v r c l i x (by simpa using h) e
    rw [List.set_cons_succ]
    show (entL y.1 y.2.1 y.2.2 ++ flatE l).set ((i + 1) * 2 + 1) _ = entL y.1 y.2.1 y.2.2 ++ flatE (l.set i (v, r, c))
    rw [← ih, show (i + 1) * 2 + 1 = i * 2 + 1 + 1 + 1 by omega]
    rfl
theorem map_set_same {α β : Type} {f : α → β} {l : List α} {i : Nat} {x y : α} (h : l[i]? = some x) (e : f y = f x) : (l.set i y).map f = l.map f := by
  rw [List.map_set, e]
  apply List.ext_getElem?
  intro j
  rw [List.getElem?_set]
  split
  · rename_i hj
    subst hj
    rw [List.getElem?_map, h]
    have := (List.getElem?_eq_some_iff.1 h).1
    simp [this]
  · rfl
theorem OV.setPast {O : Nat → Prop} {W : World} {base g cap n : Nat} {vs : List Vc.V} {i : Nat} {v : Vc.V} {r : Option Addr} {c : Nat} (h : OV O W base (.slice (some ⟨g, 0, none⟩) n cap) vs) (hn : vs.length = n) (hv : vs[i]? = some v) (hc : v.past.length ≤ c) (hs : Sl W r v.past) (ha : Apart O (some g) r v.past) :
    OV O (W.setCell ⟨g, i * 5 + 2, none⟩ (.slice r v.past.length c)) base (.slice (some ⟨g, 0, none⟩) n cap) vs ∧ W.frozen? ⟨g, i * 5 + 2, none⟩ = false ∧ (∃ old, W.cell? ⟨g, i * 5 + 2, none⟩ = some old) ∧ base ≤ g := by
  obtain ⟨ps, h1, h2, h3⟩ := h.is
  have hpl : ps.length = n := by rw [← hn, ← h1, List.length_map]
  have hil : i < ps.length := by rw [hpl, ← hn]; exact (List.getElem?_eq_some_iff.1 hv).1
  obtain ⟨x, hx⟩ : ∃ x, ps[i]? = some x := ⟨_, List.getElem?_eq_getElem hil⟩
  have hxv : x.1 = v := by
    rw [← h1, List.getElem?_map, hx] at hv
    injection hv
  rw [hpl] at h2
  obtain ⟨k1, k2, k3, k4, _⟩ := ownsRow_set (u := .slice r v.past.length c) (k := i * 5 + 2) h2 (by rw [flatV_len]; omega)
  rw [flatV_set v r c ps i x hx hxv] at k1
  have keep : ∀ {q : Option Addr} {ds : List Vc.D}, Sl W q ds → Apart O (some g) q ds → Sl (W.setCell ⟨g, i * 5 + 2, none⟩ (.slice r v.past.length c)) q ds := fun hq hap =>
    hq.onlyNe (only_set W g (i * 5 + 2) _) (fun ad e h0 e2 => (hap ad e h0).1 (by rw [e2]))
  refine ⟨⟨ps.set i (v, r, c), ?_, ?_, fun y hy => ?_⟩, k2, k3, k4⟩
  · rw [map_set_same hx hxv.symm, h1]
  · rw [List.length_set, hpl]
    exact k1
  · rcases List.mem_or_eq_of_mem_set hy with hy | rfl
    · exact ⟨(h3 y hy).1, keep (h3 y hy).2.1 (h3 y hy).2.2, (h3 y hy).2.2⟩
    · exact ⟨hc, keep hs ha, ha⟩
theorem OE.setLeaf {W : World} {base g cap n : Nat} {es : List En} {i : Nat} {x : En} {r : Option Addr} {c : Nat} (h : OE W base (.slice (some ⟨g, 0, none⟩) n cap) es) (hn : es.length = n) (hv : es[i]? = some x) (hc : x.2.length ≤ c) (hs : SV W r x.2) (ha : Prov (Off (some g)) W r x.2) :
    OE (W.setCell ⟨g, i * 2 + 1, none⟩ (.slice r x.2.length c)) base (.slice (some ⟨g, 0, none⟩) n cap) es ∧ W.frozen? ⟨g, i * 2 + 1, none⟩ = false ∧ (∃ old, W.cell? ⟨g, i * 2 + 1, none⟩ = some old) ∧ base ≤ g := by
  obtain ⟨ps, h1, h2, h3⟩ := h.is
  have hpl : ps.length = n := by rw [← hn, ← h1, List.length_map]
  have hil : i < ps.length := by rw [hpl, ← hn]; exact (List.getElem?_eq_some_iff.1 hv).1
  obtain ⟨y, hy⟩ : ∃ y, ps[i]? = some y := ⟨_, List.getElem?_eq_getElem hil⟩
  have hxv : y.1 = x := by
    rw [← h1, List.getElem?_map, hy] at hv
    injection hv
  rw [hpl] at h2
  obtain ⟨k1, k2, k3, k4, _⟩ := ownsRow_set (u := .slice r x.2.length c) (k := i * 2 + 1) h2 (by rw [flatE_len]; omega)
  rw [flatE_set x r c ps i y hy hxv] at k1
  have hg := grownBy_set W g (i * 2 + 1) (.slice r x.2.length c)
  refine ⟨⟨ps.set i (x, r, c), ?_, ?_, fun z hz => ?_⟩, k2, k3, k4⟩
  · rw [map_set_same hy hxv.symm, h1]
  · rw [List.length_set, hpl]
    exact k1
  · rcases List.mem_or_eq_of_mem_set hz with hz | rfl
    · exact ⟨(h3 z hz).1, sv_grown (h3 z hz).2.1 (h3 z hz).2.2 hg, prov_grown (h3 z hz).2.1 (h3 z hz).2.2 hg (fun _ _ h => h)⟩
    · exact ⟨hc, sv_grown hs ha hg, prov_grown hs ha hg (fun _ _ h => h)⟩

set_option maxRecDepth 100000 in
set_option maxHeartbeats 400000 in
theorem cloneV_any (O : Nat → Prop) (a : Option Addr) (cap : Nat) (vs : List Vc.V) (hl : vs.length ≤ 100000) (w : World) (h : SV w a vs) (hp : Prov O w a vs) : Calls Try.prog 66 #[.slice a vs.length cap] w (Left O w vs) := by
  have HS := hide h
  have HP := hide hp
  have HL := hide hl
  have q25 : ∀ (w : World) (a : Option Addr) (n c n' c' : Nat), (binOp .eql 42 (.slice a n c) (.slice none n' c')).run Try.prog w = .ok (.bool a.isNone) w := fun w a n c n' c' => Lib.run_eql_slice_nil w _ _ a n c n' c' Try.underlying42
  clear h hl hp
  cases a with
  | none =>
    have hxs : vs = [] := by
      cases vs with
      | nil => rfl
      | cons d l => obtain ⟨g, o, e, _⟩ := unhide HS (by simp); cases e
    subst hxs
    go_enter Try.func66, Try.ntmps66
    go_wp2_with fail
    go_ret
    exact ⟨_, rfl, OV.nil _ _ _, Below.refl _ _⟩
  | some ad =>
    have HB := hide (below_alloc' (w := w) (.cells #[] 61))
    have HO := hide (OV.lit O w)
    have HV := hide ((unhide HS).apart (unhide HP) (row := some w.heap.size) (fun g e => by injection e with e; omega) (unhide HB))
    go_enter Try.func66, Try.ntmps66
    go_wp2_with (at_builtin; refine append_sv (by rfl) _ _ (by rfl) w.heap.size _ [] (by rfl) (unhide HO) _ _ vs (by rfl) (unhide HV) (by have := unhide HL; simp; omega) (by simp) ?_; intro v' w2 hown' hb2 _ _; have HB2 := hide ((unhide HB).trans hb2); have HO2 := hide hown'; clear hb2 hown')
    rw [List.nil_append] at HO2
    go_wp2_with fail
    go_ret
    exact ⟨_, rfl, unhide HO2, unhide HB2⟩
/-- 'copyLeaf': the same versions in new memory. -/
def CopyMade (O : Nat → Prop) (w : World) (vs : List Vc.V) (e : Ending) (w' : World) : Prop := MadeV O w vs e w'

set_option maxRecDepth 100000 in
set_option maxHeartbeats 1000000 in
theorem copy_any (O : Nat → Prop) (a : Option Addr) (cap : Nat) (vs : List Vc.V) (hl : vs.length ≤ 100000) (hpl : ∀ v ∈ vs, v.past.length ≤ 100000) (w : World) (hO : ∀ g, w.heap.size ≤ g → O g) (h : SV w a vs) (hp : Prov O w a vs) :
    Calls Try.prog 47 #[.slice a vs.length cap] w (MadeV O w vs) := by
  have HOO := hide hO
  have HPL := hide hpl
  have K := hide (cloneV_any O a cap vs hl w h hp)
  clear h hp hO hpl
  go_enter Try.func47, Try.ntmps47
  go_wp2_with fail
  refine (unhide K).mono ?_
  rintro e w1 ⟨l, rfl, hov, hb1⟩
  have HOV := hide hov
  have HB1 := hide hb1
  obtain ⟨r, c, rfl, hc, hsv0, hpv0⟩ := hov.sv
  clear hb1 hov hsv0 hpv0
  obtain ⟨n, hn⟩ : ∃ n, vs.length = n := ⟨_, rfl⟩
  have HN := hide hn
  rw [hn] at hl hc HOV ⊢
  clear K hn
  go_wp2_with fail
  go_loopw [10] (fun i wr => ∃ k : Nat, k ≤ n ∧ i = .int .i64 k ∧ OV O wr w.heap.size (.slice r n c) vs ∧ Below w.heap.size w wr) (fun i _ => n - (intOf i).toNat)
  case atStart => exact ⟨0, Nat.zero_le _, rfl, unhide HOV, unhide HB1⟩
  case round =>
    obtain ⟨k, hk, rfl, hov, hbw⟩ := hrel
    have HO := hide hov
    have HBW := hide hbw
    by_cases hlt : k < n
    · obtain ⟨v, hv⟩ : ∃ v, vs[k]? = some v := ⟨_, List.getElem?_eq_getElem (by rw [unhide HN]; exact hlt)⟩
      obtain ⟨a', c', e', hc', hsv, hpv⟩ := hov.sv
      simp only [Value.slice.injEq] at e'
      obtain ⟨rfl, hnn, rfl⟩ := e'
      clear hnn
      obtain ⟨g, o, e2, hg, hcell⟩ := hsv (by rw [unhide HN]; omega)
      have ho0 : o = 0 := by
        obtain ⟨ps, _, h2, _⟩ := hov.is
        rcases h2.2 with ⟨e3, _⟩ | ⟨g', cap', cur, e3, _⟩
        · rw [e2] at e3; cases e3
        · rw [e2] at e3
          simp only [Value.slice.injEq, Option.some.injEq, Addr.mk.injEq, and_true] at e3
          exact e3.1.2
      subst e2
      obtain ⟨q, d, x0, x1, x2, x3, x4, h5, h6⟩ := hcell k v hv
      have HH0 := hide ho0
      have HV := hide hv
      have H6 := hide h6
      have HG := hide hg
      have HPV := hide (unhide HPL v (List.mem_of_getElem? hv))
      clear hcell hsv hpv hov hbw hv h5 h6 hg ho0 hc'
      go_wp2_with (refine store_row (by rfl) 61 _ _ (by rfl) wr.heap.size (verL v q d) (by rfl) (by rfl) 61 zero61 (VRow.newAt rfl) 5 size61 rfl rfl (verL_one _ _ _) ?_; intro wz ho hr; have HZ := hide ((below_alloc' (w := wr) (.cells zero61.toArray 61)).trans (ho.below (Nat.le_refl _))); have RZ := hide hr; clear ho hr x0 x1 x2 x3 x4; have z2 := (unhide RZ).cell 2 _ rfl)
      refine (cloneD_any q d v.past (unhide HPV) wz ((unhide H6).after (unhide HZ))).mono ?_
      rintro e wc ⟨r3, c3, rfl, hc3, hs3, hb3, hf3⟩
      have HS3 := hide hs3
      have HF3 := hide hf3
      have HC3 := hide hc3
      have HZC := hide (below_grow (unhide HZ) (Nat.le_refl _) hb3)
      have HOC := hide ((unhide HO).after (unhide HZC))
      have HSZ3 := hide hb3.size
      clear hs3 hf3 hc3 hb3 z2
      have ho0 := unhide HH0
      subst ho0
      obtain ⟨k1, k2, ⟨old, k3⟩, k4⟩ := (unhide HOC).setPast (i := k) (v := v) (r := r3) (c := c3) (unhide HN) (unhide HV) (unhide HC3) (unhide HS3) (fun ad e h0 => by
        have h1 := unhide HF3 ad e h0
        have h2 := (unhide HZ).size
        have h3 := unhide HG
        have h4 := (unhide HBW).size
        exact ⟨fun e2 => by injection e2 with e2; omega, unhide HOO _ (by omega)⟩)
      have HK1 := hide k1
      have HK4 := hide k4
      have f2 : wc.frozen? ⟨g, 0 + k * 5 + 2, none⟩ = false := by rw [Nat.zero_add]; exact k2
      have y2 : wc.cell? ⟨g, 0 + k * 5 + 2, none⟩ = some old := by rw [Nat.zero_add]; exact k3
      have e0 : 0 + k * 5 + 2 = k * 5 + 2 := by omega
      clear k1 k4
      go_wp2_with fail
      go_roundw
      case rel => exact ⟨k + 1, by omega, by go_num, unhide HK1, (below_set (below_grow (unhide HBW) (Nat.le_refl _) (unhide HZC)) (unhide HK4) (k * 5 + 2) _)⟩
      case measure => simp [intOf]; omega
    · obtain rfl : k = n := by omega
      obtain ⟨a', c', e', hc', hsv, hpv⟩ := hov.sv
      simp only [Value.slice.injEq] at e'
      obtain ⟨rfl, hnn, rfl⟩ := e'
      have HSV := hide hsv
      have HPV := hide hpv
      clear hnn hsv hpv hov hbw hc'
      go_wp2_with fail
      go_ret
      rw [← unhide HN] at hc ⊢
      exact ⟨_, _, rfl, hc, unhide HSV, unhide HPV (unhide HOO), unhide HBW⟩
end Go.Proofs.Ytpfighkafmammaa

/-
  Entries copied: what Entries and Len answer; what a Tree is in memory. Conditions: those that each theorem names.
-/

namespace Go.Proofs.Ytpfighkafmammaa
open Go.RowKit

/-- A tree in memory: a nil pointer has nothing. -/
def TrAt (W : World) (p : Option Addr) (t : List En) : Prop := (p = none ∧ t = []) ∨ ∃ g a c, p = some ⟨g, 0, none⟩ ∧ g < W.heap.size ∧ W.cell? ⟨g, 0, none⟩ = some (.slice a t.length c) ∧ t.length ≤ c ∧ EL W a t
theorem TrAt.after {W W' : World} {p : Option Addr} {t : List En} (h : TrAt W p t) (hb : Below W.heap.size W W') : TrAt W' p t := by
  rcases h with h | ⟨g, a, c, h1, h2, h3, h4, h5⟩
  · exact .inl h
  · exact .inr ⟨g, a, c, h1, Nat.lt_of_lt_of_le h2 hb.size, (hb.cell (p := ⟨g, 0, none⟩) h2).trans h3, h4, h5.after hb⟩
theorem TrAt.nil (W : World) : TrAt W none [] := .inl ⟨rfl, rfl⟩

set_option maxRecDepth 100000 in
set_option maxHeartbeats 400000 in
theorem all_any (p : Option Addr) (t : List En) (w : World) (h : TrAt w p t) :
    Calls Try.prog 43 #[.pointer p] w fun e w' => ∃ a c, e = .returned (.slice a t.length c) ∧ t.length ≤ c ∧ EL w' a t ∧ w' = w := by
  rcases h with ⟨rfl, rfl⟩ | ⟨g, a, c, rfl, h2, h3, h4, h5⟩
  · go_enter Try.func43, Try.ntmps43
    go_wp2_with fail
    go_ret
    exact ⟨none, 0, rfl, Nat.le_refl _, EL.none _ _, rfl⟩
  · have HC := hide h4
    have HE := hide h5
    obtain ⟨n, hn⟩ : ∃ n, t.length = n := ⟨_, rfl⟩
    rw [hn] at h3 HC ⊢
    clear h4 h5 hn
    go_enter Try.func43, Try.ntmps43
    go_wp2_with fail
    go_ret
    exact ⟨a, c, rfl, unhide HC, unhide HE, rfl⟩

set_option maxRecDepth 100000 in
set_option maxHeartbeats 400000 in
theorem cloneE_any (a : Option Addr) (cap : Nat) (es : List En) (hl : es.length ≤ 100000) (w : World) (h : EL w a es) : Calls Try.prog 72 #[.slice a es.length cap] w fun e w' => ∃ l, e = .returned l ∧ OE w' w.heap.size l es ∧ Below w.heap.size w w' := by
  have HS := hide h
  have HL := hide hl
  have q25 : ∀ (w : World) (a : Option Addr) (n c n' c' : Nat), (binOp .eql 22 (.slice a n c) (.slice none n' c')).run Try.prog w = .ok (.bool a.isNone) w := fun w a n c n' c' => Lib.run_eql_slice_nil w _ _ a n c n' c' Try.underlying22
  clear h hl
  cases a with
  | none =>
    have hxs : es = [] := by
      cases es with
      | nil => rfl
      | cons d l => obtain ⟨g, o, e, _⟩ := unhide HS (by simp); cases e
    subst hxs
    go_enter Try.func72, Try.ntmps72
    go_wp2_with fail
    go_ret
    exact ⟨_, rfl, OE.nil _ _, Below.refl _ _⟩
  | some ad =>
    have HB := hide (below_alloc' (w := w) (.cells #[] 44))
    have HO := hide (OE.lit w)
    have HV := hide ((unhide HS).eln (row := some w.heap.size) (fun g e => by injection e with e; omega) (unhide HB))
    go_enter Try.func72, Try.ntmps72
    go_wp2_with (at_builtin; refine append_el (by rfl) _ _ (by rfl) w.heap.size _ [] (by rfl) (unhide HO) _ _ _ es rfl (by rfl) (unhide HV) (by have := unhide HL; simp; omega) (by simp) ?_; intro v' w2 hown' hb2 _; have HB2 := hide ((unhide HB).trans hb2); have HO2 := hide hown'; clear hb2 hown')
    rw [List.nil_append] at HO2
    go_wp2_with fail
    go_ret
    exact ⟨_, rfl, unhide HO2, unhide HB2⟩

def zeroEnL : List Value := [.string ⟨#[]⟩, .slice none 0 0]
theorem entL_one (x : En) (r : Option Addr) (c : Nat) : ∀ v ∈ entL x r c, v.oneCell' = true := by
  intro v h
  simp [entL] at h
  rcases h with rfl | rfl <;> rfl

set_option maxRecDepth 100000 in
set_option maxHeartbeats 1000000 in
theorem entries_any (p : Option Addr) (t : List En) (ht : t.length ≤ 1000) (hf : ∀ x ∈ t, x.2.length ≤ 100000 ∧ ∀ v ∈ x.2, v.past.length ≤ 100000) (w : World) (h : TrAt w p t) :
    Calls Try.prog 53 #[.pointer p] w (MadeE w t) := by
  have HF := hide hf
  have K := hide (all_any p t w h)
  clear h hf
  go_enter Try.func53, Try.ntmps53
  go_wp2_with fail
  refine (unhide K).mono ?_
  rintro e w0 ⟨a, c0, rfl, hc0, hel, hw⟩
  have hw' := hw.symm
  subst hw'
  have K2 := hide (cloneE_any a c0 t (by omega) w hel)
  clear hel hw hc0 K
  go_wp2_with fail
  refine (unhide K2).mono ?_
  rintro e w1 ⟨l, rfl, hov, hb1⟩
  have HOV := hide hov
  have HB1 := hide hb1
  obtain ⟨r, c, rfl, hc, hsv0⟩ := hov.el
  clear hb1 hov hsv0
  obtain ⟨n, hn⟩ : ∃ n, t.length = n := ⟨_, rfl⟩
  have HN := hide hn
  rw [hn] at ht hc HOV ⊢
  clear K2 hn
  go_wp2_with fail
  go_loopw [11] (fun i wr => ∃ k : Nat, k ≤ n ∧ i = .int .i64 k ∧ OE wr w.heap.size (.slice r n c) t ∧ Below w.heap.size w wr) (fun i _ => n - (intOf i).toNat)
  case atStart => exact ⟨0, Nat.zero_le _, rfl, unhide HOV, unhide HB1⟩
  case round =>
    obtain ⟨k, hk, rfl, hov, hbw⟩ := hrel
    have HO := hide hov
    have HBW := hide hbw
    by_cases hlt : k < n
    · obtain ⟨v, hv⟩ : ∃ v, t[k]? = some v := ⟨_, List.getElem?_eq_getElem (by rw [unhide HN]; exact hlt)⟩
      obtain ⟨a', c', e', hc', hsv⟩ := hov.el
      simp only [Value.slice.injEq] at e'
      obtain ⟨rfl, hnn, rfl⟩ := e'
      clear hnn
      obtain ⟨g, o, e2, hg, hcell⟩ := hsv (by rw [unhide HN]; omega)
      have ho0 : o = 0 := by
        obtain ⟨ps, _, h2, _⟩ := hov.is
        rcases h2.2 with ⟨e3, _⟩ | ⟨g', cap', cur, e3, _⟩
        · rw [e2] at e3; cases e3
        · rw [e2] at e3
          simp only [Value.slice.injEq, Option.some.injEq, Addr.mk.injEq, and_true] at e3
          exact e3.1.2
      subst e2
      have HH0 := hide ho0
      obtain ⟨q, d, x0, x1, h5, h6⟩ := hcell k v hv
      have HPR : Hid (Prov (Off (some g)) wr q v.2) := hide (by
        obtain ⟨ps, h1, h2, h3⟩ := hov.is
        have hil : k < ps.length := by rw [← List.length_map (f := fun x : EP => x.1), h1, unhide HN]; exact hlt
        obtain ⟨x, hx⟩ : ∃ x, ps[k]? = some x := ⟨_, List.getElem?_eq_getElem hil⟩
        have hxv : x.1 = v := by
          rw [← h1, List.getElem?_map, hx] at hv
          injection hv
        have h4 := (h3 x (List.mem_of_getElem? hx)).2.2
        rcases h2.2 with ⟨e3, _⟩ | ⟨g', cap', cur, e3, _, hh, _, _, _, c4⟩
        · cases e3
        · simp only [Value.slice.injEq, Option.some.injEq, Addr.mk.injEq, and_true] at e3
          obtain ⟨⟨rfl, rfl⟩, _, _⟩ := e3
          have hcx : wr.cell? ⟨g, 0 + k * 2 + 1, none⟩ = some (.slice x.2.1 x.1.2.length x.2.2) := by
            rw [cell_of_row wr g _ cur 44 (0, 0) hh]
            have h7 : (cur.toList.take (ps.length * 2))[k * 2 + 1]? = (flatE ps)[k * 2 + 1]? := by rw [c4]
            rw [List.getElem?_take_of_lt (by omega), flatE_get ps k x hx 1 _ rfl] at h7
            rw [show 0 + k * 2 + 1 = k * 2 + 1 by omega]
            simpa using h7
          rw [x1] at hcx
          injection hcx with hcx
          injection hcx with e4 e5 e6
          rw [e4, ← hxv]
          exact h4)
      have HV := hide hv
      have H6 := hide h6
      have HG := hide hg
      have HFV := hide (unhide HF v (List.mem_of_getElem? hv))
      clear hcell hsv hov hbw hv h5 h6 hg hc' ho0
      go_wp2_with (refine store_row (by rfl) 44 _ _ (by rfl) wr.heap.size (entL v q d) (by rfl) (by rfl) 44 zeroEnL (VRow.newAt rfl) 2 sizeEn rfl rfl (entL_one _ _ _) ?_; intro wz ho hr; have HZ := hide ((below_alloc' (w := wr) (.cells zeroEnL.toArray 44)).trans (ho.below (Nat.le_refl _))); have RZ := hide hr; clear ho hr x0 x1; have z1 := (unhide RZ).cell 1 _ rfl)
      have hg2 : g < wz.heap.size := Nat.lt_of_lt_of_le (unhide HG) (unhide HZ).size
      have HK := hide (copy_any (Off (some g)) q d v.2 (unhide HFV).1 (unhide HFV).2 wz (fun j hj e => by injection e with e; omega) ((unhide H6).after (unhide HZ)) ((unhide HPR).after (unhide H6) (unhide HZ)))
      clear hg2
      refine (unhide HK).mono ?_
      rintro e wc ⟨r3, c3, rfl, hc3, hs3, hp3, hb3⟩
      have HS3 := hide hs3
      have HP3 := hide hp3
      have HC3 := hide hc3
      have HZC := hide (below_grow (unhide HZ) (Nat.le_refl _) hb3)
      have HOC := hide ((unhide HO).after (unhide HZC))
      clear hs3 hp3 hc3 hb3 z1 HK
      have ho0 := unhide HH0
      subst ho0
      obtain ⟨k1, k2, ⟨old, k3⟩, k4⟩ := (unhide HOC).setLeaf (i := k) (x := v) (r := r3) (c := c3) (unhide HN) (unhide HV) (unhide HC3) (unhide HS3) (unhide HP3)
      have HK1 := hide k1
      have HK4 := hide k4
      have f2 : wc.frozen? ⟨g, 0 + k * 2 + 1, none⟩ = false := by rw [Nat.zero_add]; exact k2
      have y2 : wc.cell? ⟨g, 0 + k * 2 + 1, none⟩ = some old := by rw [Nat.zero_add]; exact k3
      have e0 : 0 + k * 2 + 1 = k * 2 + 1 := by omega
      clear k1 k4
      go_wp2_with fail
      go_roundw
      case rel => exact ⟨k + 1, by omega, by go_num, unhide HK1, (below_set (below_grow (unhide HBW) (Nat.le_refl _) (unhide HZC)) (unhide HK4) (k * 2 + 1) _)⟩
      case measure => simp [intOf]; omega
    · obtain rfl : k = n := by omega
      obtain ⟨a', c', e', hc', hsv⟩ := hov.el
      simp only [Value.slice.injEq] at e'
      obtain ⟨rfl, hnn, rfl⟩ := e'
      have HSV := hide hsv
      clear hnn hsv hov hbw hc'
      go_wp2_with fail
      go_ret
      rw [← unhide HN] at hc ⊢
      exact ⟨_, _, rfl, hc, unhide HSV, unhide HBW⟩
end Go.Proofs.Ytpfighkafmammaa

/-
  Plain facts on trees: what stands at a directory and below it stands together; the names below it, each with what stands there. Conditions: none but those that each theorem names.
-/

namespace Go.Proofs.Ytpfighkafmammaa
open Go.RowKit

/-- At a directory, or below it. -/
def atU (d : ByteArray) (x : En) : Bool := decide (x.1 = d) || underE x.1 d
def belowT (t : List En) (d : ByteArray) : List En := t.filter (atU d)
def underT (t : List En) (d : ByteArray) : List En := t.filter fun x => underE x.1 d
def grpT (t : List En) (d s : ByteArray) : List En := belowT t (downE d s)
/-- The first one's leaf, if it stands at the directory itself; and the others. -/
def leafOf (d : ByteArray) : List En → List Vc.V
  | [] => []
  | x :: _ => if x.1 = d then x.2 else []
def restOf (d : ByteArray) : List En → List En
  | [] => []
  | x :: r => if x.1 = d then r else x :: r

theorem dir_join {d : ByteArray} (h : Dir d) : Pth.Pt.joinP (partsE d) = d.data.toList := by
  rcases h with h | h
  · unfold partsE
    rw [h, Pth.Pt.parts_none [] (by decide)]
    rfl
  · unfold partsE
    rw [Pth.Pt.parts_path _ h, Pth.Pt.join_pieces]
theorem cmpP_self (D : List (List UInt8)) : Pth.Pt.cmpP D D = 0 := (Pth.Pt.cmpP_good.eq D D).2 rfl
/-- What is below a directory stands behind it. -/
theorem under_lt {p d : ByteArray} (h : underE p d = true) : cmpE d p < 0 := by
  obtain ⟨_, h2, r, e⟩ := under_split h
  unfold cmpE Pth.Pt.cmpT
  rcases h2 with h2 | h2
  · have hn := nm_name h
    have hD : partsE d = [] := by unfold partsE; rw [h2, Pth.Pt.parts_none [] (by decide)]
    rw [e, hD, h2]
    show Pth.Pt.cmpP [[]] ((nm p d).data.toList :: r) < 0
    rw [Pth.Pt.cmpP_cons]
    have h1 := ((Pth.Pt.isName_iff _).1 hn).1
    cases hq : (nm p d).data.toList with
    | nil => rw [hq] at h1; simp at h1
    | cons a l =>
      have : Pth.Pt.cmpB [] (a :: l) = -1 := rfl
      rw [this, if_neg (by decide)]
      decide
  · have hD : Pth.Pt.pieces d.data.toList = partsE d := (Pth.Pt.parts_path _ h2).symm
    rw [e, hD]
    have := cmpP_pre (partsE d) [] ((nm p d).data.toList :: r)
    rw [List.append_nil] at this
    rw [this, Pth.Pt.cmpP_nil_cons]
    decide
theorem under_irr (d : ByteArray) : underE d d = false := by
  cases h : underE d d with
  | false => rfl
  | true => have := under_lt h; rw [cmpE_self] at this; omega
theorem atU_le {d : ByteArray} {x : En} (h : atU d x = true) : cmpE d x.1 ≤ 0 := by
  unfold atU at h
  rw [Bool.or_eq_true, decide_eq_true_eq] at h
  rcases h with h | h
  · rw [h, cmpE_self]; omega
  · have := under_lt h; omega
theorem srt_filter {t : List En} (h : Srt t) (f : En → Bool) : Srt (t.filter f) := List.Pairwise.filter _ h

theorem below_split {t : List En} (ht : Srt t) (d : ByteArray) : leafOf d (belowT t d) = getT t d ∧ restOf d (belowT t d) = underT t d := by
  have hs := srt_filter ht (atU d)
  have hu : (belowT t d).filter (fun x => underE x.1 d) = underT t d := by
    unfold belowT underT
    rw [List.filter_filter]
    refine List.filter_congr fun x _ => ?_
    unfold atU
    cases underE x.1 d <;> simp
  have hm : ∀ x ∈ t, x.1 = d → x ∈ belowT t d := fun x hx e => List.mem_filter.2 ⟨hx, by unfold atU; simp [e]⟩
  have hb : ∀ x ∈ belowT t d, x ∈ t ∧ atU d x = true := fun x hx => List.mem_filter.1 hx
  change Srt (belowT t d) at hs
  cases hB : belowT t d with
  | nil =>
    rw [hB] at hu hm
    refine ⟨(getT_none fun x hx e => ?_).symm, hu⟩
    have := hm x hx e
    cases this
  | cons x r =>
    rw [hB] at hs hu hm hb
    by_cases e : x.1 = d
    · refine ⟨?_, ?_⟩
      · show (if x.1 = d then x.2 else []) = _
        rw [if_pos e, ← e]
        exact (getT_mem ht (hb x (List.mem_cons_self ..)).1).symm
      · show (if x.1 = d then r else x :: r) = _
        rw [if_pos e, ← hu, List.filter_cons_of_neg (by rw [e, under_irr]; decide), List.filter_eq_self.2]
        intro y hy
        have h1 := (hb y (List.mem_cons_of_mem _ hy)).2
        have h2 := hs.head y hy
        unfold atU at h1
        rw [Bool.or_eq_true, decide_eq_true_eq] at h1
        rcases h1 with h1 | h1
        · rw [e, h1, cmpE_self] at h2
          omega
        · exact h1
    · have h0 : ∀ y ∈ x :: r, y.1 ≠ d := fun y hy e2 => by
        rcases List.mem_cons.1 hy with rfl | hy
        · exact e e2
        · have h1 := atU_le (hb x (List.mem_cons_self ..)).2
          have h2 := hs.head y hy
          rw [e2, cmpE_anti] at h2
          omega
      refine ⟨?_, ?_⟩
      · show (if x.1 = d then x.2 else []) = _
        rw [if_neg e]
        exact (getT_none fun y hy e2 => h0 y (hm y hy e2) e2).symm
      · show (if x.1 = d then r else x :: r) = _
        rw [if_neg e, ← hu, List.filter_eq_self.2]
        intro y hy
        have h1 := (hb y hy).2
        unfold atU at h1
        rw [Bool.or_eq_true, decide_eq_true_eq] at h1
        exact h1.resolve_left (h0 y hy)

/-! A run of those that meet a test. -/
theorem tw_filter {α : Type} {p : α → Bool} : ∀ {l : List α}, (l.Pairwise fun x y => p y = true → p x = true) → l.takeWhile p = l.filter p
  | [], _ => rfl
  | x :: l, h => by
    obtain ⟨h1, h2⟩ := List.pairwise_cons.1 h
    by_cases hp : p x = true
    · rw [List.takeWhile_cons_of_pos hp, List.filter_cons_of_pos hp, tw_filter h2]
    · rw [List.takeWhile_cons_of_neg hp, List.filter_cons_of_neg hp]
      refine (List.filter_eq_nil_iff.2 fun y hy hy2 => ?_).symm
      exact hp (h1 y hy hy2)
theorem tw_append {α : Type} {p : α → Bool} : ∀ {l m : List α}, (∀ x ∈ l, p x = true) → (∀ x, m.head? = some x → p x = false) → (l ++ m).takeWhile p = l
  | [], [], _, _ => rfl
  | [], y :: m, _, h => List.takeWhile_cons_of_neg (by rw [h y rfl]; decide)
  | x :: l, m, h, h2 => by
    rw [List.cons_append, List.takeWhile_cons_of_pos (h x (List.mem_cons_self ..)), tw_append (fun y hy => h y (List.mem_cons_of_mem _ hy)) h2]
theorem between0 : ∀ (D C y : List (List UInt8)), Pth.Pt.cmpP D C ≤ 0 → Pth.Pt.cmpP C (D ++ y) < 0 → ∃ z, C = D ++ z
  | [], C, _, _, _ => ⟨C, rfl⟩
  | a :: D, [], _, h, _ => by rw [Pth.Pt.cmpP_cons_nil] at h; omega
  | a :: D, b :: C, y, h, h2 => by
    rw [List.cons_append, Pth.Pt.cmpP_cons] at h2
    rw [Pth.Pt.cmpP_cons] at h
    have ha := Pth.Pt.cmpB_good.anti a b
    by_cases e : Pth.Pt.cmpB a b = 0
    · have e2 : Pth.Pt.cmpB b a = 0 := by omega
      rw [if_pos e] at h
      rw [if_pos e2] at h2
      obtain ⟨z, hz⟩ := between0 D C y h h2
      exact ⟨z, by rw [hz, (Pth.Pt.cmpB_good.eq a b).1 e]; rfl⟩
    · rw [if_neg e] at h
      rw [if_neg (by omega)] at h2
      omega
/-- What stands between a directory and what is below it is below it, too. -/
theorem atU_between {d : ByteArray} {x y : En} (hp : Pth.Pt.isPath x.1.data.toList = true) (h1 : cmpE d x.1 ≤ 0) (h2 : cmpE x.1 y.1 < 0) (h3 : atU d y = true) : atU d x = true := by
  unfold atU at h3 ⊢
  rw [Bool.or_eq_true, decide_eq_true_eq] at h3 ⊢
  rcases h3 with h3 | h3
  · rw [h3, cmpE_anti] at h2
    omega
  · obtain ⟨_, hd, r, e⟩ := under_split h3
    rcases hd with hd | hd
    · right
      have : d = ⟨#[]⟩ := by rw [← str_of d, hd]; rfl
      rw [this]
      exact under_root hp
    · have hD : Pth.Pt.pieces d.data.toList = partsE d := (Pth.Pt.parts_path _ hd).symm
      unfold cmpE Pth.Pt.cmpT at h1 h2
      rw [hD] at h1
      rw [e] at h2
      obtain ⟨z, hz⟩ := between0 _ _ _ h1 h2
      cases z with
      | nil =>
        left
        rw [List.append_nil, ← hD] at hz
        have := Pth.Pt.pieces_inj _ _ hz
        rw [← str_of x.1, ← str_of d, this]
      | cons q z =>
        right
        have e1 : Pth.Pt.parts x.1.data.toList = partsE d ++ q :: z := by rw [Pth.Pt.parts_path _ hp, hz]
        refine (Pth.Pt.under_names _ _).2 ⟨hp, .inr hd, ?_, fun i hi => ?_⟩
        · rw [e1]
          show (partsE d).length < _
          simp
        · rw [e1]
          exact List.getElem?_append_left hi

/-! Where a path stands. -/
def cntT (t : List En) (p : ByteArray) : Nat := (t.filter fun x => decide (cmpE x.1 p < 0)).length
def hasT (t : List En) (p : ByteArray) : Bool := t.any fun x => decide (x.1 = p)
theorem srt_cut (p : ByteArray) : ∀ {t : List En}, Srt t → t = t.filter (fun x => decide (cmpE x.1 p < 0)) ++ t.filter fun x => decide (cmpE p x.1 ≤ 0)
  | [], _ => rfl
  | x :: t, h => by
    have ih := srt_cut p h.tail
    by_cases e : cmpE x.1 p < 0
    · have e2 : ¬ cmpE p x.1 ≤ 0 := by rw [cmpE_anti]; omega
      rw [List.filter_cons_of_pos (by simpa using e), List.filter_cons_of_neg (by simpa using e2), List.cons_append, ← ih]
    · have e2 : cmpE p x.1 ≤ 0 := by rw [cmpE_anti]; omega
      have h0 : ∀ y ∈ x :: t, cmpE p y.1 ≤ 0 := fun y hy => by
        rcases List.mem_cons.1 hy with rfl | hy
        · exact e2
        · have h1 := h.head y hy
          by_cases e3 : cmpE p x.1 = 0
          · rw [← cmpE_eq.1 e3] at h1; omega
          · have := cmpE_tr (a := p) (b := x.1) (c := y.1) (by omega) h1; omega
      have h4 : (x :: t).filter (fun x => decide (cmpE x.1 p < 0)) = [] := List.filter_eq_nil_iff.2 fun y hy => by
        have := h0 y hy
        rw [cmpE_anti] at this
        simp only [decide_eq_true_eq]
        omega
      rw [h4, List.filter_eq_self.2 fun y hy => by simpa using h0 y hy]
      rfl
theorem take_cnt {t : List En} (h : Srt t) (p : ByteArray) : t.take (cntT t p) = t.filter fun x => decide (cmpE x.1 p < 0) := by
  have e := srt_cut p h
  unfold cntT
  generalize t.filter (fun x => decide (cmpE x.1 p < 0)) = A at e ⊢
  rw [e, List.take_left]
theorem drop_cnt {t : List En} (h : Srt t) (p : ByteArray) : t.drop (cntT t p) = t.filter fun x => decide (cmpE p x.1 ≤ 0) := by
  have e := srt_cut p h
  have e1 := take_cnt h p
  have e2 := List.take_append_drop (cntT t p) t
  rw [e1] at e2
  conv at e2 => rhs; rw [e]
  exact List.append_cancel_left e2
theorem cnt_le (t : List En) (p : ByteArray) : cntT t p ≤ t.length := List.length_filter_le _ _
theorem cnt_lt {t : List En} (h : Srt t) {p : ByteArray} {k : Nat} {x : En} (hx : t[k]? = some x) : cmpE x.1 p < 0 ↔ k < cntT t p := by
  have hk : k < t.length := (List.getElem?_eq_some_iff.1 hx).1
  constructor
  · intro hl
    by_cases hc : k < cntT t p
    · exact hc
    · have h1 : (t.drop (cntT t p))[k - cntT t p]? = some x := by rw [List.getElem?_drop, show cntT t p + (k - cntT t p) = k by omega]; exact hx
      have h2 := List.mem_of_getElem? h1
      rw [drop_cnt h] at h2
      have h3 := (List.mem_filter.1 h2).2
      rw [decide_eq_true_eq, cmpE_anti] at h3
      omega
  · intro hc
    have h1 : (t.take (cntT t p))[k]? = some x := by rw [List.getElem?_take_of_lt hc]; exact hx
    have h2 := List.mem_of_getElem? h1
    rw [take_cnt h] at h2
    simpa using (List.mem_filter.1 h2).2
/-- It is there where the first that is not ahead of it is it. -/
theorem has_cnt {t : List En} (h : Srt t) {p : ByteArray} {x : En} (hx : t[cntT t p]? = some x) : hasT t p = decide (cmpE x.1 p = 0) := by
  rw [Bool.eq_iff_iff, decide_eq_true_eq]
  unfold hasT
  rw [List.any_eq_true]
  constructor
  · rintro ⟨y, hy, e⟩
    rw [decide_eq_true_eq] at e
    rw [cmpE_eq]
    obtain ⟨k, hk, rfl⟩ := List.getElem_of_mem hy
    have hk2 := List.getElem?_eq_getElem hk
    have h1 : ¬ k < cntT t p := fun hc => by
      have := (cnt_lt h hk2).2 hc
      rw [e, cmpE_self] at this
      omega
    by_cases e2 : k = cntT t p
    · subst e2
      rw [hk2] at hx
      injection hx with hx
      rw [← hx, e]
    · have h2 : ¬ cntT t p < cntT t p := Nat.lt_irrefl _
      have h3 : ¬ cmpE x.1 p < 0 := fun hl => h2 ((cnt_lt h hx).1 hl)
      have h4 : cmpE x.1 (t[k]).1 < 0 := by
        obtain ⟨hc, ex⟩ := List.getElem?_eq_some_iff.1 hx
        have := (List.pairwise_iff_getElem.1 h) (cntT t p) k hc hk (by omega)
        rw [ex] at this
        exact this
      rw [e] at h4
      exact absurd h4 h3
  · intro e
    exact ⟨x, List.mem_of_getElem? hx, by simpa using cmpE_eq.1 e⟩
theorem has_end {t : List En} (h : Srt t) {p : ByteArray} (hx : t.length ≤ cntT t p) : hasT t p = false := by
  cases hh : hasT t p with
  | false => rfl
  | true =>
    unfold hasT at hh
    obtain ⟨y, hy, e⟩ := List.any_eq_true.1 hh
    obtain ⟨k, hk, rfl⟩ := List.getElem_of_mem hy
    have := (cnt_lt (p := p) h (List.getElem?_eq_getElem hk)).2 (by omega)
    rw [decide_eq_true_eq] at e
    rw [e, cmpE_self] at this
    omega
theorem has_get {t : List En} (h : Srt t) {p : ByteArray} : (hasT t p = false → getT t p = []) ∧ (hasT t p = true → ∃ x, t[cntT t p]? = some x ∧ x.1 = p ∧ x.2 = getT t p) := by
  constructor
  · intro hh
    refine getT_none fun x hx e => ?_
    have : hasT t p = true := List.any_eq_true.2 ⟨x, hx, by simpa using e⟩
    rw [hh] at this
    cases this
  · intro hh
    by_cases hl : cntT t p < t.length
    · obtain ⟨x, hx⟩ : ∃ x, t[cntT t p]? = some x := ⟨_, List.getElem?_eq_getElem hl⟩
      have e := has_cnt h hx
      rw [hh] at e
      have e2 := cmpE_eq.1 (of_decide_eq_true e.symm)
      exact ⟨x, hx, e2, by rw [← e2]; exact (getT_mem h (List.mem_of_getElem? hx)).symm⟩
    · rw [has_end h (by omega)] at hh
      cases hh
/-- What Set puts together. -/
theorem put_parts {t : List En} (h : Srt t) (p : ByteArray) (l : List Vc.V) : putT p l t = t.take (cntT t p) ++ ((if l.length = 0 then [] else [(p, l)]) ++ (if hasT t p = true then (t.drop (cntT t p)).drop 1 else t.drop (cntT t p))) := by
  rw [putT_cut p l h, take_cnt h]
  unfold cutT
  congr 2
  have hd := drop_cnt h p
  have hs : Srt (t.drop (cntT t p)) := by rw [hd]; exact srt_filter h _
  have e : t.filter (fun x => decide (cmpE p x.1 < 0)) = (t.drop (cntT t p)).filter fun x => decide (cmpE p x.1 < 0) := by
    rw [hd, List.filter_filter]
    refine List.filter_congr fun x _ => ?_
    rw [Bool.eq_iff_iff, Bool.and_eq_true, decide_eq_true_eq, decide_eq_true_eq]
    constructor
    · intro h; exact ⟨h, by omega⟩
    · intro h; exact h.1
  have hge : ∀ x ∈ t.drop (cntT t p), cmpE p x.1 ≤ 0 := fun x hx => by rw [hd] at hx; simpa using (List.mem_filter.1 hx).2
  rw [e]
  cases hh : hasT t p with
  | true =>
    rw [if_pos rfl]
    obtain ⟨x, hx, e1, _⟩ := (has_get h).2 hh
    have hc : (t.drop (cntT t p))[0]? = some x := by rw [List.getElem?_drop]; exact hx
    cases hD : t.drop (cntT t p) with
    | nil => rw [hD] at hc; cases hc
    | cons y r =>
      rw [hD] at hc hs
      injection hc with hc
      subst hc
      have e2 : ¬ cmpE p y.1 < 0 := by rw [e1, cmpE_self]; omega
      rw [List.filter_cons_of_neg (by simpa using e2)]
      refine List.filter_eq_self.2 fun z hz => ?_
      have := hs.head z hz
      rw [e1] at this
      simpa using this
  | false =>
    rw [if_neg (by decide)]
    refine List.filter_eq_self.2 fun z hz => ?_
    have h1 := hge z hz
    have h2 : cmpE p z.1 ≠ 0 := fun e2 => by
      have : hasT t p = true := List.any_eq_true.2 ⟨z, List.mem_of_mem_drop hz, by simpa using (cmpE_eq.1 e2).symm⟩
      rw [hh] at this
      cases this
    simp only [decide_eq_true_eq]
    omega
/-- What stands at a directory and below it stands together, from where it would stand. -/
theorem below_run {t : List En} (h : Srt t) (hp : ∀ x ∈ t, Pth.Pt.isPath x.1.data.toList = true) (d : ByteArray) : (t.drop (cntT t d)).takeWhile (atU d) = belowT t d := by
  have hd := drop_cnt h d
  have hs : Srt (t.drop (cntT t d)) := by rw [hd]; exact srt_filter h _
  rw [tw_filter]
  · rw [hd, List.filter_filter]
    unfold belowT
    refine List.filter_congr fun x _ => ?_
    cases hx : atU d x with
    | false => rfl
    | true => simpa using atU_le hx
  · refine (List.pairwise_iff_getElem.2 fun i j hi hj hij hy => ?_)
    have h1 := (List.pairwise_iff_getElem.1 hs) i j hi hj hij
    have hm := List.getElem_mem hi
    have h2 : cmpE d ((t.drop (cntT t d))[i]).1 ≤ 0 := by
      have : (t.drop (cntT t d))[i] ∈ t.filter fun x => decide (cmpE d x.1 ≤ 0) := by rw [← hd]; exact hm
      simpa using (List.mem_filter.1 this).2
    exact atU_between (hp _ (List.mem_of_mem_drop hm)) h2 h1 hy
theorem there_below {t : List En} (h : Tr t) (d : ByteArray) : (getT t d = [] ∧ namesT t d = []) ↔ belowT t d = [] := by
  obtain ⟨h1, h2⟩ := below_split h.srt d
  constructor
  · rintro ⟨e1, e2⟩
    refine List.filter_eq_nil_iff.2 fun x hx ha => ?_
    unfold atU at ha
    rw [Bool.or_eq_true, decide_eq_true_eq] at ha
    rcases ha with ha | ha
    · have := getT_mem h.srt hx
      rw [ha, e1] at this
      exact (h.leaf x hx).1 (by rw [← this]; rfl)
    · have := (mem_names (nm x.1 d)).2 ⟨x, hx, ha, rfl⟩
      rw [e2] at this
      cases this
  · intro e
    rw [e] at h1 h2
    refine ⟨h1.symm, List.eq_nil_iff_forall_not_mem.2 fun s hs => ?_⟩
    obtain ⟨x, hx, hu, _⟩ := (mem_names s).1 hs
    have : x ∈ underT t d := List.mem_filter.2 ⟨hx, by simpa using hu⟩
    rw [← h2] at this
    cases this

/-! The names below a directory, each with what stands there. -/
theorem atU_name {d s : ByteArray} {x : En} (hd : Dir d) (hs : isN s = true) (h4 : (partsE d).length < 4) (h : atU (downE d s) x = true) : underE x.1 d = true ∧ nm x.1 d = s := by
  have hpd := path_down hd hs h4
  have epd := parts_down hd hs h4
  unfold atU at h
  rw [Bool.or_eq_true, decide_eq_true_eq] at h
  have key : ∃ z, Pth.Pt.isPath x.1.data.toList = true ∧ partsE x.1 = partsE d ++ s.data.toList :: z := by
    rcases h with h | h
    · exact ⟨[], by rw [h]; exact hpd, by rw [h, epd]⟩
    · obtain ⟨h1, _, r, e⟩ := under_split h
      refine ⟨(nm x.1 (downE d s)).data.toList :: r, h1, ?_⟩
      unfold partsE at epd ⊢
      rw [Pth.Pt.parts_path _ h1, e]
      unfold partsE
      rw [epd]
      simp
  obtain ⟨z, h1, e⟩ := key
  have hu : underE x.1 d = true := (Pth.Pt.under_names _ _).2 ⟨h1, hd, by
    show (partsE d).length < (partsE x.1).length
    rw [e]; simp, fun i hi => by
    show (partsE x.1)[i]? = (partsE d)[i]?
    rw [e]; exact List.getElem?_append_left hi⟩
  refine ⟨hu, ?_⟩
  unfold nm
  rw [e]
  have : (partsE d ++ s.data.toList :: z).getD (partsE d).length [] = s.data.toList := by
    rw [List.getD_eq_getElem?_getD, List.getElem?_append_right (Nat.le_refl _), Nat.sub_self]
    rfl
  rw [this, str_of]
theorem grp_lt {d s s' : ByteArray} {x y : En} (hx : underE x.1 d = true ∧ nm x.1 d = s) (hy : underE y.1 d = true ∧ nm y.1 d = s') (h : cmpN s s' < 0) : cmpE x.1 y.1 < 0 := by
  obtain ⟨_, _, r1, e1⟩ := under_split hx.1
  obtain ⟨_, _, r2, e2⟩ := under_split hy.1
  rw [hx.2] at e1
  rw [hy.2] at e2
  unfold cmpE Pth.Pt.cmpT
  unfold cmpN at h
  rw [e1, e2, cmpP_pre, Pth.Pt.cmpP_cons, if_neg (by omega)]
  exact h
theorem names_dir {t : List En} {d s : ByteArray} (h : s ∈ namesT t d) : Dir d ∧ isN s = true ∧ (partsE d).length < 4 := by
  obtain ⟨x, _, hu, rfl⟩ := (mem_names s).1 h
  exact ⟨(under_split hu).2.1, nm_name hu, under_few hu⟩
theorem grp_mem {t : List En} {d s : ByteArray} (h : s ∈ namesT t d) (x : En) : x ∈ grpT t d s ↔ x ∈ t ∧ underE x.1 d = true ∧ nm x.1 d = s := by
  obtain ⟨hd, hs, h4⟩ := names_dir h
  unfold grpT belowT
  rw [List.mem_filter]
  constructor
  · rintro ⟨h1, h2⟩
    exact ⟨h1, atU_name hd hs h4 h2⟩
  · rintro ⟨h1, h2, h3⟩
    refine ⟨h1, ?_⟩
    unfold atU
    rw [Bool.or_eq_true, decide_eq_true_eq, ← h3]
    exact under_down h2
theorem grp_pos {t : List En} {d s : ByteArray} (h : s ∈ namesT t d) : grpT t d s ≠ [] := fun e => by
  obtain ⟨x, hx, hu, hn⟩ := (mem_names s).1 h
  have := (grp_mem h x).2 ⟨hx, hu, hn⟩
  rw [e] at this
  cases this
theorem under_groups {t : List En} (ht : Srt t) (d : ByteArray) : (namesT t d).flatMap (grpT t d) = underT t d := by
  refine Srt.ext ?_ (srt_filter ht _) fun x => ?_
  · unfold Srt
    rw [List.pairwise_flatMap]
    refine ⟨fun s _ => srt_filter ht _, ?_⟩
    refine List.Pairwise.imp_of_mem ?_ (names_srt ht d)
    intro s s' hs hs' hlt x hx y hy
    have h1 := (grp_mem hs x).1 hx
    have h2 := (grp_mem hs' y).1 hy
    exact grp_lt h1.2 h2.2 hlt
  · rw [List.mem_flatMap]
    unfold underT
    rw [List.mem_filter]
    constructor
    · rintro ⟨s, hs, hx⟩
      have := (grp_mem hs x).1 hx
      exact ⟨this.1, by simpa using this.2.1⟩
    · rintro ⟨hx, hu⟩
      have hu' : underE x.1 d = true := by simpa using hu
      have hs := (mem_names (nm x.1 d)).2 ⟨x, hx, hu', rfl⟩
      exact ⟨_, hs, (grp_mem hs x).2 ⟨hx, hu', rfl⟩⟩
/-- Of the groups from the j-th on the first is a run. -/
theorem grp_run {t : List En} (ht : Srt t) {d s : ByteArray} {N : List ByteArray} {j : Nat} (hN : namesT t d = N) (hs : N[j]? = some s) :
    (N.drop j).flatMap (grpT t d) = grpT t d s ++ (N.drop (j + 1)).flatMap (grpT t d) ∧ ((N.drop j).flatMap (grpT t d)).takeWhile (atU (downE d s)) = grpT t d s := by
  obtain ⟨hj, e⟩ := List.getElem?_eq_some_iff.1 hs
  have e1 : N.drop j = s :: N.drop (j + 1) := by rw [List.drop_eq_getElem_cons hj, e]
  have hm : s ∈ namesT t d := by rw [hN]; exact List.mem_of_getElem? hs
  have e2 : (N.drop j).flatMap (grpT t d) = grpT t d s ++ (N.drop (j + 1)).flatMap (grpT t d) := by rw [e1, List.flatMap_cons]
  refine ⟨e2, ?_⟩
  rw [e2]
  refine tw_append (fun x hx => (List.mem_filter.1 hx).2) fun x hx => ?_
  have hx' := List.mem_of_mem_head? hx
  obtain ⟨s', hs', hx2⟩ := List.mem_flatMap.1 hx'
  have hm' : s' ∈ namesT t d := by rw [hN]; exact List.mem_of_mem_drop hs'
  have hlt : cmpN s s' < 0 := by
    have h1 := names_srt ht d
    rw [hN] at h1
    obtain ⟨k, hk, e3⟩ := List.getElem_of_mem hs'
    rw [List.getElem_drop] at e3
    have := (List.pairwise_iff_getElem.1 h1) j (j + 1 + k) hj (by rw [List.length_drop] at hk; omega) (by omega)
    rw [e, e3] at this
    exact this
  have h2 := (grp_mem hm' x).1 hx2
  cases ha : atU (downE d s) x with
  | false => rfl
  | true =>
    obtain ⟨hd, hn, h4⟩ := names_dir hm
    have h3 := (atU_name hd hn h4 ha).2
    rw [h2.2.2] at h3
    rw [h3, cmpN_eq.2 rfl] at hlt
    omega

/-! Upwards. -/
def upE (p : ByteArray) : ByteArray := str (Pth.Pt.up p.data.toList)
def lastE (p : ByteArray) : ByteArray := str (Pth.Pt.last p.data.toList)
theorem up_step {p d : ByteArray} (h : underE p d = true) : (upE p = d ∧ p = downE d (nm p d)) ∨ (upE p ≠ d ∧ underE (upE p) d = true ∧ nm (upE p) d = nm p d ∧ (partsE (upE p)).length < (partsE p).length) := by
  obtain ⟨h1, hd, r, e⟩ := under_split h
  have hn := nm_name h
  have h4 := under_few h
  have hup : Pth.Pt.up p.data.toList = Pth.Pt.joinP (Pth.Pt.pieces p.data.toList).dropLast := by unfold Pth.Pt.up; rw [if_pos h1]
  cases r with
  | nil =>
    left
    have e1 : (Pth.Pt.pieces p.data.toList).dropLast = partsE d := by rw [e]; simp
    refine ⟨?_, ?_⟩
    · unfold upE
      rw [hup, e1, dir_join hd, str_of]
    · have e2 := pieces_down hd hn
      rw [← e2] at e
      have := Pth.Pt.pieces_inj _ _ e
      exact (str_of p).symm.trans ((congrArg str this).trans (str_of _))
  | cons q r =>
    right
    have e1 : (Pth.Pt.pieces p.data.toList).dropLast = partsE d ++ (nm p d).data.toList :: (q :: r).dropLast := by
      rw [e, List.dropLast_append_of_ne_nil (by simp)]
      rfl
    obtain ⟨h5, h6⟩ := (Pth.Pt.isPath_iff _).1 h1
    have hl : (Pth.Pt.pieces p.data.toList).dropLast.length < (Pth.Pt.pieces p.data.toList).length := by rw [List.length_dropLast]; have := Pth.Pt.pieces_pos p.data.toList; omega
    obtain ⟨h7, h8⟩ := Pth.Pt.join_path (Pth.Pt.pieces p.data.toList).dropLast (by rw [e1]; simp) (by omega) (fun x hx => h6 x (List.dropLast_subset _ hx))
    have hd2 : (upE p).data.toList = Pth.Pt.joinP (Pth.Pt.pieces p.data.toList).dropLast := by unfold upE; rw [str_data, hup]
    have hp2 : partsE (upE p) = partsE d ++ (nm p d).data.toList :: (q :: r).dropLast := by
      unfold partsE
      rw [hd2, Pth.Pt.parts_path _ h8, h7]
      exact e1
    have hlen : (partsE d).length < (partsE (upE p)).length := by rw [hp2]; simp
    have hu : underE (upE p) d = true := (Pth.Pt.under_names _ _).2 ⟨by rw [hd2]; exact h8, hd, hlen, fun i hi => by
      show (partsE (upE p))[i]? = (partsE d)[i]?
      rw [hp2]; exact List.getElem?_append_left hi⟩
    refine ⟨fun e2 => by rw [e2] at hlen; omega, hu, ?_, ?_⟩
    · have : (partsE d ++ (nm p d).data.toList :: (q :: r).dropLast).getD (partsE d).length [] = (nm p d).data.toList := by
        rw [List.getD_eq_getElem?_getD, List.getElem?_append_right (Nat.le_refl _), Nat.sub_self]
        rfl
      conv => lhs; unfold nm
      rw [hp2, this, str_of]
    · have : partsE p = Pth.Pt.pieces p.data.toList := Pth.Pt.parts_path _ h1
      rw [this]
      unfold partsE
      rw [hd2, Pth.Pt.parts_path _ h8, h7]
      exact hl
theorem up_of_down {d s : ByteArray} (hd : Dir d) (hs : isN s = true) (h4 : (partsE d).length < 4) : upE (downE d s) = d ∧ lastE (downE d s) = s := by
  have h1 := path_down hd hs h4
  have h2 := pieces_down hd hs
  unfold upE lastE Pth.Pt.up Pth.Pt.last
  rw [if_pos h1, if_pos h1, h2]
  constructor
  · simp only [List.dropLast_concat]
    rw [dir_join hd, str_of]
  · simp [str_of]
theorem path_size {p : ByteArray} (h : Pth.Pt.isPath p.data.toList = true) : p.size ≤ 51 := by
  have := Pth.Pt.path_length _ h
  simpa using this
end Go.Proofs.Ytpfighkafmammaa

/-
  The library's functions on strings and slices that package paths calls, at this program: each is the library's own contract, applied to this program's numbers (no walk of their text). Conditions: those that each theorem names.
-/

namespace Go.Proofs
open Go.Shelf
def Try.lays106_ren : Go.Shelf.Ren := ⟨fun | 106 => 76 | 213 => 91 | 265 => 97 | n => n, fun | 9 => 9 | 3 => 3 | n => n, fun | n => n⟩
theorem Try.lays106 : Go.Proofs.Lays.n106 Try.prog Try.lays106_ren := {
  mixed := by kernel_rfl
  f106 := Try.func76.trans (congrArg some (by kernel_rfl))
  f213 := Try.func91.trans (congrArg some (by kernel_rfl))
  f265 := Try.func97.trans (congrArg some (by kernel_rfl))
  t3 := Try.underlying3
  a3 := Try.isAgg3
  z3 := Try.sizeOf3
  v3 := Try.zeroValue3
  t9 := Try.underlying9
  a9 := Try.isAgg9
  z9 := Try.sizeOf9
  v9 := Try.zeroValue9 }
open Go.RowKit in
theorem Try.strings_Compare (a b : ByteArray) (w : World) :
    Calls Try.prog 76 #[.string a, .string b] w fun e w' => e = .returned (.int .i64 (Lib.compareBytes a.data.toList b.data.toList)) ∧ w' = w := Any.strings_Compare Try.lays106 a b w
def Try.lays103_ren : Go.Shelf.Ren := ⟨fun | 103 => 73 | 210 => 88 | 206 => 89 | n => n, fun | 9 => 9 | 4 => 4 | 24 => 40 | 3 => 3 | n => n, fun | n => n⟩
theorem Try.lays103 : Go.Proofs.Lays.n103 Try.prog Try.lays103_ren := {
  mixed := by kernel_rfl
  f103 := Try.func73.trans (congrArg some (by kernel_rfl))
  f206 := Try.func89.trans (congrArg some (by kernel_rfl))
  f210 := Try.func88.trans (congrArg some (by kernel_rfl))
  t3 := Try.underlying3
  a3 := Try.isAgg3
  z3 := Try.sizeOf3
  v3 := Try.zeroValue3
  t4 := Try.underlying4
  a4 := Try.isAgg4
  z4 := Try.sizeOf4
  v4 := Try.zeroValue4
  t9 := Try.underlying9
  a9 := Try.isAgg9
  z9 := Try.sizeOf9
  v9 := Try.zeroValue9
  t24 := Try.underlying40
  a24 := Try.isAgg40
  z24 := Try.sizeOf40
  v24 := Try.zeroValue40 }
open Go.RowKit in
theorem Try.strings_CutPrefix (s p : ByteArray) (w : World) :
    Calls Try.prog 73 #[.string s, .string p] w fun e w' => e = .returned (.tuple #[.string ⟨(Lib.trimPrefix s.data.toList p.data.toList).toArray⟩, .bool (Lib.hasPrefix s.data.toList p.data.toList)]) ∧ w' = w := Any.strings_CutPrefix Try.lays103 s p w
def Try.lays219_ren : Go.Shelf.Ren := ⟨fun | 219 => 96 | 217 => 100 | 225 => 101 | 224 => 102 | 267 => 103 | 266 => 106 | 314 => 107 | n => n, fun | 9 => 9 | 3 => 3 | 4 => 4 | 5 => 5 | 46 => 116 | 146 => 127 | 51 => 126 | n => n, fun | 1 => 0 | n => n⟩
theorem Try.lays219 : Go.Proofs.Lays.n219 Try.prog Try.lays219_ren := {
  mixed := by kernel_rfl
  f217 := Try.func100.trans (congrArg some (by kernel_rfl))
  f219 := Try.func96.trans (congrArg some (by kernel_rfl))
  f224 := Try.func102.trans (congrArg some (by kernel_rfl))
  f225 := Try.func101.trans (congrArg some (by kernel_rfl))
  f266 := Try.func106.trans (congrArg some (by kernel_rfl))
  f267 := Try.func103.trans (congrArg some (by kernel_rfl))
  f314 := Try.func107.trans (congrArg some (by kernel_rfl))
  t3 := Try.underlying3
  a3 := Try.isAgg3
  z3 := Try.sizeOf3
  v3 := Try.zeroValue3
  t4 := Try.underlying4
  a4 := Try.isAgg4
  z4 := Try.sizeOf4
  v4 := Try.zeroValue4
  t5 := Try.underlying5
  a5 := Try.isAgg5
  z5 := Try.sizeOf5
  v5 := Try.zeroValue5
  t9 := Try.underlying9
  a9 := Try.isAgg9
  z9 := Try.sizeOf9
  v9 := Try.zeroValue9
  t46 := Try.underlying116
  a46 := Try.isAgg116
  z46 := Try.sizeOf116
  v46 := Try.zeroValue116
  t51 := Try.underlying126
  a51 := Try.isAgg126
  z51 := Try.sizeOf126
  v51 := Try.zeroValue126
  t146 := Try.underlying127
  a146 := Try.isAgg127
  z146 := Try.sizeOf127
  v146 := Try.zeroValue127
  g1 := by kernel_rfl }
open Go.RowKit Go.Lib in
theorem Try.stringslite_Index_one (s : ByteArray) (c : UInt8) (w : World) :
    Calls Try.prog 96 #[.string s, .string ⟨#[c]⟩] w fun e w' => e = .returned (.int .i64 (Lib.indexByte s.data.toList c)) ∧ w' = w := Any.stringslite_Index_one Try.lays219 s c w
def Try.lays99_ren : Go.Shelf.Ren := ⟨fun | 99 => 74 | 206 => 89 | n => n, fun | 9 => 9 | 4 => 4 | 3 => 3 | n => n, fun | n => n⟩
theorem Try.lays99 : Go.Proofs.Lays.n99 Try.prog Try.lays99_ren := {
  mixed := by kernel_rfl
  f99 := Try.func74.trans (congrArg some (by kernel_rfl))
  f206 := Try.func89.trans (congrArg some (by kernel_rfl))
  t3 := Try.underlying3
  a3 := Try.isAgg3
  z3 := Try.sizeOf3
  v3 := Try.zeroValue3
  t4 := Try.underlying4
  a4 := Try.isAgg4
  z4 := Try.sizeOf4
  v4 := Try.zeroValue4
  t9 := Try.underlying9
  a9 := Try.isAgg9
  z9 := Try.sizeOf9
  v9 := Try.zeroValue9 }
open Go.RowKit Go.Lib in
theorem Try.strings_HasPrefix (s p : ByteArray) (w : World) :
    Calls Try.prog 74 #[.string s, .string p] w fun e w' => e = .returned (.bool (Lib.hasPrefix s.data.toList p.data.toList)) ∧ w' = w := Any.strings_HasPrefix Try.lays99 s p w
def Try.laysNm216_ren : Go.Shelf.Ren := ⟨fun | 16 => 58 | n => n, fun | 24 => 46 | 9 => 9 | 4 => 4 | n => n, fun | n => n⟩
theorem Try.laysNm216 : Go.Proofs.Lays2.n16 Try.prog Try.laysNm216_ren := {
  mixed := by kernel_rfl
  f16 := Try.func58.trans (congrArg some (by kernel_rfl))
  t4 := Try.underlying4
  a4 := Try.isAgg4
  z4 := Try.sizeOf4
  v4 := Try.zeroValue4
  t9 := Try.underlying9
  a9 := Try.isAgg9
  z9 := Try.sizeOf9
  v9 := Try.zeroValue9
  t24 := Try.underlying46
  a24 := Try.isAgg46
  z24 := Try.sizeOf46
  v24 := Try.zeroValue46
  i9 := by kernel_rfl }
open Go.RowKit Go.Lib in
theorem Try.slices_Clone_string (b off n c : Nat) (zs : List ByteArray) (w : World) (hz : n ≤ zs.length) (hbig : n * 16 ≤ 140737488355328) (hc : ∀ j, j < zs.length → w.cell? ⟨b, off + j, none⟩ = some (.string (zs.getD j ByteArray.empty))) :
    Calls Try.prog 58 #[.slice (some ⟨b, off, none⟩) n c] w fun e w' => ∃ v', e = .returned v' ∧ w'.ownsRow w.heap.size 9 1 v' n ((zs.take n).map (Value.string)) ∧ v' ≠ .slice none 0 0 ∧ Below w.heap.size w w' := Any.slices_Clone_string Try.laysNm216 b off n c zs w hz hbig hc
open Go.RowKit Go.Lib in
theorem Try.slices_Clone_string_nil (n c : Nat) (w : World) :
    Calls Try.prog 58 #[.slice none n c] w fun e w' => e = .returned (.slice none 0 0) ∧ w' = w := Any.slices_Clone_string_nil Try.laysNm216 n c w
open Go.RowKit Go.Lib in
theorem Try.slices_Clone_string_zero (a : Addr) (c : Nat) (w : World) :
    Calls Try.prog 58 #[.slice (some a) 0 c] w fun e w' => ∃ v', e = .returned v' ∧ w'.ownsRow w.heap.size 9 1 v' 0 [] ∧ v' ≠ .slice none 0 0 ∧ Below w.heap.size w w' := Any.slices_Clone_string_zero Try.laysNm216 a c w
end Go.Proofs

/-
  What the leaves answer: whether a byte may stand in a name; a text cut at its first slash; which of two texts stands ahead.
-/

namespace Go.Proofs.Ytpfighkafmammaa.Pth
open Go.RowKit

theorem indexByte_none (c : UInt8) : ∀ l : List UInt8, (∀ x ∈ l, x ≠ c) → Lib.indexByte l c = -1
  | [], _ => rfl
  | b :: l, h => by
    have hb : (b == c) = false := by simpa using h b (List.mem_cons_self ..)
    unfold Lib.indexByte
    rw [hb, indexByte_none c l fun x hx => h x (List.mem_cons_of_mem _ hx)]
    rfl
theorem indexByte_at (c : UInt8) : ∀ p r : List UInt8, (∀ x ∈ p, x ≠ c) → Lib.indexByte (p ++ c :: r) c = (p.length : Int)
  | [], r, _ => by simp [Lib.indexByte]
  | b :: p, r, h => by
    have hb : (b == c) = false := by simpa using h b (List.mem_cons_self ..)
    rw [List.cons_append]
    unfold Lib.indexByte
    rw [hb, indexByte_at c p r fun x hx => h x (List.mem_cons_of_mem _ hx)]
    have : ((p.length : Int) == -1) = false := by simp
    simp [this]

theorem split_at : ∀ l : List UInt8, (∀ x ∈ l, x ≠ 47) ∨ ∃ p r, (∀ x ∈ p, x ≠ 47) ∧ l = p ++ 47 :: r
  | [] => .inl (by intro x hx; cases hx)
  | b :: l => by
    by_cases hb : b = 47
    · exact .inr ⟨[], l, fun x hx => absurd hx List.not_mem_nil, by rw [hb]; rfl⟩
    · rcases split_at l with h | ⟨p, r, h, e⟩
      · refine .inl fun x hx => ?_
        rcases List.mem_cons.1 hx with rfl | hx
        · exact hb
        · exact h x hx
      · refine .inr ⟨b :: p, r, fun x hx => ?_, by rw [e]; rfl⟩
        rcases List.mem_cons.1 hx with rfl | hx
        · exact hb
        · exact h x hx

theorem cut_ex (s : ByteArray) : ∃ P R f, CutAt s P R f := by
  rcases split_at s.data.toList with h | ⟨p, r, h, e⟩
  · exact ⟨_, _, _, .none h⟩
  · exact ⟨_, _, _, .some p r h e⟩

theorem CutAt.pieces {s P R : ByteArray} {f : Bool} (h : CutAt s P R f) : Pt.pieces s.data.toList = if f = true then P.data.toList :: Pt.pieces R.data.toList else [P.data.toList] := by
  cases h with
  | none h => exact Pt.pieces_none _ h
  | some p r h e =>
    rw [if_pos rfl]
    have hl : s.size = p.length + (r.length + 1) := by
      have := congrArg List.length e
      simpa using this
    have e1 : (s.extract 0 p.length).data.toList = p := by rw [extract_list, e]; simp
    have e2 : (s.extract (p.length + 1) s.size).data.toList = r := by
      rw [extract_list, hl, e, List.take_of_length_le (by simp)]
      simp
    rw [e1, e2, e]
    exact Pt.pieces_cut p r h

theorem CutAt.lt {s P R : ByteArray} {f : Bool} (h : CutAt s P R f) (hf : f = true) : R.size < s.size := by
  cases h with
  | none h => cases hf
  | some p r h e =>
    have hl : s.size = p.length + (r.length + 1) := by
      have := congrArg List.length e
      simpa using this
    rw [ByteArray.size_extract]
    omega

set_option maxRecDepth 100000 in
set_option maxHeartbeats 400000 in
theorem cutLite_any (s P R : ByteArray) (f : Bool) (hc : CutAt s P R f) (hs : s.size ≤ maxLen) (w : World) :
    Calls Try.prog 90 #[.string s, .string ⟨#[47]⟩] w fun e w' => e = .returned (.tuple #[.string P, .string R, .bool f]) ∧ ∃ n, w' = w.drewN n := by
  unfold maxLen at hs
  cases hc with
  | none h =>
    have hi := indexByte_none 47 _ h
    have H := hide (Try.stringslite_Index_one s 47)
    rw [hi] at H
    clear h hi
    go_enter Try.func90, Try.ntmps90
    go_wp2_with (go_at_call 96; refine (unhide H _).mono ?_; rintro e w' ⟨rfl, rfl⟩)
    go_ret3
    exact ⟨rfl, 0, rfl⟩
  | some p r h e =>
    have hl : s.size = p.length + (r.length + 1) := by
      have := congrArg List.length e
      simpa using this
    have hi := indexByte_at 47 p r h
    have H := hide (Try.stringslite_Index_one s 47)
    rw [e, hi] at H
    clear h hi e
    generalize p.length = k at *
    have hk1 : k + 1 ≤ s.size := by omega
    clear hl
    go_enter Try.func90, Try.ntmps90
    go_wp2_with (go_at_call 96; refine (unhide H _).mono ?_; rintro e w' ⟨rfl, rfl⟩)
    go_quiet (fail)
    go_wp2
    go_ret3
    exact ⟨rfl, nq, rfl⟩

set_option maxRecDepth 100000 in
theorem cut_any (s P R : ByteArray) (f : Bool) (hc : CutAt s P R f) (hs : s.size ≤ maxLen) (w : World) :
    Calls Try.prog 75 #[.string s, .string ⟨#[47]⟩] w fun e w' => e = .returned (.tuple #[.string P, .string R, .bool f]) ∧ ∃ n, w' = w.drewN n := by
  have H := hide (cutLite_any s P R f hc hs)
  clear hc
  go_enter Try.func75, Try.ntmps75
  go_wp2_with (go_at_call 90; refine (unhide H _).mono ?_; rintro e w' ⟨rfl, n, rfl⟩)
  go_ret3
  exact ⟨rfl, n, rfl⟩

theorem cmpB_lib : ∀ a b : List UInt8, Lib.compareBytes a b = Pt.cmpB a b
  | [], [] => rfl
  | [], _ :: _ => rfl
  | _ :: _, [] => rfl
  | a :: l, b :: m => by
    have ih := cmpB_lib l m
    show Lib.compareBytes (a :: l) (b :: m) = if Pt.cmp8 a b = 0 then Pt.cmpB l m else Pt.cmp8 a b
    unfold Lib.compareBytes Pt.cmp8
    by_cases h : a < b
    · simp [h]
    · by_cases h' : b < a
      · simp [h, h']
      · simp [h, h', ih]

theorem CutAt.ahead {s P R : ByteArray} {f : Bool} (h : CutAt s P R f) : P.size ≤ s.size ∧ R.size ≤ s.size := by
  cases h with
  | none h => exact ⟨Nat.le_refl _, Nat.zero_le _⟩
  | some p r h e => rw [ByteArray.size_extract, ByteArray.size_extract]; omega

theorem cmpT_step {A B P R Q T : ByteArray} {f g : Bool} (ha : CutAt A P R f) (hb : CutAt B Q T g) :
    Pt.cmpT A.data.toList B.data.toList = if Pt.cmpB P.data.toList Q.data.toList = 0 then (if f = true then (if g = true then Pt.cmpT R.data.toList T.data.toList else 1) else (if g = true then -1 else 0)) else Pt.cmpB P.data.toList Q.data.toList := by
  unfold Pt.cmpT
  rw [ha.pieces, hb.pieces]
  obtain ⟨x, l, hx⟩ := Pt.pieces_cons R.data.toList
  obtain ⟨y, m, hy⟩ := Pt.pieces_cons T.data.toList
  cases f <;> cases g <;> simp only [if_true, if_false, Bool.false_eq_true, Pt.cmpP_cons, hx, hy, Pt.cmpP_nil, Pt.cmpP_nil_cons, Pt.cmpP_cons_nil]

def strLen : Value → Nat
  | .string s => s.size
  | _ => 0

set_option maxRecDepth 100000 in
set_option maxHeartbeats 1000000 in
theorem compare_any (a b : ByteArray) (ha : a.size ≤ maxLen) (hb : b.size ≤ maxLen) (w : World) :
    Calls Try.prog 56 #[.string a, .string b] w fun e w' => e = .returned (.int .i64 (Pt.cmpT a.data.toList b.data.toList)) ∧ ∃ n, w' = w.drewN n := by
  obtain ⟨C, hC⟩ : ∃ C, Pt.cmpT a.data.toList b.data.toList = C := ⟨_, rfl⟩
  rw [hC]
  have HC := hide hC
  have HA := hide ha
  have HB := hide hb
  clear hC ha hb
  go_enter Try.func56, Try.ntmps56
  go_wp2_with fail
  go_loopw [0, 1] (fun x y wr => ∃ A B : ByteArray, x = .string A ∧ y = .string B ∧ A.size ≤ maxLen ∧ B.size ≤ maxLen ∧ Pt.cmpT A.data.toList B.data.toList = C ∧ ∃ q, wr = w.drewN q) (fun x _ _ => strLen x)
  case atStart => exact ⟨a, b, rfl, rfl, unhide HA, unhide HB, unhide HC, 0, rfl⟩
  case round =>
    clear HA HB HC
    obtain ⟨A, B, rfl, rfl, hA, hB, hAB, q, rfl⟩ := hrel
    obtain ⟨P, R, f, ca⟩ := cut_ex A
    obtain ⟨Q, T, g, cb⟩ := cut_ex B
    rw [cmpT_step ca cb] at hAB
    have h1 := hide (cut_any A P R f ca hA)
    have h2 := hide (cut_any B Q T g cb hB)
    have hR : Hid (R.size ≤ maxLen) := hide (Nat.le_trans ca.ahead.2 hA)
    have hT : Hid (T.size ≤ maxLen) := hide (Nat.le_trans cb.ahead.2 hB)
    have hlt : Hid (f = true → R.size < A.size) := hide ca.lt
    have h3 := hide (Try.strings_Compare P Q)
    rw [cmpB_lib] at h3
    clear ca cb hA hB
    by_cases h0 : Pt.cmpB P.data.toList Q.data.toList = 0
    · rw [if_pos h0] at hAB
      rw [h0] at h3
      clear h0
      cases f with
      | false =>
        cases g with
        | false =>
          obtain rfl : (0 : Int) = C := hAB
          go_wp2_with fail
          refine (unhide h1 _).mono ?_
          rintro e w1 ⟨rfl, n1, rfl⟩
          go_wp2_with fail
          refine (unhide h2 _).mono ?_
          rintro e w1 ⟨rfl, n2, rfl⟩
          go_wp2_with (go_at_call 76; refine (unhide h3 _).mono ?_; rintro e w' ⟨rfl, rfl⟩)
          go_ret
          exact ⟨rfl, _, rfl⟩
        | true =>
          obtain rfl : (-1 : Int) = C := hAB
          go_wp2_with fail
          refine (unhide h1 _).mono ?_
          rintro e w1 ⟨rfl, n1, rfl⟩
          go_wp2_with fail
          refine (unhide h2 _).mono ?_
          rintro e w1 ⟨rfl, n2, rfl⟩
          go_wp2_with (go_at_call 76; refine (unhide h3 _).mono ?_; rintro e w' ⟨rfl, rfl⟩)
          go_ret
          exact ⟨rfl, _, rfl⟩
      | true =>
        cases g with
        | false =>
          obtain rfl : (1 : Int) = C := hAB
          go_wp2_with fail
          refine (unhide h1 _).mono ?_
          rintro e w1 ⟨rfl, n1, rfl⟩
          go_wp2_with fail
          refine (unhide h2 _).mono ?_
          rintro e w1 ⟨rfl, n2, rfl⟩
          go_wp2_with (go_at_call 76; refine (unhide h3 _).mono ?_; rintro e w' ⟨rfl, rfl⟩)
          go_ret
          exact ⟨rfl, _, rfl⟩
        | true =>
          have HAB : Hid (Pt.cmpT R.data.toList T.data.toList = C) := hAB
          clear hAB
          go_wp2_with fail
          refine (unhide h1 _).mono ?_
          rintro e w1 ⟨rfl, n1, rfl⟩
          go_wp2_with fail
          refine (unhide h2 _).mono ?_
          rintro e w1 ⟨rfl, n2, rfl⟩
          go_wp2_with (go_at_call 76; refine (unhide h3 _).mono ?_; rintro e w' ⟨rfl, rfl⟩)
          go_roundw
          case rel => exact ⟨R, T, rfl, rfl, unhide hR, unhide hT, unhide HAB, _, rfl⟩
          case measure => simp only [strLen]; exact unhide hlt trivial
    · rw [if_neg h0] at hAB
      rw [hAB] at h3 h0
      have hb0 : (C == 0) = false := by simpa using h0
      clear h0 hAB
      go_wp2_with fail
      refine (unhide h1 _).mono ?_
      rintro e w1 ⟨rfl, n1, rfl⟩
      go_wp2_with fail
      refine (unhide h2 _).mono ?_
      rintro e w1 ⟨rfl, n2, rfl⟩
      go_wp2_with (go_at_call 76; refine (unhide h3 _).mono ?_; rintro e w' ⟨rfl, rfl⟩)
      go_ret
      exact ⟨rfl, _, rfl⟩
end Go.Proofs.Ytpfighkafmammaa.Pth
