/-
  What the document's Check and Parts answer, and whether two lists of texts are the same.
-/
import Derived.Test.YtdibhedofbnbfaaRefName
namespace Go.Proofs.Ytdibhedofbnbfaa
open Go.RowKit

theorem pieces_len : ∀ (l p : Pt.Bs), p ∈ Pt.pieces l → p.length ≤ l.length
  | [], p, h => by simp [Pt.pieces] at h; subst h; simp
  | b :: l, p, h => by
    obtain ⟨q, r, e⟩ := Pt.pieces_cons l
    unfold Pt.pieces at h
    split at h
    · rcases List.mem_cons.1 h with rfl | h
      · simp
      · have := pieces_len l p h; simp; omega
    · rw [e] at h
      rcases List.mem_cons.1 h with rfl | h
      · have := pieces_len l q (by rw [e]; exact List.mem_cons_self ..); simp; omega
      · have := pieces_len l p (by rw [e]; exact List.mem_cons_of_mem _ h); simp; omega

theorem piece_size (s : ByteArray) (bs : List ByteArray) (h : lists bs = Pt.pieces s.data.toList) : ∀ x ∈ bs, x.size ≤ s.size := by
  intro x hx
  have := pieces_len s.data.toList x.data.toList (by rw [← h]; exact List.mem_map_of_mem hx)
  exact this

theorem path_lists (s : ByteArray) (bs : List ByteArray) (h : lists bs = Pt.pieces s.data.toList) : Pt.isPath s.data.toList = true ↔ bs.length ≤ 4 ∧ ∀ x ∈ bs, Pt.isName x.data.toList = true := by
  rw [Pt.isPath_iff, ← h, size_lists]
  constructor
  · rintro ⟨a, b⟩; exact ⟨a, fun x hx => b _ (List.mem_map_of_mem hx)⟩
  · rintro ⟨a, b⟩
    refine ⟨a, fun p hp => ?_⟩
    obtain ⟨x, hx, rfl⟩ := List.mem_map.1 hp
    exact b x hx

theorem not_path (s : ByteArray) (h : ¬ Pt.isPath s.data.toList = true) (hs : ¬ 51 < s.size) : Pt.check s.data.toList = 1 := by
  have hsz : s.data.toList.length = s.size := rfl
  unfold Pt.check
  rw [hsz, if_neg hs, if_neg h]

set_option maxRecDepth 100000 in
set_option maxHeartbeats 1000000 in
theorem refCheck_any (s : ByteArray) (hs : s.size ≤ 1000) (w : World) :
    Calls Try.prog 14 #[.string s] w fun e w' => e = .returned (.int .i64 (Pt.check s.data.toList)) ∧ Below w.heap.size w w' := by
  have hsz : s.data.toList.length = s.size := rfl
  obtain ⟨C, hC⟩ : ∃ C, Pt.check s.data.toList = C := ⟨_, rfl⟩
  rw [hC]
  by_cases h51 : 51 < s.size
  · have hC2 : C = 2 := by rw [← hC]; unfold Pt.check; rw [hsz, if_pos h51]
    subst hC2
    clear hC hsz
    go_enter Try.func14, Try.ntmps14
    go_wp2_with fail
    go_ret
    exact ⟨rfl, Below.refl _ _⟩
  · have HP := hide (pieces_any s hs)
    have HN := hide (not_path s)
    have HO := hide (Pt.check_ok s.data.toList)
    have HC := hide hC
    clear hC hsz
    go_enter Try.func14, Try.ntmps14
    go_wp2_with fail
    refine (unhide HP _).mono ?_
    rintro e w1 ⟨g, cap, bs, rfl, hl, hf, hb⟩
    have hb1 : bs.length ≤ 100000 := few_pieces s bs hs hl
    have HL := hide hl
    have HF := hide hf
    have HB := hide hb
    clear hl hf hb HP
    go_wp2_with fail
    go_loopw [4] (fun i wr => ∃ k : Nat, k ≤ bs.length ∧ i = .int .i64 k ∧ (∀ (j : Nat) (x : ByteArray), j < k → bs[j]? = some x → Pt.isName x.data.toList = true) ∧ (0 < k → bs.length ≤ 4) ∧ wr = w1) (fun i _ => bs.length - (intOf i).toNat)
    case atStart => exact ⟨0, Nat.zero_le _, rfl, fun j _ hj => absurd hj (Nat.not_lt_zero _), fun h => absurd h (Nat.not_lt_zero _), rfl⟩
    case round =>
      obtain ⟨k, hk, rfl, hall, hk4, rfl⟩ := hrel
      have HALL := hide hall
      have HK4 := hide hk4
      clear hall hk4
      by_cases hlt : k < bs.length
      · obtain ⟨x, hx⟩ : ∃ x, bs[k]? = some x := ⟨_, List.getElem?_eq_getElem hlt⟩
        have c1 : wr.cell? ⟨g, k, none⟩ = some (.string x) := (unhide HF).cell k x hx
        have hxs := piece_size s bs (unhide HL) x (List.mem_of_getElem? hx)
        have HX := hide hx
        have K1 := hide (refName_any x (by omega))
        clear hx
        cases hn : Pt.isName x.data.toList with
        | false =>
          have hbad : C = 1 := by
            rw [← unhide HC]
            refine unhide HN (fun hp => ?_) h51
            have := ((path_lists s bs (unhide HL)).1 hp).2 x (List.mem_of_getElem? (unhide HX))
            rw [hn] at this
            cases this
          subst hbad
          rw [hn] at K1
          clear hn
          go_wp2_with (go_at_call 12; refine (unhide K1 _).mono ?_; rintro e w2 ⟨rfl, rfl⟩)
          go_ret
          exact ⟨rfl, unhide HB⟩
        | true =>
          by_cases h4 : 4 < bs.length
          · have hbad : C = 1 := by
              rw [← unhide HC]
              refine unhide HN (fun hp => ?_) h51
              have := ((path_lists s bs (unhide HL)).1 hp).1
              omega
            subst hbad
            rw [hn] at K1
            clear hn
            go_wp2_with (go_at_call 12; refine (unhide K1 _).mono ?_; rintro e w2 ⟨rfl, rfl⟩)
            go_ret
            exact ⟨rfl, unhide HB⟩
          · have HALL2 : Hid (∀ (j : Nat) (y : ByteArray), j < k + 1 → bs[j]? = some y → Pt.isName y.data.toList = true) := by
              intro j y hj hy
              by_cases e : j = k
              · subst e
                rw [unhide HX] at hy
                cases hy
                exact hn
              · exact unhide HALL j y (by omega) hy
            rw [hn] at K1
            clear hn
            go_wp2_with (go_at_call 12; refine (unhide K1 _).mono ?_; rintro e w2 ⟨rfl, rfl⟩)
            go_roundw
            case rel => exact ⟨k + 1, by omega, by go_num, unhide HALL2, fun _ => by omega, by first | rfl | trivial⟩
            case measure => simp [intOf]; omega
      · obtain rfl : k = bs.length := by omega
        have hpos : 0 < bs.length := by
          have h1 := congrArg List.length (unhide HL)
          rw [size_lists] at h1
          have := Pt.pieces_pos s.data.toList
          omega
        have hgood : C = 0 := by
          rw [← unhide HC, unhide HO, path_lists s bs (unhide HL)]
          refine ⟨unhide HK4 hpos, fun x hx => ?_⟩
          obtain ⟨j, hj⟩ := List.mem_iff_getElem?.1 hx
          exact unhide HALL j x (List.getElem?_eq_some_iff.1 hj).1 hj
        subst hgood
        go_wp2_with fail
        go_ret
        exact ⟨rfl, unhide HB⟩

/-- A slice of texts, wherever it lies; nothing is asked of one that has none. -/
def Sl (W : World) (a : Option Addr) (bs : List ByteArray) : Prop :=
  0 < bs.length → ∃ g o, a = some ⟨g, o, none⟩ ∧ g < W.heap.size ∧ ∀ (j : Nat) (b : ByteArray), bs[j]? = some b → W.cell? ⟨g, o + j, none⟩ = some (.string b)

theorem Sl.after {W W' : World} {a : Option Addr} {bs : List ByteArray} (h : Sl W a bs) (hb : Below W.heap.size W W') : Sl W' a bs := fun h0 => by
  obtain ⟨g, o, e, hg, hc⟩ := h h0
  exact ⟨g, o, e, Nat.lt_of_lt_of_le hg hb.size, fun j b hj => (hb.cell (p := ⟨g, o + j, none⟩) hg).trans (hc j b hj)⟩
theorem Sl.drewN {W : World} {a : Option Addr} {bs : List ByteArray} (h : Sl W a bs) (n : Nat) : Sl (W.drewN n) a bs := h
theorem Buf.sl {W : World} {base g cap : Nat} {bs : List ByteArray} (h : Buf W base g cap bs) : Sl W (some ⟨g, 0, none⟩) bs := fun _ => ⟨g, 0, rfl, h.lt, fun j b hj => by rw [Nat.zero_add]; exact h.cell j b hj⟩
theorem Sl.none (W : World) (a : Option Addr) : Sl W a [] := fun h => absurd h (Nat.lt_irrefl _)
theorem Sl.take {W : World} {a : Option Addr} {bs : List ByteArray} (h : Sl W a bs) (n : Nat) : Sl W a (bs.take n) := fun h0 => by
  obtain ⟨g, o, e, hg, hc⟩ := h (by rw [List.length_take] at h0; omega)
  refine ⟨g, o, e, hg, fun j b hj => hc j b ?_⟩
  have hl := (List.getElem?_eq_some_iff.1 hj).1
  rw [List.length_take] at hl
  rwa [List.getElem?_take_of_lt (by omega)] at hj

set_option maxRecDepth 100000 in
set_option maxHeartbeats 400000 in
theorem refParts_any (s : ByteArray) (hs : s.size ≤ 1000) (w : World) :
    Calls Try.prog 17 #[.string s] w fun e w' => ∃ a cap bs, e = .returned (.slice a bs.length cap) ∧ lists bs = Pt.parts s.data.toList ∧ bs.length ≤ cap ∧ Sl w' a bs ∧ Below w.heap.size w w' := by
  have K1 := hide (refCheck_any s hs)
  have K2 := hide (pieces_any s hs)
  have HO := hide (Pt.check_ok s.data.toList)
  have HPa := hide (Pt.parts_path s.data.toList)
  have HPn := hide (Pt.parts_none s.data.toList)
  by_cases h0 : Pt.check s.data.toList = 0
  · have HE := hide (unhide HPa ((unhide HO).1 h0))
    rw [h0] at K1
    clear h0
    go_enter Try.func17, Try.ntmps17
    go_wp2_with fail
    refine (unhide K1 _).mono ?_
    rintro e w1 ⟨rfl, hb1⟩
    have HB1 := hide hb1
    clear hb1
    go_wp2_with fail
    refine (unhide K2 _).mono ?_
    rintro e w2 ⟨g, cap, bs, rfl, hl, hf, hb2⟩
    have HL := hide hl
    have HF := hide hf
    have HB2 := hide (below_grow (unhide HB1) (Nat.le_refl _) hb2)
    clear hl hf hb2
    go_wp2_with fail
    go_ret
    exact ⟨_, _, bs, rfl, by rw [unhide HL, unhide HE], (unhide HF).fits, (unhide HF).sl, unhide HB2⟩
  · have hnp : Pt.isPath s.data.toList = false := by
      cases hp : Pt.isPath s.data.toList with
      | false => rfl
      | true => exact absurd ((unhide HO).2 hp) h0
    have HE := hide (unhide HPn hnp)
    have h0b : (Pt.check s.data.toList != 0) = true := bne_iff_ne.2 h0
    generalize Pt.check s.data.toList = C at *
    clear hnp h0
    go_enter Try.func17, Try.ntmps17
    go_wp2_with fail
    refine (unhide K1 _).mono ?_
    rintro e w1 ⟨rfl, hb1⟩
    have HB1 := hide hb1
    clear hb1
    go_wp2_with fail
    go_ret
    exact ⟨none, 0, [], rfl, (unhide HE).symm, Nat.le_refl _, Sl.none _ _, unhide HB1⟩
end Go.Proofs.Ytdibhedofbnbfaa
