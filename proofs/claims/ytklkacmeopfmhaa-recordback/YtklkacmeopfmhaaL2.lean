/-
  The walk of the statement that what is put is taken again, and that bytes that are taken are those that are put. Conditions: those that each theorem names.
-/
import Derived.Test.YtklkacmeopfmhaaL1
import Derived.Test.YtklkacmeopfmhaaMathB
namespace Go.Proofs.Ytklkacmeopfmhaa
open Go.RowKit

theorem told_ok (b : List UInt8) : told (b, 0) = b := rfl
theorem leaf_told {vs : List Vc.V} {T : List UInt8} {E : Int} (h : wLeaf ([], 0) vs = (T, E)) (he : E = 0) : Vc.checkLeaf vs = 0 ∧ T = encLeaf vs := by
  have hc := wLeaf_check (l := vs) (st := ([], 0)) (by rw [h]; exact he)
  rw [wLeaf_enc [] hc] at h
  injection h with h1 h2
  exact ⟨hc, by rw [← h1, List.nil_append]⟩
theorem vec_told {ds : List Vc.D} {T : List UInt8} {E : Int} (h : wVec ([], 0) ds = (T, E)) (he : E = 0) : Vc.check ds = 0 ∧ T = encVec ds := by
  have hc := wVec_check (ds := ds) (st := ([], 0)) (by rw [h]; exact he)
  rw [wVec_enc [] hc] at h
  injection h with h1 h2
  exact ⟨hc, by rw [← h1, List.nil_append]⟩
theorem leaf_size {vs : List Vc.V} (h : Vc.checkLeaf vs = 0) : (encLeaf vs).length ≤ 46000 := by
  have := wLeaf_len ([], 0) vs
  rw [wLeaf_enc [] h, List.nil_append] at this
  simpa using this
theorem vec_size {ds : List Vc.D} (h : Vc.check ds = 0) : (encVec ds).length ≤ 645 := by
  have := wVec_len ([], 0) ds
  rw [wVec_enc [] h, List.nil_append] at this
  simpa using this

set_option maxRecDepth 100000 in
set_option maxHeartbeats 2000000 in
theorem back_walk (a0 : Option Addr) (cap0 : Nat) (vs : List Vc.V) (_ : vs.length ≤ cap0) (hm : Short vs) (a1 : Option Addr) (cap1 : Nat) (ds : List Vc.D) (_ : ds.length ≤ cap1) (s : ByteArray) (_ : s.size ≤ 9223372036854775807) (w : World) (s0 : SV w a0 vs) (s1 : Sl w a1 ds) :
    Calls Try.prog 6 #[.slice a0 vs.length cap0, .slice a1 ds.length cap1, .string s] w fun e w' => e = .returned (.bool true) ∧ Below w.heap.size w w' := by
  have KG := hide (great1 w a0 cap0 vs s0)
  have HB := hide (below_alloc' (w := w) (.cells #[.slice a0 vs.length cap0] 28))
  have S0 := hide (s0.after (unhide HB))
  have S1 := hide (s1.after (unhide HB))
  have HM := hide hm
  clear s0 s1 hm
  by_cases h90 : 90 < ds.length
  · have hd : decide ((90 : Int) < (ds.length : Int)) = true := decide_eq_true (by omega)
    go_enter Try.func6, Try.ntmps6
    go_wp2_with fail
    refine (unhide KG).mono ?_
    rintro e w0 ⟨B, rfl, hw, _⟩
    rw [← hw] at HB
    clear hw KG S0 S1
    cases B
    all_goals
      go_wp2_with fail
      refine (awake_any _).mono ?_
      rintro e w9 ⟨rfl, hb⟩
      replace HB := hide (below_grow (unhide HB) (Nat.le_refl _) hb)
      clear hb
      go_wp2_with fail
      go_ret
      exact ⟨rfl, unhide HB⟩
  · have hd : decide ((90 : Int) < (ds.length : Int)) = false := decide_eq_false (by omega)
    by_cases h5 : 5000 < s.size
    · have hd5 : decide ((5000 : Int) < (s.size : Int)) = true := decide_eq_true (by omega)
      go_enter Try.func6, Try.ntmps6
      go_wp2_with fail
      refine (unhide KG).mono ?_
      rintro e w0 ⟨B, rfl, hw, _⟩
      rw [← hw] at HB
      clear hw KG S0 S1
      cases B
      all_goals
        go_wp2_with fail
        refine (awake_any _).mono ?_
        rintro e w9 ⟨rfl, hb⟩
        replace HB := hide (below_grow (unhide HB) (Nat.le_refl _) hb)
        clear hb
        go_wp2_with fail
        go_ret
        exact ⟨rfl, unhide HB⟩
    · have hd5 : decide ((5000 : Int) < (s.size : Int)) = false := decide_eq_false (by omega)
      have HDL : Hid (ds.length ≤ 9223372036854775807) := hide (by omega)
      have K9 := hide fun W h => vec_any a1 cap1 ds (by omega) W h
      have K3 := hide fun W => leafOf_any s (by omega) W
      have HF3 := hide (ofLeaf_few s.data.toList)
      obtain ⟨⟨X3, x3⟩, hX3⟩ : ∃ X3, ofLeaf s.data.toList = X3 := ⟨_, rfl⟩
      have HONE : Hid (x3 = 0 → Vc.checkLeaf X3 = 0 ∧ encLeaf X3 = s.data.toList) := hide fun e => by
        have h1 := ofLeaf_one (s := s.data.toList) (by rw [hX3]; exact e)
        rw [hX3] at h1
        exact h1
      rw [hX3] at K3 HF3
      dsimp only at HF3
      have K4 : Hid (x3 = 0 → ∀ W {b : Option Addr} {d : Nat}, SV W b X3 → Calls Try.prog 12 #[.slice b X3.length d] W fun e w' => e = .returned (.tuple #[.string s, .int .i64 0]) ∧ Below W.heap.size W w') := hide fun e W b d h => by
        obtain ⟨h1, h2⟩ := unhide HONE e
        have h3 := leafB_any b d X3 (unhide HF3) W h
        rw [wLeaf_enc [] h1, List.nil_append, told_ok, h2, str_of] at h3
        exact h3
      obtain ⟨⟨T1, E1⟩, hT1⟩ : ∃ X, wVec ([], 0) ds = X := ⟨_, rfl⟩
      rw [hT1] at K9
      have KV : Hid (E1 = 0 → ∀ W, Calls Try.prog 14 #[.string (str (told (T1, E1)))] W (VecOfMade W (ds, 0))) := hide fun e W => by
        obtain ⟨h1, h2⟩ := vec_told hT1 e
        subst e
        rw [told_ok, h2]
        have h3 := vecOf_any (str (encVec ds)) (by rw [str_size]; have := vec_size h1; omega) W
        rw [str_data, ofVec_back h1] at h3
        exact h3
      have KLF : Hid (∀ _ : Few vs, ∃ T0 E0, (∀ W, SV W a0 vs → Calls Try.prog 12 #[.slice a0 vs.length cap0] W fun e w' => e = .returned (.tuple #[.string (str (told (T0, E0))), .int .i64 E0]) ∧ Below W.heap.size W w') ∧ (E0 = 0 → ∀ W, Calls Try.prog 16 #[.string (str (told (T0, E0)))] W (LeafOfMade W (vs, 0)))) := hide fun hf => by
        obtain ⟨⟨T0, E0⟩, hT0⟩ : ∃ X, wLeaf ([], 0) vs = X := ⟨_, rfl⟩
        refine ⟨T0, E0, fun W h => ?_, fun e W => ?_⟩
        · have h1 := leafB_any a0 cap0 vs hf W h
          rw [hT0] at h1
          exact h1
        · obtain ⟨h1, h2⟩ := leaf_told hT0 e
          subst e
          rw [told_ok, h2]
          have h3 := leafOf_any (str (encLeaf vs)) (by rw [str_size]; have := leaf_size h1; omega) W
          rw [str_data, ofLeaf_back h1] at h3
          exact h3
      generalize str (told (T1, E1)) = U1 at K9 KV
      dsimp only at K9
      clear hX3 hT1 HONE
      go_enter Try.func6, Try.ntmps6
      go_wp2_with fail
      refine (unhide KG).mono ?_
      rintro e w0 ⟨B, rfl, hw, hG⟩
      rw [← hw] at HB S0 S1
      clear hw KG
      cases B with
      | true =>
        go_wp2_with fail
        refine (awake_any _).mono ?_
        rintro e w9 ⟨rfl, hb⟩
        replace HB := hide (below_grow (unhide HB) (Nat.le_refl _) hb)
        clear hb
        go_wp2_with fail
        go_ret
        exact ⟨rfl, unhide HB⟩
      | false =>
        have hf := (unhide HM).few (hG rfl)
        have HF := hide hf
        obtain ⟨T0, E0, k12, kl⟩ := unhide KLF hf
        generalize str (told (T0, E0)) = U0 at k12 kl
        have K12 := hide k12
        have KL := hide kl
        clear hf hG k12 kl
        by_cases hE : E0 = 0
        · subst hE
          go_wp2_with fail
          refine (unhide K12 _ (unhide S0)).mono ?_
          rintro e w1 ⟨rfl, hb⟩
          replace HB := hide (below_grow (unhide HB) (Nat.le_refl _) hb)
          replace S0 := hide ((unhide S0).after hb)
          replace S1 := hide ((unhide S1).after hb)
          clear hb
          go_wp2_with fail
          refine (unhide KL (by trivial) _).mono ?_
          rintro e w2 ⟨b1, d1, rfl, _, hx, hb⟩
          have HX := hide hx
          replace HB := hide (below_grow (unhide HB) (Nat.le_refl _) hb)
          replace S0 := hide ((unhide S0).after hb)
          replace S1 := hide ((unhide S1).after hb)
          clear hb hx
          dsimp only
          go_wp2_with fail
          refine (refSameVs_any b1 a0 d1 cap0 vs vs (unhide HF) (unhide HF) _ (unhide HX) (unhide S0) true (by simp)).mono ?_
          rintro e w3 ⟨rfl, hb⟩
          replace HB := hide (below_grow (unhide HB) (Nat.le_refl _) hb)
          replace S0 := hide ((unhide S0).after hb)
          replace S1 := hide ((unhide S1).after hb)
          clear hb HX
          by_cases hE : E1 = 0
          · subst hE
            go_wp2_with fail
            refine (unhide K9 _ (unhide S1)).mono ?_
            rintro e w4 ⟨rfl, hb⟩
            replace HB := hide (below_grow (unhide HB) (Nat.le_refl _) hb)
            replace S0 := hide ((unhide S0).after hb)
            replace S1 := hide ((unhide S1).after hb)
            clear hb
            go_wp2_with fail
            refine (unhide KV (by trivial) _).mono ?_
            rintro e w5 ⟨b2, d2, rfl, _, hx, hb⟩
            have HX := hide hx
            replace HB := hide (below_grow (unhide HB) (Nat.le_refl _) hb)
            replace S0 := hide ((unhide S0).after hb)
            replace S1 := hide ((unhide S1).after hb)
            clear hb hx
            dsimp only
            go_wp2_with fail
            refine (refSame_any b2 a1 d2 cap1 ds ds (unhide HDL) _ (unhide HX) (unhide S1) true (by simp)).mono ?_
            rintro e w6 ⟨rfl, hb⟩
            replace HB := hide (below_grow (unhide HB) (Nat.le_refl _) hb)
            replace S0 := hide ((unhide S0).after hb)
            replace S1 := hide ((unhide S1).after hb)
            clear hb HX
            go_wp2_with fail
            refine (unhide K3 _).mono ?_
            rintro e w7 ⟨b3, d3, rfl, _, hx, hb⟩
            have HX := hide hx
            replace HB := hide (below_grow (unhide HB) (Nat.le_refl _) hb)
            clear hb hx
            dsimp only
            by_cases hE : x3 = 0
            · subst hE
              go_wp2_with fail
              refine (unhide K4 (by trivial) _ (unhide HX)).mono ?_
              rintro e w8 ⟨rfl, hb⟩
              replace HB := hide (below_grow (unhide HB) (Nat.le_refl _) hb)
              clear hb
              go_wp2_with fail
              refine (awake_any _).mono ?_
              rintro e w9 ⟨rfl, hb⟩
              replace HB := hide (below_grow (unhide HB) (Nat.le_refl _) hb)
              clear hb
              go_wp2_with fail
              go_ret
              exact ⟨rfl, unhide HB⟩
            · have hE2 : (x3 == 0) = false := by simp [hE]
              go_wp2_with fail
              refine (awake_any _).mono ?_
              rintro e w9 ⟨rfl, hb⟩
              replace HB := hide (below_grow (unhide HB) (Nat.le_refl _) hb)
              clear hb
              go_wp2_with fail
              go_ret
              exact ⟨rfl, unhide HB⟩
          · have hE2 : (E1 == 0) = false := by simp [hE]
            go_wp2_with fail
            refine (unhide K9 _ (unhide S1)).mono ?_
            rintro e w4 ⟨rfl, hb⟩
            replace HB := hide (below_grow (unhide HB) (Nat.le_refl _) hb)
            replace S0 := hide ((unhide S0).after hb)
            replace S1 := hide ((unhide S1).after hb)
            clear hb
            go_wp2_with fail
            refine (unhide K3 _).mono ?_
            rintro e w7 ⟨b3, d3, rfl, _, hx, hb⟩
            have HX := hide hx
            replace HB := hide (below_grow (unhide HB) (Nat.le_refl _) hb)
            clear hb hx
            dsimp only
            by_cases hE : x3 = 0
            · subst hE
              go_wp2_with fail
              refine (unhide K4 (by trivial) _ (unhide HX)).mono ?_
              rintro e w8 ⟨rfl, hb⟩
              replace HB := hide (below_grow (unhide HB) (Nat.le_refl _) hb)
              clear hb
              go_wp2_with fail
              refine (awake_any _).mono ?_
              rintro e w9 ⟨rfl, hb⟩
              replace HB := hide (below_grow (unhide HB) (Nat.le_refl _) hb)
              clear hb
              go_wp2_with fail
              go_ret
              exact ⟨rfl, unhide HB⟩
            · have hE2 : (x3 == 0) = false := by simp [hE]
              go_wp2_with fail
              refine (awake_any _).mono ?_
              rintro e w9 ⟨rfl, hb⟩
              replace HB := hide (below_grow (unhide HB) (Nat.le_refl _) hb)
              clear hb
              go_wp2_with fail
              go_ret
              exact ⟨rfl, unhide HB⟩
        · have hE2 : (E0 == 0) = false := by simp [hE]
          go_wp2_with fail
          refine (unhide K12 _ (unhide S0)).mono ?_
          rintro e w1 ⟨rfl, hb⟩
          replace HB := hide (below_grow (unhide HB) (Nat.le_refl _) hb)
          replace S0 := hide ((unhide S0).after hb)
          replace S1 := hide ((unhide S1).after hb)
          clear hb
          by_cases hE : E1 = 0
          · subst hE
            go_wp2_with fail
            refine (unhide K9 _ (unhide S1)).mono ?_
            rintro e w4 ⟨rfl, hb⟩
            replace HB := hide (below_grow (unhide HB) (Nat.le_refl _) hb)
            replace S0 := hide ((unhide S0).after hb)
            replace S1 := hide ((unhide S1).after hb)
            clear hb
            go_wp2_with fail
            refine (unhide KV (by trivial) _).mono ?_
            rintro e w5 ⟨b2, d2, rfl, _, hx, hb⟩
            have HX := hide hx
            replace HB := hide (below_grow (unhide HB) (Nat.le_refl _) hb)
            replace S0 := hide ((unhide S0).after hb)
            replace S1 := hide ((unhide S1).after hb)
            clear hb hx
            dsimp only
            go_wp2_with fail
            refine (refSame_any b2 a1 d2 cap1 ds ds (unhide HDL) _ (unhide HX) (unhide S1) true (by simp)).mono ?_
            rintro e w6 ⟨rfl, hb⟩
            replace HB := hide (below_grow (unhide HB) (Nat.le_refl _) hb)
            replace S0 := hide ((unhide S0).after hb)
            replace S1 := hide ((unhide S1).after hb)
            clear hb HX
            go_wp2_with fail
            refine (unhide K3 _).mono ?_
            rintro e w7 ⟨b3, d3, rfl, _, hx, hb⟩
            have HX := hide hx
            replace HB := hide (below_grow (unhide HB) (Nat.le_refl _) hb)
            clear hb hx
            dsimp only
            by_cases hE : x3 = 0
            · subst hE
              go_wp2_with fail
              refine (unhide K4 (by trivial) _ (unhide HX)).mono ?_
              rintro e w8 ⟨rfl, hb⟩
              replace HB := hide (below_grow (unhide HB) (Nat.le_refl _) hb)
              clear hb
              go_wp2_with fail
              refine (awake_any _).mono ?_
              rintro e w9 ⟨rfl, hb⟩
              replace HB := hide (below_grow (unhide HB) (Nat.le_refl _) hb)
              clear hb
              go_wp2_with fail
              go_ret
              exact ⟨rfl, unhide HB⟩
            · have hE2 : (x3 == 0) = false := by simp [hE]
              go_wp2_with fail
              refine (awake_any _).mono ?_
              rintro e w9 ⟨rfl, hb⟩
              replace HB := hide (below_grow (unhide HB) (Nat.le_refl _) hb)
              clear hb
              go_wp2_with fail
              go_ret
              exact ⟨rfl, unhide HB⟩
          · have hE2 : (E1 == 0) = false := by simp [hE]
            go_wp2_with fail
            refine (unhide K9 _ (unhide S1)).mono ?_
            rintro e w4 ⟨rfl, hb⟩
            replace HB := hide (below_grow (unhide HB) (Nat.le_refl _) hb)
            replace S0 := hide ((unhide S0).after hb)
            replace S1 := hide ((unhide S1).after hb)
            clear hb
            go_wp2_with fail
            refine (unhide K3 _).mono ?_
            rintro e w7 ⟨b3, d3, rfl, _, hx, hb⟩
            have HX := hide hx
            replace HB := hide (below_grow (unhide HB) (Nat.le_refl _) hb)
            clear hb hx
            dsimp only
            by_cases hE : x3 = 0
            · subst hE
              go_wp2_with fail
              refine (unhide K4 (by trivial) _ (unhide HX)).mono ?_
              rintro e w8 ⟨rfl, hb⟩
              replace HB := hide (below_grow (unhide HB) (Nat.le_refl _) hb)
              clear hb
              go_wp2_with fail
              refine (awake_any _).mono ?_
              rintro e w9 ⟨rfl, hb⟩
              replace HB := hide (below_grow (unhide HB) (Nat.le_refl _) hb)
              clear hb
              go_wp2_with fail
              go_ret
              exact ⟨rfl, unhide HB⟩
            · have hE2 : (x3 == 0) = false := by simp [hE]
              go_wp2_with fail
              refine (awake_any _).mono ?_
              rintro e w9 ⟨rfl, hb⟩
              replace HB := hide (below_grow (unhide HB) (Nat.le_refl _) hb)
              clear hb
              go_wp2_with fail
              go_ret
              exact ⟨rfl, unhide HB⟩
end Go.Proofs.Ytklkacmeopfmhaa
