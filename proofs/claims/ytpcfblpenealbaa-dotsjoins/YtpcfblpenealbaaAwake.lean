/-
  Chapter 6's examples.
-/
import Derived.Test.YtpcfblpenealbaaAdd
namespace Go.Proofs.Ytpcfblpenealbaa
open Go.RowKit

namespace Vc
theorem ok_small {p c : Int} (h1 : 0 ≤ p) (h2 : p ≤ 63) (h3 : 1 ≤ c) (h4 : c ≤ 1048576) : Ok (p, c) := ⟨h1, h2, h3, h4⟩
theorem ex1_ok : SetOk [] [(1, 2)] := ⟨trivial, ⟨.inl (by decide), trivial⟩, fun d hd => by rw [List.mem_singleton.1 hd]; exact ok_small (by decide) (by decide) (by decide) (by decide), fun d hd => by rw [List.mem_singleton.1 hd]; decide⟩
theorem ex1_in (x : D) : In [] [(1, 2)] x ↔ In [] [] x ∨ x = (1, 2) := by
  unfold In
  simp [look]
theorem ex2_ok : SetOk [(1, 2)] [] := ⟨⟨ok_small (by decide) (by decide) (by decide) (by decide), by decide, trivial⟩, trivial, fun _ h => (by cases h), fun _ h => (by cases h)⟩
theorem ex2_in (x : D) : In [(1, 2)] [] x ↔ In [] [(1, 2)] x ∨ x = (1, 1) := by
  obtain ⟨a, b⟩ := x
  unfold In
  simp only [look, List.mem_singleton, List.not_mem_nil, or_false, Prod.mk.injEq]
  by_cases h : (1 : Int) = a
  · rw [if_pos h]; omega
  · rw [if_neg h]; omega
theorem ex1_gaps : IsGaps [] [(1, 2)] 5 [(1, 1)] := by
  refine ⟨⟨(64, 1), ⟨⟨.inl (by decide), trivial⟩, fun x => ?_⟩, .inr fun x hx => ref_end ex1_ok x hx⟩, by decide⟩
  obtain ⟨a, b⟩ := x
  constructor
  · intro h
    rw [List.mem_singleton.1 h]
    refine ⟨⟨by decide, ?_, (1, 2), .inr (by simp), rfl, by decide⟩, .inl (by decide)⟩
    rintro (⟨_, h⟩ | h)
    · exact absurd h (by decide)
    · simp at h
  · rintro ⟨h, _⟩
    obtain ⟨y, hy, e, hl⟩ := h.there
    rw [List.mem_singleton.1 hy] at e hl
    have h1 := h.1
    dsimp only at e hl h1
    rw [List.mem_singleton]
    exact d_eq e.symm (by show b = 1; omega)
theorem check_nil : checkS [] [] = 0 := by decide
end Vc

set_option maxRecDepth 100000 in
set_option maxHeartbeats 2000000 in
theorem awake_any (w : World) : Calls Try.prog 9 #[] w fun e w' => e = .returned (.bool true) ∧ Below w.heap.size w w' := by
  have K1 := hide fun W => add_any none none 0 0 [] [] (by simp) (by simp) (by simp) 1 2 W (Sl.none _ _) (Sl.none _ _)
  go_enter Try.func9, Try.ntmps9
  go_wp2_with fail
  refine (unhide K1 _).mono ?_
  rintro e w1 ⟨v, B, E, is, rfl, ⟨r1, c1, r2, c2, rfl, hc1, hc2, s1, s2⟩, hb1, _, hgood, _⟩
  obtain ⟨hs, hin, his⟩ := hgood ⟨Vc.check_nil, by decide⟩
  obtain ⟨rfl, rfl⟩ := Vc.set_ext hs Vc.ex1_ok fun x => (hin x).trans (Vc.ex1_in x).symm
  obtain rfl : is = true := his.2 (Vc.in_nil _)
  clear hgood hs hin his
  have hw1 := hb1.size
  have HB := hide hb1
  have S1 := hide s1
  have S2 := hide s2
  clear hb1 s1 s2
  go_wp2_with (refine store_row (by rfl) 29 _ _ (by rfl) w1.heap.size [.slice r1 ([] : List Vc.D).length c1, .slice r2 [((1 : Int), (2 : Int))].length c2] (by rfl) (by rfl) 29 [.slice none 0 0, .slice none 0 0] (VRow.newAt rfl) 2 size29 rfl rfl (two_one _ _ _ _ _ _) ?_; intro w2 ho hr; have hbw := (below_alloc' (w := w1) (.cells #[.slice none 0 0, .slice none 0 0] 29)).trans (ho.below (Nat.le_refl _)); replace HB := hide (below_grow (unhide HB) (Nat.le_refl _) hbw); replace S1 := hide ((unhide S1).after hbw); replace S2 := hide ((unhide S2).after hbw); have R := hide hr; have k0 := hr.cell 0 _ rfl; have k1 := hr.cell 1 _ rfl; clear ho hr hbw)
  have K2 := hide fun W h h' => gapsS_any r1 r2 c1 c2 [] [((1 : Int), (2 : Int))] (by simp) (by simp) 5 (by decide) W h h'
  have K3 := hide fun W h h' => add_any r1 r2 c1 c2 [] [((1 : Int), (2 : Int))] (by simp) (by simp) hc2 1 1 W h h'
  refine (unhide K2 _ (unhide S1) (unhide S2)).mono ?_
  rintro e w3 ⟨P, rg, cg, rfl, _, _, hb, _, hP, _⟩
  obtain rfl := Vc.gaps_one (hP ((Vc.checkS_zero _ _).2 Vc.ex1_ok)) Vc.ex1_gaps
  replace HB := hide (below_grow (unhide HB) (Nat.le_refl _) hb)
  replace S1 := hide ((unhide S1).after hb)
  replace S2 := hide ((unhide S2).after hb)
  replace R := hide ((unhide R).after hb)
  clear hb hP k0 k1
  have k0 := (unhide R).cell 0 _ rfl
  have k1 := (unhide R).cell 1 _ rfl
  go_wp2_with fail
  refine (unhide K3 _ (unhide S1) (unhide S2)).mono ?_
  rintro e w4 ⟨v, B, E, is, rfl, ⟨q1, d1, q2, d2, rfl, hd1, hd2, t1, t2⟩, hb4, _, hgood, _⟩
  obtain ⟨hs, hin, his⟩ := hgood ⟨(Vc.checkS_zero _ _).2 Vc.ex1_ok, by decide⟩
  obtain ⟨rfl, rfl⟩ := Vc.set_ext hs Vc.ex2_ok fun x => (hin x).trans (Vc.ex2_in x).symm
  obtain rfl : is = true := his.2 (by decide)
  replace HB := hide (below_grow (unhide HB) (Nat.le_refl _) hb4)
  replace R := hide ((unhide R).after hb4)
  obtain ⟨g, o, rfl, _⟩ := id t1 (by simp)
  have T1 := hide t1
  have T2 := hide t2
  have K4 := hide fun W h h' => setLen_any (some ⟨g, o, none⟩) q2 d1 d2 [((1 : Int), (2 : Int))] [] (by simp) (by simp) W h h'
  rw [show Vc.lenS [((1 : Int), (2 : Int))] [] = 2 by decide] at K4
  clear hgood hs hin his hb4 k0 k1 t1 t2 S1 S2
  go_wp2_with (refine store_row (by rfl) 29 _ _ (by rfl) w1.heap.size [.slice (some ⟨g, o, none⟩) [((1 : Int), (2 : Int))].length d1, .slice q2 ([] : List Vc.D).length d2] (by rfl) (by rfl) 29 _ (unhide R) 2 size29 rfl rfl (two_one _ _ _ _ _ _) ?_; intro w5 ho hr; replace HB := hide ((unhide HB).trans (ho.below hw1)); replace T1 := hide ((unhide T1).only (unhide R) (two_slices _ _ _ _ _ _) ho); replace T2 := hide ((unhide T2).only (unhide R) (two_slices _ _ _ _ _ _) ho); have R5 := hide hr; have k0 := hr.cell 0 _ rfl; have k1 := hr.cell 1 _ rfl; have y1 : w5.cell? ⟨g, o + 1, none⟩ = some (.int .i64 2) := (by obtain ⟨_, _, e, _, hc⟩ := unhide T1 (by simp); cases e; exact (hc 0 _ rfl).2); clear ho hr)
  refine (unhide K4 _ (unhide T1) (unhide T2)).mono ?_
  rintro e w6 ⟨rfl, hb⟩
  replace HB := hide (below_grow (unhide HB) (Nat.le_refl _) hb)
  clear hb
  go_wp2_with fail
  go_ret
  exact ⟨rfl, unhide HB⟩
end Go.Proofs.Ytpcfblpenealbaa
