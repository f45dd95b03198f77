/-
  What the document's Within and Compare answer.
-/
import Derived.Test.YtbgpdiinkkgieaaHas
namespace Go.Proofs.Ytbgpdiinkkgieaa
open Go.RowKit

theorem has_vec {xs ys : List Vc.D} (hx : Vc.Up (-1) xs) (hy : Vc.Up (-1) ys) (k : Nat) (d : Vc.D) (h : xs[k]? = some d) : has ys d = decide (d.2 ≤ Vc.look ys d.1) := by
  have hok := Vc.mem_ok hx (List.mem_of_getElem? h)
  unfold has
  rw [decide_eq_true hok.2.2.1, Bool.true_and, Vc.get_vec hy]
theorem refWithin_not {xs ys : List Vc.D} (h : ¬ (Vc.check xs = 0 ∧ Vc.check ys = 0)) : Vc.within xs ys = false := by
  cases hw : Vc.within xs ys with
  | false => rfl
  | true =>
    have := (Vc.within_iff xs ys).1 hw
    exact absurd ⟨(Vc.check_zero xs).2 this.1, (Vc.check_zero ys).2 this.2.1⟩ h

set_option maxRecDepth 100000 in
set_option maxHeartbeats 1000000 in
theorem refWithin_any (a b : Option Addr) (ca cb : Nat) (xs ys : List Vc.D) (hx : xs.length ≤ 9223372036854775807) (hy : ys.length ≤ 9223372036854775807) (w : World) (sa : Sl w a xs) (sb : Sl w b ys) :
    Calls Try.prog 22 #[.slice a xs.length ca, .slice b ys.length cb] w fun e w' => e = .returned (.bool (Vc.within xs ys)) ∧ Below w.heap.size w w' := by
  have K1 := hide (refCheck_any a ca xs hx w sa)
  have K2 := hide fun w' (h : Sl w' b ys) => refCheck_any b cb ys hy w' h
  have KH := hide fun p c w' (h : Sl w' b ys) => refHas_any b cb ys hy p c w' h
  have HSA := hide sa
  have HSB := hide sb
  clear sa sb hy
  by_cases hz : Vc.check xs = 0
  · by_cases hz2 : Vc.check ys = 0
    · have ua := (Vc.check_zero xs).1 hz
      have ub := (Vc.check_zero ys).1 hz2
      have HM := hide (Vc.within_mem ua ub)
      have HV := hide fun k d h => has_vec ua ub k d h
      rw [hz] at K1
      rw [hz2] at K2
      generalize Vc.within xs ys = R at HM ⊢
      clear hz hz2 ua ub
      go_enter Try.func22, Try.ntmps22
      go_wp2_with fail
      refine (unhide K1).mono ?_
      rintro e w1 ⟨rfl, hb1⟩
      have HB1 := hide hb1
      have HS1 := hide ((unhide HSB).after hb1)
      clear hb1
      go_wp2_with fail
      refine (unhide K2 _ (unhide HS1)).mono ?_
      rintro e w2 ⟨rfl, hb2⟩
      have HB2 := hide (below_grow (unhide HB1) (Nat.le_refl _) hb2)
      clear hb2
      go_wp2_with fail
      go_loopw [5] (fun i wr => ∃ k : Nat, k ≤ xs.length ∧ i = .int .i64 k ∧ (∀ (j : Nat) (d : Vc.D), j < k → xs[j]? = some d → d.2 ≤ Vc.look ys d.1) ∧ Below w.heap.size w wr) (fun i _ => xs.length - (intOf i).toNat)
      case atStart => exact ⟨0, Nat.zero_le _, rfl, fun j _ hj => absurd hj (Nat.not_lt_zero _), unhide HB2⟩
      case round =>
        obtain ⟨k, hk, rfl, hall, hb⟩ := hrel
        have HALL := hide hall
        have HB := hide hb
        clear hall hb
        by_cases hlt : k < xs.length
        · obtain ⟨⟨p, c⟩, hd⟩ : ∃ d, xs[k]? = some d := ⟨_, List.getElem?_eq_getElem hlt⟩
          obtain ⟨g, o, rfl, hg, hcell⟩ := unhide HSA (by omega)
          have c0 : wr.cell? ⟨g, o + k * 2, none⟩ = some (.int .i64 p) := ((unhide HB).cell (p := ⟨g, o + k * 2, none⟩) hg).trans (hcell k _ hd).1
          have c1 : wr.cell? ⟨g, o + k * 2 + 1, none⟩ = some (.int .i64 c) := ((unhide HB).cell (p := ⟨g, o + k * 2 + 1, none⟩) hg).trans (hcell k _ hd).2
          have KH1 := hide (unhide KH p c wr ((unhide HSB).after (unhide HB)))
          rw [unhide HV k (p, c) hd] at KH1
          have HD := hide hd
          clear hd hg hcell
          by_cases hle : c ≤ Vc.look ys p
          · rw [decide_eq_true (show (p, c).2 ≤ Vc.look ys (p, c).1 from hle)] at KH1
            have HALL2 : Hid (∀ (j : Nat) (d : Vc.D), j < k + 1 → xs[j]? = some d → d.2 ≤ Vc.look ys d.1) := by
              intro j d hj hx
              by_cases e : j = k
              · subst e
                rw [unhide HD] at hx
                cases hx
                exact hle
              · exact unhide HALL j d (by omega) hx
            clear hle
            go_wp2_with (go_at_call 20; refine (unhide KH1).mono ?_; rintro e w3 ⟨rfl, hb3⟩; have HB3 := hide (below_grow (unhide HB) (Nat.le_refl _) hb3); clear hb3)
            go_roundw
            case rel => exact ⟨k + 1, by omega, by go_num, unhide HALL2, unhide HB3⟩
            case measure => simp [intOf]; omega
          · rw [decide_eq_false (show ¬ (p, c).2 ≤ Vc.look ys (p, c).1 from hle)] at KH1
            obtain rfl : R = false := by
              cases R with
              | false => rfl
              | true => exact absurd ((unhide HM).1 rfl (p, c) (List.mem_of_getElem? (unhide HD))) hle
            clear hle
            go_wp2_with (go_at_call 20; refine (unhide KH1).mono ?_; rintro e w3 ⟨rfl, hb3⟩; have HB3 := hide (below_grow (unhide HB) (Nat.le_refl _) hb3); clear hb3)
            go_ret
            exact ⟨rfl, unhide HB3⟩
        · obtain rfl : R = true := by
            rw [unhide HM]
            intro d hd
            obtain ⟨j, hj⟩ := List.mem_iff_getElem?.1 hd
            exact unhide HALL j d (by have := (List.getElem?_eq_some_iff.1 hj).1; omega) hj
          go_wp2_with fail
          go_ret
          exact ⟨rfl, unhide HB⟩
    · rw [refWithin_not (fun h => hz2 h.2)]
      rw [hz] at K1
      have hzb : (Vc.check ys != 0) = true := bne_iff_ne.2 hz2
      generalize Vc.check ys = C at *
      clear hz hz2
      go_enter Try.func22, Try.ntmps22
      go_wp2_with fail
      refine (unhide K1).mono ?_
      rintro e w1 ⟨rfl, hb1⟩
      have HB1 := hide hb1
      have HS1 := hide ((unhide HSB).after hb1)
      clear hb1
      go_wp2_with fail
      refine (unhide K2 _ (unhide HS1)).mono ?_
      rintro e w2 ⟨rfl, hb2⟩
      have HB2 := hide (below_grow (unhide HB1) (Nat.le_refl _) hb2)
      clear hb2
      go_wp2_with fail
      go_ret
      exact ⟨rfl, unhide HB2⟩
  · rw [refWithin_not (fun h => hz h.1)]
    have hzb : (Vc.check xs != 0) = true := bne_iff_ne.2 hz
    generalize Vc.check xs = C at *
    clear hz
    go_enter Try.func22, Try.ntmps22
    go_wp2_with fail
    refine (unhide K1).mono ?_
    rintro e w1 ⟨rfl, hb1⟩
    have HB1 := hide hb1
    clear hb1
    go_wp2_with fail
    go_ret
    exact ⟨rfl, unhide HB1⟩

end Go.Proofs.Ytbgpdiinkkgieaa
