/-
  What Sync answers: the walk of the document's.
-/
import Derived.Test.YtbghekolfcakeaaRefSync
namespace Go.Proofs.Ytbghekolfcakeaa
open Go.RowKit

theorem few_append {a b : List Vc.V} (ha : a.length ≤ 64) (hb : b.length ≤ 64) (fa : Few a) (fb : Few b) : Few (a ++ b) := ⟨by rw [List.length_append]; omega, fun v hv => (List.mem_append.1 hv).elim (fa.2 v) (fb.2 v)⟩

set_option maxRecDepth 100000 in
set_option maxHeartbeats 4000000 in
theorem refSync_any (ra rb : Option Addr) (ca cb : Nat) (a b : List Vc.V) (hfa : Few a) (hfb : Few b) (w : World) (ha : SV w ra a) (hb : SV w rb b) :
    Calls Try.prog 33 #[.slice ra a.length ca, .slice rb b.length cb] w (Synced All a b w) := by
  have HA := hide ha
  have HB := hide hb
  have KA := hide fun W h => refCheckLeaf_any ra ca a hfa W h
  have KB := hide fun W h => refCheckLeaf_any rb cb b hfb W h
  have hla := hfa.1
  have hlb := hfb.1
  have HFA := hide hfa
  have HFB := hide hfb
  clear ha hb hfa hfb
  by_cases hza : Vc.checkLeaf a = 0
  · by_cases hzb : Vc.checkLeaf b = 0
    · have HOK : Hid (Vc.checkLeaf a = 0 ∧ Vc.checkLeaf b = 0) := hide ⟨hza, hzb⟩
      have LA := hide ((Vc.checkLeaf_zero a).1 hza)
      have LB := hide ((Vc.checkLeaf_zero b).1 hzb)
      rw [hza] at KA
      rw [hzb] at KB
      have hla64 := (unhide LA).len
      have hlb64 := (unhide LB).len
      have HFEW := hide (few_append hla64 hlb64 (unhide HFA) (unhide HFB))
      obtain ⟨all, hall⟩ : ∃ all, a ++ b = all := ⟨_, rfl⟩
      have HALL := hide hall
      have hal : all.length ≤ 128 := by rw [← hall, List.length_append]; omega
      rw [hall] at HFEW
      clear hza hzb hall
      go_enter Try.func33, Try.ntmps33
      go_wp2_with fail
      refine (unhide KA _ (unhide HA)).mono ?_
      rintro e w1 ⟨rfl, hb1⟩
      have HB1 := hide hb1
      replace HA := hide ((unhide HA).after hb1)
      replace HB := hide ((unhide HB).after hb1)
      clear hb1
      go_wp2_with fail
      refine (unhide KB _ (unhide HB)).mono ?_
      rintro e w2 ⟨rfl, hb2⟩
      replace HB1 := hide (below_grow (unhide HB1) (Nat.le_refl _) hb2)
      replace HA := hide ((unhide HA).after hb2)
      replace HB := hide ((unhide HB).after hb2)
      clear hb2 KA KB
      have HO0 := hide (OV.lit All w2)
      have HBe := hide (below_alloc' (w := w2) (.cells #[] 27))
      go_wp2_with (first
        | (at_builtin; refine append_sv (by rfl) _ _ (by rfl) w2.heap.size _ [] (by rfl) (unhide HO0) _ _ a (by rfl) ((unhide HA).apart (prov_all _ _ _) (fun g e => ((unhide HO0).lt g e).1) (unhide HBe)) (by simp; omega) (by simp) ?_; intro v4 w4 hown4 hb4 _ _; rw [List.nil_append] at hown4; have HO4 := hide hown4; have HB4 := hide ((unhide HBe).trans hb4); have hs4 := (unhide HB4).size; clear hown4 hb4)
        | (at_builtin; refine append_sv (by rfl) _ _ (by rfl) w2.heap.size _ a (by rfl) (unhide HO4) _ _ b (by rfl) ((unhide HB).apart (prov_all _ _ _) (fun g e => ((unhide HO4).lt g e).1) (unhide HB4)) (by omega) hs4 ?_; intro v5 w5 hown5 hb5 _ _; rw [unhide HALL] at hown5; have HO5 := hide hown5; have HB5 := hide ((unhide HB4).trans hb5); clear hown5 hb5))
      obtain ⟨rA, cA, rfl, hcA, hsA, _⟩ := (unhide HO5).sv
      have SA := hide hsA
      replace HB1 := hide (below_grow (unhide HB1) (Nat.le_refl _) (unhide HB5))
      have KC := hide fun v r c W h => refCovered_any rA cA all (unhide HFEW) v r c W h
      clear hsA HO0 HBe HO4 HB4 HO5 HB5 HA HB HFA HFB
      go_loopw [5, 7] (fun l i wr => ∃ (p : Nat) (s : List Vc.V), p ≤ 64 ∧ i = .int .i64 p ∧ OV All wr w5.heap.size l s ∧ Vc.Sofar a b (p : Int) s ∧ s.length ≤ 64 ∧ Below w5.heap.size w5 wr) (fun _ i _ => 64 - (intOf i).toNat)
      case atStart => exact ⟨0, [], Nat.zero_le _, rfl, OV.nil _ _ _, Vc.Sofar.start (unhide LA) (unhide LB), by simp, Below.refl _ _⟩
      case round =>
        obtain ⟨p, s, hp, rfl, hov, hsof, hsl, hbo⟩ := hrel
        have HO := hide hov
        have HSOF := hide hsof
        have HBO := hide hbo
        clear hov hsof hbo
        by_cases hlt : p < 64
        · have hpd : decide ((p : Int) < 64) = true := decide_eq_true (by omega)
          generalize wr = wa at HO HBO ⊢
          go_wp2_with fail
          go_loopw [8, 9] (fun x i wr => ∃ (k : Nat) (best : Int), k ≤ all.length ∧ i = .int .i64 k ∧ x = .int .i64 best ∧ Vc.Inner all (p : Int) k best ∧ Below wa.heap.size wa wr) (fun _ i _ => all.length - (intOf i).toNat)
          case atStart => exact ⟨0, -1, Nat.zero_le _, rfl, rfl, .inl ⟨rfl, fun z hz => (by simp at hz)⟩, Below.refl _ _⟩
          case round =>
            obtain ⟨k, best, hk, rfl, rfl, hin, hbi⟩ := hrel
            have HIN := hide hin
            have HBI := hide hbi
            have S := hide ((unhide SA).after (below_grow (unhide HBO) (Nat.le_refl _) hbi))
            clear hin hbi
            by_cases hkl : k < all.length
            · obtain ⟨v, hx⟩ : ∃ d, all[k]? = some d := ⟨_, List.getElem?_eq_getElem hkl⟩
              obtain ⟨g, o, rfl, hg, hcell⟩ := id (unhide S) (by omega)
              obtain ⟨q, d, x0, x1, x2, x3, x4, h5, h6⟩ := hcell k v hx
              have HX := hide hx
              have HG := hide hg
              have HCELL := hide hcell
              by_cases hpe : v.dot.1 = (p : Int)
              · rw [hpe] at x0
                have K := hide fun W h => unhide KC v q d W h
                unfold verL at K
                rw [hpe] at K
                by_cases hc : Vc.covered all v = true
                · rw [hc] at K
                  have HNX := hide ((unhide HIN).skip hx (fun h => by rw [h.2] at hc; cases hc))
                  clear hcell hx hc h5 h6 hg
                  go_wp2_with (go_at_call 38; refine (unhide K _ (unhide S)).mono ?_; rintro e w6 ⟨rfl, hb6⟩; have HB6 := hide (below_grow (unhide HBI) (Nat.le_refl _) hb6); clear hb6 x0 x1 x2 x3 x4)
                  go_roundw
                  case rel => exact ⟨k + 1, best, by omega, by go_num, rfl, unhide HNX, unhide HB6⟩
                  case measure => simp [intOf]; omega
                · rw [Bool.not_eq_true] at hc
                  rw [hc] at K
                  have hcand : Vc.Cand all (p : Int) v := ⟨hpe, hc⟩
                  rcases unhide HIN with ⟨rfl, hno⟩ | ⟨j, y, rfl, hj, hy, hyc, hmax, hfirst⟩
                  · have HNX := hide (Vc.Inner.first hx hcand hno)
                    clear hcell hx hc h5 h6 hg hno hcand HIN
                    go_wp2_with (go_at_call 38; refine (unhide K _ (unhide S)).mono ?_; rintro e w6 ⟨rfl, hb6⟩; have HB6 := hide (below_grow (unhide HBI) (Nat.le_refl _) hb6); clear hb6 x0 x1 x2 x3 x4)
                    go_quiet (fail)
                    go_wp2_with fail
                    go_roundw
                    case rel => exact ⟨k + 1, (k : Int), by omega, by go_num, rfl, unhide HNX, below_drewN (unhide HB6) _⟩
                    case measure => simp [intOf]; omega
                  · obtain ⟨q2, d2, y0, y1, y2, y3, y4, _, _⟩ := hcell j y hy
                    have Y1 := hide y1
                    have X1 := hide x1
                    have hjd : decide ((j : Int) < 0) = false := decide_eq_false (by omega)
                    have hjl : j < all.length := by omega
                    by_cases hmore : y.dot.2 < v.dot.2
                    · have HNX := hide (Vc.Inner.more hx hcand hmax hmore)
                      have hmd : decide (y.dot.2 < v.dot.2) = true := decide_eq_true hmore
                      clear hcell hx hc h5 h6 hg hcand HIN hmax hfirst hy hyc hmore y0 y2 y3 y4
                      go_wp2_with (go_at_call 38; refine (unhide K _ (unhide S)).mono ?_; rintro e w6 ⟨rfl, hb6⟩; have HB6 := hide (below_grow (unhide HBI) (Nat.le_refl _) hb6); have z1 := (hb6.cell (p := ⟨g, o + k * 5 + 1, none⟩) (unhide HG)).trans (unhide X1); have z2 := (hb6.cell (p := ⟨g, o + j * 5 + 1, none⟩) (unhide HG)).trans (unhide Y1); clear hb6 x0 x1 x2 x3 x4 y1)
                      go_quiet (fail)
                      go_wp2_with fail
                      go_roundw
                      case rel => exact ⟨k + 1, (k : Int), by omega, by go_num, rfl, unhide HNX, below_drewN (unhide HB6) _⟩
                      case measure => simp [intOf]; omega
                    · have HNX := hide (Vc.Inner.keep hx hj hy hyc hmax hfirst hmore)
                      have hmd : decide (y.dot.2 < v.dot.2) = false := decide_eq_false hmore
                      clear hcell hx hc h5 h6 hg hcand HIN hmax hfirst hy hyc hmore y0 y2 y3 y4
                      go_wp2_with (go_at_call 38; refine (unhide K _ (unhide S)).mono ?_; rintro e w6 ⟨rfl, hb6⟩; have HB6 := hide (below_grow (unhide HBI) (Nat.le_refl _) hb6); have z1 := (hb6.cell (p := ⟨g, o + k * 5 + 1, none⟩) (unhide HG)).trans (unhide X1); have z2 := (hb6.cell (p := ⟨g, o + j * 5 + 1, none⟩) (unhide HG)).trans (unhide Y1); clear hb6 x0 x1 x2 x3 x4 y1)
                      go_quiet (fail)
                      go_wp2_with fail
                      go_roundw
                      case rel => exact ⟨k + 1, (j : Int), by omega, by go_num, rfl, unhide HNX, below_drewN (unhide HB6) _⟩
                      case measure => simp [intOf]; omega
              · have HNX := hide ((unhide HIN).skip hx (fun h => hpe h.1))
                have hpb : (v.dot.1 != (p : Int)) = true := bne_iff_ne.2 hpe
                clear hcell hx h5 h6 hg
                go_wp2_with fail
                go_roundw
                case rel => exact ⟨k + 1, best, by omega, by go_num, rfl, unhide HNX, unhide HBI⟩
                case measure => simp [intOf]; omega
            · obtain rfl : k = all.length := by omega
              have HOi := hide ((unhide HO).after (unhide HBI))
              have HBj := hide (below_grow (unhide HBO) (Nat.le_refl _) (unhide HBI))
              rcases unhide HIN with ⟨rfl, hno⟩ | ⟨j, y, rfl, hj, hy, hyc, hmax, hfirst⟩
              · rw [List.take_length] at hno
                have HNX : Hid (Vc.Sofar a b ((p + 1 : Nat) : Int) s) := hide ((unhide HSOF).none (by rw [unhide HALL]; exact hno))
                clear hno HIN
                go_wp2_with fail
                go_roundw
                case rel => exact ⟨p + 1, s, by omega, by go_num, unhide HOi, unhide HNX, hsl, unhide HBj⟩
                case measure => simp [intOf]; omega
              · rw [List.take_length] at hmax
                obtain ⟨g, o, rfl, hg, hcell⟩ := id (unhide S) (by omega)
                obtain ⟨q, d, x0, x1, x2, x3, x4, h5, h6⟩ := hcell j y hy
                have HOKY : Hid (Vc.OkV y) := hide (by
                  have hm := List.mem_of_getElem? hy
                  rw [← unhide HALL] at hm
                  exact (List.mem_append.1 hm).elim (fun h => ((unhide LA).up.mem h).1) (fun h => ((unhide LB).up.mem h).1))
                have HNX : Hid (Vc.Sofar a b ((p + 1 : Nat) : Int) (s ++ [y])) := hide ((unhide HSOF).one (Vc.pick_best (unhide LA) (unhide LB) (by rw [unhide HALL]; exact hy) (by rw [unhide HALL]; exact hyc) (by rw [unhide HALL]; exact hmax) (by rw [unhide HALL]; exact hfirst)) (unhide HOKY))
                have hsl2 : (s ++ [y]).length ≤ 64 := (show Vc.LeafOk (s ++ [y]) from ⟨(unhide HNX).up, fun u hu v hv => by
                  obtain ⟨m1, _⟩ := ((unhide HNX).mem u).1 hu
                  obtain ⟨m2, _⟩ := ((unhide HNX).mem v).1 hv
                  exact m1.of.1.elim (fun h => m2.of.2.1 u h) (fun h => m2.of.2.2 u h)⟩).len
                have HAP : Hid (Apart All u5.ownBlock q y.past) := hide (by
                  obtain ⟨g0, o0, e0, hg0, hcell0⟩ := unhide SA (by omega)
                  injection e0 with e0
                  injection e0 with e1 e2
                  subst e1
                  subst e2
                  obtain ⟨q', d', _, _, y2, _, _, _, y6⟩ := hcell0 j y hy
                  rw [(unhide HBj).cell (by exact hg0), y2] at x2
                  injection x2 with x2
                  injection x2 with x2 _ _
                  subst x2
                  exact y6.apart (fun g e => ((unhide HOi).lt g e).1) (fun _ _ _ => trivial))
                have H6 := hide h6
                have hjd : decide ((0 : Int) ≤ (j : Int)) = true := decide_eq_true (by omega)
                have hsz := (unhide HBj).size
                have hjl : j < all.length := by omega
                have HV : Hid (VRow (wr.alloc (.cells (verL y q d).toArray 27)) wr.heap.size 27 (verL y q d)) := hide (VRow.new _ _ _)
                have HBA := hide (below_alloc' (w := wr) (.cells (verL y q d).toArray 27))
                have H5 := hide h5
                unfold verL at HV HBA
                clear hcell hy hg h5 h6 hyc hmax hfirst HIN hj
                go_wp2_with (at_builtin; refine append_sv (by rfl) _ _ (by rfl) w5.heap.size _ s (by rfl) ((unhide HOi).after (unhide HBA)) _ _ [y] (by rfl) (one_svn (unhide HV) (unhide H5) ((unhide H6).after (unhide HBA)) (unhide HAP)) (by simp; omega) (by simp; omega) ?_; intro v9 w9 hown9 hb9 _ _; have HO9 := hide hown9; have HB9 := hide (((unhide HBj).alloc hsz _).trans hb9); clear hown9 hb9)
                go_roundw
                case rel => exact ⟨p + 1, s ++ [y], by omega, by go_num, unhide HO9, unhide HNX, hsl2, unhide HB9⟩
                case measure => simp [intOf]; omega
        · obtain rfl : p = 64 := by omega
          obtain ⟨r, c, rfl, hc, hs, _⟩ := (unhide HO).sv
          have SF := hide hs
          have HFIN := hide ((unhide HSOF).done (unhide LA) (unhide LB))
          clear hs HO HSOF
          go_wp2_with fail
          go_ret
          exact ⟨s, r, c, rfl, hc, unhide SF, prov_all _ _ _, below_grow (unhide HB1) (Nat.le_refl _) (unhide HBO), fun _ => unhide HFIN, fun h => absurd (unhide HOK) h⟩
    · have hzz : (Vc.checkLeaf b != 0) = true := bne_iff_ne.2 hzb
      have HBAD : Hid (¬ (Vc.checkLeaf a = 0 ∧ Vc.checkLeaf b = 0)) := hide (fun h => hzb h.2)
      have KB' : Hid (∀ W, SV W rb b → Calls Try.prog 12 #[.slice rb b.length cb] W fun e w' => e = .returned (.int .i64 (Vc.checkLeaf b)) ∧ Below W.heap.size W w') := KB
      obtain ⟨X, hX⟩ : ∃ X, Vc.checkLeaf b = X := ⟨_, rfl⟩
      rw [hX] at KB' hzz
      rw [hza] at KA
      clear KB hX hzb hza
      go_enter Try.func33, Try.ntmps33
      go_wp2_with fail
      refine (unhide KA _ (unhide HA)).mono ?_
      rintro e w1 ⟨rfl, hb1⟩
      have HB1 := hide hb1
      replace HB := hide ((unhide HB).after hb1)
      clear hb1
      go_wp2_with fail
      refine (unhide KB' _ (unhide HB)).mono ?_
      rintro e w2 ⟨rfl, hb2⟩
      replace HB1 := hide (below_grow (unhide HB1) (Nat.le_refl _) hb2)
      clear hb2
      go_wp2_with fail
      go_ret
      exact ⟨[], none, 0, rfl, Nat.le_refl _, SV.none _ _, prov_all _ _ _, unhide HB1, fun h => absurd h (unhide HBAD), fun _ => rfl⟩
  · have hzz : (Vc.checkLeaf a != 0) = true := bne_iff_ne.2 hza
    have HBAD : Hid (¬ (Vc.checkLeaf a = 0 ∧ Vc.checkLeaf b = 0)) := hide (fun h => hza h.1)
    have KA' : Hid (∀ W, SV W ra a → Calls Try.prog 12 #[.slice ra a.length ca] W fun e w' => e = .returned (.int .i64 (Vc.checkLeaf a)) ∧ Below W.heap.size W w') := KA
    obtain ⟨X, hX⟩ : ∃ X, Vc.checkLeaf a = X := ⟨_, rfl⟩
    rw [hX] at KA' hzz
    clear KA hX hza
    go_enter Try.func33, Try.ntmps33
    go_wp2_with fail
    refine (unhide KA' _ (unhide HA)).mono ?_
    rintro e w1 ⟨rfl, hb1⟩
    have HB1 := hide hb1
    clear hb1
    go_wp2_with fail
    go_ret
    exact ⟨[], none, 0, rfl, Nat.le_refl _, SV.none _ _, prov_all _ _ _, unhide HB1, fun h => absurd h (unhide HBAD), fun _ => rfl⟩
end Go.Proofs.Ytbghekolfcakeaa
