/-
  The walk of the statement on what two leaves come to together.
-/
import Derived.Test.YtbghekolfcakeaaAwake
import Derived.Test.YtbghekolfcakeaaRefSame
namespace Go.Proofs.Ytbghekolfcakeaa
open Go.RowKit

/-- No past is too long to be. -/
def Short (vs : List Vc.V) : Prop := ∀ v ∈ vs, v.past.length ≤ 9223372036854775807
theorem Short.few {vs : List Vc.V} (h : Short vs) (hl : vs.length ≤ 70) : Few vs := ⟨by omega, h⟩
def Great2 (a b : List Vc.V) (w : World) (e : Ending) (w' : World) : Prop := ∃ B : Bool, e = .returned (.bool B) ∧ w' = w ∧ (B = false → a.length ≤ 70 ∧ b.length ≤ 70)
theorem great2 (w : World) (ra rb : Option Addr) (ca cb : Nat) (a b : List Vc.V) (ha : SV w ra a) (hb : SV w rb b) :
    Calls Try.prog 9 #[.slice (some ⟨w.heap.size, 0, none⟩) 2 2] (w.alloc (.cells #[.slice ra a.length ca, .slice rb b.length cb] 22)) (Great2 a b (w.alloc (.cells #[.slice ra a.length ca, .slice rb b.length cb] 22))) := by
  have hr := VRow.new w 22 [.slice ra a.length ca, .slice rb b.length cb]
  refine (great_any w.heap.size 2 (by decide) (fun j => if j = 0 then ra else rb) (fun j => if j = 0 then ca else cb) (fun j => if j = 0 then a else b) _ (fun j hj => ?_) (fun j hj => ?_)).mono ?_
  · rcases (show j = 0 ∨ j = 1 by omega) with rfl | rfl
    · exact hr.cell 0 _ rfl
    · exact hr.cell 1 _ rfl
  · rcases (show j = 0 ∨ j = 1 by omega) with rfl | rfl
    · exact ha.after (below_alloc' _)
    · exact hb.after (below_alloc' _)
  · rintro e w' ⟨B, h1, h2, h3⟩
    exact ⟨B, h1, h2, fun h => ⟨(h3 h 0 (by decide)).1, (h3 h 1 (by decide)).1⟩⟩
theorem bool_of (p : Prop) : ∃ D : Bool, D = true ↔ p := ⟨@decide p (Classical.propDecidable _), @decide_eq_true_iff p (Classical.propDecidable _)⟩
theorem syncs_same {a b s t : List Vc.V} (h1 : Vc.checkLeaf a = 0 ∧ Vc.checkLeaf b = 0 → Vc.IsSync a b s) (h2 : ¬ (Vc.checkLeaf a = 0 ∧ Vc.checkLeaf b = 0) → s = []) (g1 : Vc.checkLeaf a = 0 ∧ Vc.checkLeaf b = 0 → Vc.IsSync a b t) (g2 : ¬ (Vc.checkLeaf a = 0 ∧ Vc.checkLeaf b = 0) → t = []) : s = t := by
  by_cases h : Vc.checkLeaf a = 0 ∧ Vc.checkLeaf b = 0
  · exact (h1 h).ext (g1 h)
  · rw [h2 h, g2 h]

set_option maxRecDepth 100000 in
set_option maxHeartbeats 1000000 in
theorem syncs_walk (P : Prg) (ra : Option Addr) (ca : Nat) (a : List Vc.V) (hca : a.length ≤ ca) (ma : Short a) (rb : Option Addr) (cb : Nat) (b : List Vc.V) (hcb : b.length ≤ cb) (mb : Short b) (w : World) (ha : SV w ra a) (hb : SV w rb b) :
    Calls Try.prog 6 #[.slice ra a.length ca, .slice rb b.length cb] w fun e w' => e = .returned (.bool true) ∧ Below w.heap.size w w' := by
  have KG := hide (great2 w ra rb ca cb a b ha hb)
  have HB := hide (below_alloc' (w := w) (.cells #[.slice ra a.length ca, .slice rb b.length cb] 22))
  have SA := hide (ha.after (unhide HB))
  have SB := hide (hb.after (unhide HB))
  obtain ⟨D, hD⟩ := bool_of (a = b)
  have HD := hide hD
  have HMA := hide ma
  have HMB := hide mb
  have PR := hide P
  have hDD : (D == D) = true := by simp
  clear ha hb hD ma mb P
  go_enter Try.func6, Try.ntmps6
  go_wp2_with fail
  refine (unhide KG).mono ?_
  rintro e w1 ⟨B, rfl, hw, hsmall⟩
  rw [← hw] at HB SA SB
  clear hw KG
  cases B with
  | true =>
    go_wp2_with fail
    refine (awake_any (unhide PR) _).mono ?_
    rintro e w9 ⟨rfl, hb⟩
    replace HB := hide (below_grow (unhide HB) (Nat.le_refl _) hb)
    clear hb
    go_wp2_with fail
    go_ret
    exact ⟨rfl, unhide HB⟩
  | false =>
    obtain ⟨la, lb⟩ := hsmall rfl
    have FA := hide ((unhide HMA).few la)
    have FB := hide ((unhide HMB).few lb)
    clear hsmall
    go_wp2_with fail
    refine ((unhide PR).sync All ra rb ca cb a b (unhide FA) (unhide FB) hca hcb _ (fun _ _ => trivial) (unhide SA) (unhide SB) (prov_all _ _ _) (prov_all _ _ _)).mono ?_
    rintro e w2 ⟨s, rs, cs, rfl, hcs, hs, _, hb, h1, h2⟩
    replace HB := hide (below_grow (unhide HB) (Nat.le_refl _) hb)
    replace SA := hide ((unhide SA).after hb)
    replace SB := hide ((unhide SB).after hb)
    have SS := hide hs
    have H1 := hide h1
    have H2 := hide h2
    have FS := hide (few_sync h1 h2)
    clear hb hs h1 h2
    go_wp2_with fail
    refine (refSync_any ra rb ca cb a b (unhide FA) (unhide FB) _ (unhide SA) (unhide SB)).mono ?_
    rintro e w3 ⟨t, rt, ct, rfl, hct, ht, _, hb, g1, g2⟩
    obtain rfl := syncs_same (unhide H1) (unhide H2) g1 g2
    replace HB := hide (below_grow (unhide HB) (Nat.le_refl _) hb)
    replace SA := hide ((unhide SA).after hb)
    replace SB := hide ((unhide SB).after hb)
    replace SS := hide ((unhide SS).after hb)
    have ST := hide ht
    clear hb ht g1 g2 H1 H2
    go_wp2_with fail
    refine (refSameVs_any rs rt cs ct s s (unhide FS).1 (unhide FS).1 _ (unhide SS) (unhide ST) true (by simp)).mono ?_
    rintro e w4 ⟨rfl, hb⟩
    replace HB := hide (below_grow (unhide HB) (Nat.le_refl _) hb)
    replace SA := hide ((unhide SA).after hb)
    replace SB := hide ((unhide SB).after hb)
    replace SS := hide ((unhide SS).after hb)
    clear hb
    have KL := hide ((unhide PR).checkLeaf rs cs s (unhide FS).1 hcs _ (unhide SS))
    rw [(Vc.checkLeaf_zero s).2 (unhide FS).2] at KL
    go_wp2_with fail
    refine (unhide KL).mono ?_
    rintro e w5 ⟨rfl, hb⟩
    replace HB := hide (below_grow (unhide HB) (Nat.le_refl _) hb)
    replace SA := hide ((unhide SA).after hb)
    replace SB := hide ((unhide SB).after hb)
    clear hb KL
    go_wp2_with fail
    refine ((unhide PR).same ra rb ca cb a b (unhide FA) (unhide FB) hca hcb _ (unhide SA) (unhide SB) D (unhide HD)).mono ?_
    rintro e w6 ⟨rfl, hb⟩
    replace HB := hide (below_grow (unhide HB) (Nat.le_refl _) hb)
    replace SA := hide ((unhide SA).after hb)
    replace SB := hide ((unhide SB).after hb)
    clear hb
    go_wp2_with fail
    refine (refSameVs_any ra rb ca cb a b (unhide FA) (unhide FB) _ (unhide SA) (unhide SB) D (unhide HD)).mono ?_
    rintro e w7 ⟨rfl, hb⟩
    replace HB := hide (below_grow (unhide HB) (Nat.le_refl _) hb)
    clear hb
    go_wp2_with fail
    refine (awake_any (unhide PR) _).mono ?_
    rintro e w8 ⟨rfl, hb⟩
    replace HB := hide (below_grow (unhide HB) (Nat.le_refl _) hb)
    clear hb
    go_wp2_with fail
    go_ret
    exact ⟨by first | rfl | simp, unhide HB⟩
end Go.Proofs.Ytbghekolfcakeaa
