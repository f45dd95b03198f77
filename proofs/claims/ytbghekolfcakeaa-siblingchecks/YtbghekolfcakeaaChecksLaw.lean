/-
  The walk of the statement on whether versions are a leaf.
-/
import Derived.Test.YtbghekolfcakeaaWritesLaw
import Derived.Deep.RegionHeld3
import Derived.StillTailTactics
namespace Go.Proofs.Ytbghekolfcakeaa
open Go.RowKit

theorem two_sv {W : World} {D T : Nat} {v u : Vc.V} {r q : Option Addr} {c d : Nat} (h : VRow W D T (verL v r c ++ verL u q d)) (hc : v.past.length ≤ c) (hd : u.past.length ≤ d) (hs : Sl W r v.past) (ht : Sl W q u.past) : SV W (some ⟨D, 0, none⟩) [v, u] := fun _ => by
  refine ⟨D, 0, rfl, h.lt, fun j x hj => ?_⟩
  rcases (show j = 0 ∨ j = 1 by have := (List.getElem?_eq_some_iff.1 hj).1; simp at this; omega) with rfl | rfl
  · simp at hj
    subst hj
    exact ⟨r, c, h.cell 0 _ rfl, h.cell 1 _ rfl, h.cell 2 _ rfl, h.cell 3 _ rfl, h.cell 4 _ rfl, hc, hs⟩
  · simp at hj
    subst hj
    exact ⟨q, d, h.cell 5 _ rfl, h.cell 6 _ rfl, h.cell 7 _ rfl, h.cell 8 _ rfl, h.cell 9 _ rfl, hd, ht⟩

set_option maxRecDepth 100000 in
set_option maxHeartbeats 2000000 in
theorem checks_walk (P : Prg) (ra : Option Addr) (ca : Nat) (a : List Vc.V) (hca : a.length ≤ ca) (ma : Short a) (va : Vc.V) (r1 : Option Addr) (c1 : Nat) (h1 : va.past.length ≤ c1) (m1 : va.past.length ≤ 9223372036854775807) (vb : Vc.V) (r2 : Option Addr) (c2 : Nat) (h2 : vb.past.length ≤ c2) (m2 : vb.past.length ≤ 9223372036854775807) (w : World) (ha : SV w ra a) (s1 : Sl w r1 va.past) (s2 : Sl w r2 vb.past) :
    Calls Try.prog 3 #[.slice ra a.length ca, .agg (verL va r1 c1).toArray, .agg (verL vb r2 c2).toArray] w fun e w' => e = .returned (.bool true) ∧ Below w.heap.size w w' := by
  unfold verL
  have B1 := hide (below_alloc' (w := w) (.cells #[.int .i64 va.dot.1, .int .i64 va.dot.2, .slice r1 va.past.length c1, .bool va.dead, .string va.data] 27))
  have B2 := hide ((unhide B1).alloc (by simp) (.cells #[.int .i64 vb.dot.1, .int .i64 vb.dot.2, .slice r2 vb.past.length c2, .bool vb.dead, .string vb.data] 27))
  have B3 := hide ((unhide B2).alloc (by simp; omega) (.cells #[.int .i64 va.dot.1, .int .i64 va.dot.2, .slice r1 va.past.length c1, .bool va.dead, .string va.data, .int .i64 vb.dot.1, .int .i64 vb.dot.2, .slice r2 vb.past.length c2, .bool vb.dead, .string vb.data] 27))
  have R1 := hide (((VRow.new w 27 [.int .i64 va.dot.1, .int .i64 va.dot.2, .slice r1 va.past.length c1, .bool va.dead, .string va.data]).alloc (.cells #[.int .i64 vb.dot.1, .int .i64 vb.dot.2, .slice r2 vb.past.length c2, .bool vb.dead, .string vb.data] 27)).alloc (.cells #[.int .i64 va.dot.1, .int .i64 va.dot.2, .slice r1 va.past.length c1, .bool va.dead, .string va.data, .int .i64 vb.dot.1, .int .i64 vb.dot.2, .slice r2 vb.past.length c2, .bool vb.dead, .string vb.data] 27))
  have R2 := hide ((VRow.newAt (W := (w.alloc (.cells #[.int .i64 va.dot.1, .int .i64 va.dot.2, .slice r1 va.past.length c1, .bool va.dead, .string va.data] 27))) (T := 27) (n := w.heap.size + 1) (vs := [.int .i64 vb.dot.1, .int .i64 vb.dot.2, .slice r2 vb.past.length c2, .bool vb.dead, .string vb.data]) (by simp)).alloc (.cells #[.int .i64 va.dot.1, .int .i64 va.dot.2, .slice r1 va.past.length c1, .bool va.dead, .string va.data, .int .i64 vb.dot.1, .int .i64 vb.dot.2, .slice r2 vb.past.length c2, .bool vb.dead, .string vb.data] 27))
  have R3 := hide (VRow.newAt (W := ((w.alloc (.cells #[.int .i64 va.dot.1, .int .i64 va.dot.2, .slice r1 va.past.length c1, .bool va.dead, .string va.data] 27)).alloc (.cells #[.int .i64 vb.dot.1, .int .i64 vb.dot.2, .slice r2 vb.past.length c2, .bool vb.dead, .string vb.data] 27))) (T := 27) (n := w.heap.size + 1 + 1) (vs := [.int .i64 va.dot.1, .int .i64 va.dot.2, .slice r1 va.past.length c1, .bool va.dead, .string va.data, .int .i64 vb.dot.1, .int .i64 vb.dot.2, .slice r2 vb.past.length c2, .bool vb.dead, .string vb.data]) (by simp))
  have KG := hide (great2 (((w.alloc (.cells #[.int .i64 va.dot.1, .int .i64 va.dot.2, .slice r1 va.past.length c1, .bool va.dead, .string va.data] 27)).alloc (.cells #[.int .i64 vb.dot.1, .int .i64 vb.dot.2, .slice r2 vb.past.length c2, .bool vb.dead, .string vb.data] 27)).alloc (.cells #[.int .i64 va.dot.1, .int .i64 va.dot.2, .slice r1 va.past.length c1, .bool va.dead, .string va.data, .int .i64 vb.dot.1, .int .i64 vb.dot.2, .slice r2 vb.past.length c2, .bool vb.dead, .string vb.data] 27)) ra (some ⟨w.heap.size + 1 + 1, 0, none⟩) ca 2 a [va, vb] (ha.after (unhide B3)) (two_sv (T := 27) (unhide R3) h1 h2 (s1.after (unhide B3)) (s2.after (unhide B3))))
  rw [World.size_alloc, World.size_alloc, World.size_alloc, show [va, vb].length = 2 from rfl] at KG
  have HB := hide ((unhide B3).alloc (by simp; omega) (.cells #[.slice ra a.length ca, .slice (some ⟨w.heap.size + 1 + 1, 0, none⟩) 2 2] 22))
  replace R1 := hide ((unhide R1).alloc (.cells #[.slice ra a.length ca, .slice (some ⟨w.heap.size + 1 + 1, 0, none⟩) 2 2] 22))
  replace R2 := hide ((unhide R2).alloc (.cells #[.slice ra a.length ca, .slice (some ⟨w.heap.size + 1 + 1, 0, none⟩) 2 2] 22))
  have SA := hide (ha.after (unhide HB))
  have S1 := hide (s1.after (unhide HB))
  have S2 := hide (s2.after (unhide HB))
  have HMA := hide ma
  have PR := hide P
  have a0 := ((VRow.new w 27 [.int .i64 va.dot.1, .int .i64 va.dot.2, .slice r1 va.past.length c1, .bool va.dead, .string va.data]).alloc (.cells #[.int .i64 vb.dot.1, .int .i64 vb.dot.2, .slice r2 vb.past.length c2, .bool vb.dead, .string vb.data] 27)).cell 0 _ rfl
  have a1 := ((VRow.new w 27 [.int .i64 va.dot.1, .int .i64 va.dot.2, .slice r1 va.past.length c1, .bool va.dead, .string va.data]).alloc (.cells #[.int .i64 vb.dot.1, .int .i64 vb.dot.2, .slice r2 vb.past.length c2, .bool vb.dead, .string vb.data] 27)).cell 1 _ rfl
  have a2 := ((VRow.new w 27 [.int .i64 va.dot.1, .int .i64 va.dot.2, .slice r1 va.past.length c1, .bool va.dead, .string va.data]).alloc (.cells #[.int .i64 vb.dot.1, .int .i64 vb.dot.2, .slice r2 vb.past.length c2, .bool vb.dead, .string vb.data] 27)).cell 2 _ rfl
  have a3 := ((VRow.new w 27 [.int .i64 va.dot.1, .int .i64 va.dot.2, .slice r1 va.past.length c1, .bool va.dead, .string va.data]).alloc (.cells #[.int .i64 vb.dot.1, .int .i64 vb.dot.2, .slice r2 vb.past.length c2, .bool vb.dead, .string vb.data] 27)).cell 3 _ rfl
  have a4 := ((VRow.new w 27 [.int .i64 va.dot.1, .int .i64 va.dot.2, .slice r1 va.past.length c1, .bool va.dead, .string va.data]).alloc (.cells #[.int .i64 vb.dot.1, .int .i64 vb.dot.2, .slice r2 vb.past.length c2, .bool vb.dead, .string vb.data] 27)).cell 4 _ rfl
  have b0 := (VRow.newAt (W := (w.alloc (.cells #[.int .i64 va.dot.1, .int .i64 va.dot.2, .slice r1 va.past.length c1, .bool va.dead, .string va.data] 27))) (T := 27) (n := w.heap.size + 1) (vs := [.int .i64 vb.dot.1, .int .i64 vb.dot.2, .slice r2 vb.past.length c2, .bool vb.dead, .string vb.data]) (by simp)).cell 0 _ rfl
  have b1 := (VRow.newAt (W := (w.alloc (.cells #[.int .i64 va.dot.1, .int .i64 va.dot.2, .slice r1 va.past.length c1, .bool va.dead, .string va.data] 27))) (T := 27) (n := w.heap.size + 1) (vs := [.int .i64 vb.dot.1, .int .i64 vb.dot.2, .slice r2 vb.past.length c2, .bool vb.dead, .string vb.data]) (by simp)).cell 1 _ rfl
  have b2 := (VRow.newAt (W := (w.alloc (.cells #[.int .i64 va.dot.1, .int .i64 va.dot.2, .slice r1 va.past.length c1, .bool va.dead, .string va.data] 27))) (T := 27) (n := w.heap.size + 1) (vs := [.int .i64 vb.dot.1, .int .i64 vb.dot.2, .slice r2 vb.past.length c2, .bool vb.dead, .string vb.data]) (by simp)).cell 2 _ rfl
  have b3 := (VRow.newAt (W := (w.alloc (.cells #[.int .i64 va.dot.1, .int .i64 va.dot.2, .slice r1 va.past.length c1, .bool va.dead, .string va.data] 27))) (T := 27) (n := w.heap.size + 1) (vs := [.int .i64 vb.dot.1, .int .i64 vb.dot.2, .slice r2 vb.past.length c2, .bool vb.dead, .string vb.data]) (by simp)).cell 3 _ rfl
  have b4 := (VRow.newAt (W := (w.alloc (.cells #[.int .i64 va.dot.1, .int .i64 va.dot.2, .slice r1 va.past.length c1, .bool va.dead, .string va.data] 27))) (T := 27) (n := w.heap.size + 1) (vs := [.int .i64 vb.dot.1, .int .i64 vb.dot.2, .slice r2 vb.past.length c2, .bool vb.dead, .string vb.data]) (by simp)).cell 4 _ rfl
  clear ha s1 s2 ma P B1 B2 B3 R3
  go_enter Try.func3, Try.ntmps3
  go_wp2_with fail
  refine (unhide KG).mono ?_
  rintro e w1 ⟨B, rfl, hw, hsmall⟩
  rw [← hw] at HB SA S1 S2 R1 R2
  clear hw KG a0 a1 a2 a3 a4 b0 b1 b2 b3 b4
  cases B with
  | true =>
    go_wp2_with fail
    refine (awake_any (unhide PR) _).mono ?_
    rintro e w9 ⟨rfl, hb⟩
    replace HB := hide (below_grow (unhide HB) (Nat.le_refl _) hb)
    clear hb
    go_wp2_with fail
    go_ret
    exact ⟨rfl, unhide HB⟩
  | false =>
    have FA := hide ((unhide HMA).few (hsmall rfl).1)
    clear hsmall
    have K11 := hide fun W h => (unhide PR).checkLeaf ra ca a (unhide FA) hca W h
    have K12 := hide fun W h => refCheckLeaf_any ra ca a (unhide FA) W h
    have K13 := hide fun W h => (unhide PR).check va r1 c1 m1 h1 W h
    have K14 := hide fun W h => refCheckV_any va r1 c1 m1 W h
    have K15 := hide fun W h h' => (unhide PR).covers va vb r1 r2 c1 c2 m1 m2 h1 h2 W h h'
    have K16 := hide fun W h => refCovers_any va vb r1 r2 c1 c2 m1 W h
    have K18 := hide fun W h => (unhide PR).cover ra ca a (unhide FA) hca W h
    have K19 := hide fun W h => refCover_any ra ca a (unhide FA) W h
    have hC := Vc.coverL_len a
    unfold verL at K13 K14 K15 K16
    generalize Vc.checkLeaf a = X at K11 K12
    generalize Vc.chkV va = Y at K13 K14
    generalize Vc.covers va vb = Z at K15 K16
    generalize Vc.coverL a = C at K18 K19 hC
    have hX : (X == X) = true := by simp
    have hY : (Y == Y) = true := by simp
    have hZ : (Z == Z) = true := by simp
    have SB : Hid (∀ w', Below w1.heap.size w1 w' → w'.cell? ⟨w.heap.size, 0, none⟩ = some (.int .i64 va.dot.1) ∧ w'.cell? ⟨w.heap.size, 1, none⟩ = some (.int .i64 va.dot.2) ∧ w'.cell? ⟨w.heap.size, 2, none⟩ = some (.slice r1 va.past.length c1) ∧ w'.cell? ⟨w.heap.size, 3, none⟩ = some (.bool va.dead) ∧ w'.cell? ⟨w.heap.size, 4, none⟩ = some (.string va.data) ∧ w'.cell? ⟨w.heap.size + 1, 0, none⟩ = some (.int .i64 vb.dot.1) ∧ w'.cell? ⟨w.heap.size + 1, 1, none⟩ = some (.int .i64 vb.dot.2) ∧ w'.cell? ⟨w.heap.size + 1, 2, none⟩ = some (.slice r2 vb.past.length c2) ∧ w'.cell? ⟨w.heap.size + 1, 3, none⟩ = some (.bool vb.dead) ∧ w'.cell? ⟨w.heap.size + 1, 4, none⟩ = some (.string vb.data) ∧ Below w1.heap.size w1 w') := hide (fun w' hb => ⟨((unhide R1).after hb).cell 0 _ rfl, ((unhide R1).after hb).cell 1 _ rfl, ((unhide R1).after hb).cell 2 _ rfl, ((unhide R1).after hb).cell 3 _ rfl, ((unhide R1).after hb).cell 4 _ rfl, ((unhide R2).after hb).cell 0 _ rfl, ((unhide R2).after hb).cell 1 _ rfl, ((unhide R2).after hb).cell 2 _ rfl, ((unhide R2).after hb).cell 3 _ rfl, ((unhide R2).after hb).cell 4 _ rfl, hb⟩)
    go_wp2_with fail
    go_region_held3 (fun w' => w'.cell? ⟨w.heap.size, 0, none⟩ = some (.int .i64 va.dot.1) ∧ w'.cell? ⟨w.heap.size, 1, none⟩ = some (.int .i64 va.dot.2) ∧ w'.cell? ⟨w.heap.size, 2, none⟩ = some (.slice r1 va.past.length c1) ∧ w'.cell? ⟨w.heap.size, 3, none⟩ = some (.bool va.dead) ∧ w'.cell? ⟨w.heap.size, 4, none⟩ = some (.string va.data) ∧ w'.cell? ⟨w.heap.size + 1, 0, none⟩ = some (.int .i64 vb.dot.1) ∧ w'.cell? ⟨w.heap.size + 1, 1, none⟩ = some (.int .i64 vb.dot.2) ∧ w'.cell? ⟨w.heap.size + 1, 2, none⟩ = some (.slice r2 vb.past.length c2) ∧ w'.cell? ⟨w.heap.size + 1, 3, none⟩ = some (.bool vb.dead) ∧ w'.cell? ⟨w.heap.size + 1, 4, none⟩ = some (.string vb.data) ∧ Below w1.heap.size w1 w')
      (first
        | exact unhide SB _ (below_drew (Below.refl _ _))
        | exact unhide SB _ (below_grow (And.right (And.right (And.right (And.right (And.right (And.right (And.right (And.right (And.right (And.right (by assumption))))))))))) (Nat.le_refl _) (by assumption)))
      (first
        | (go_at_call 11; refine (unhide K11 _ ((unhide SA).after (And.right (And.right (And.right (And.right (And.right (And.right (And.right (And.right (And.right (And.right (by assumption))))))))))))).mono ?_; rintro e wa ⟨rfl, hba⟩)
        | (go_at_call 12; refine (unhide K12 _ ((unhide SA).after (And.right (And.right (And.right (And.right (And.right (And.right (And.right (And.right (And.right (And.right (by assumption))))))))))))).mono ?_; rintro e wb ⟨rfl, hbb⟩)
        | (go_at_call 13; refine (unhide K13 _ ((unhide S1).after (And.right (And.right (And.right (And.right (And.right (And.right (And.right (And.right (And.right (And.right (by assumption))))))))))))).mono ?_; rintro e wc ⟨rfl, hbc⟩)
        | (go_at_call 14; refine (unhide K14 _ ((unhide S1).after (And.right (And.right (And.right (And.right (And.right (And.right (And.right (And.right (And.right (And.right (by assumption))))))))))))).mono ?_; rintro e wd ⟨rfl, hbd⟩)
        | (go_at_call 15; refine (unhide K15 _ ((unhide S1).after (And.right (And.right (And.right (And.right (And.right (And.right (And.right (And.right (And.right (And.right (by assumption)))))))))))) ((unhide S2).after (And.right (And.right (And.right (And.right (And.right (And.right (And.right (And.right (And.right (And.right (by assumption))))))))))))).mono ?_; rintro e we ⟨rfl, hbe⟩)
        | (go_at_call 16; refine (unhide K16 _ ((unhide S1).after (And.right (And.right (And.right (And.right (And.right (And.right (And.right (And.right (And.right (And.right (by assumption))))))))))))).mono ?_; rintro e wf ⟨rfl, hbf⟩)
        | (go_at_call 18; refine (unhide K18 _ ((unhide SA).after (And.right (And.right (And.right (And.right (And.right (And.right (And.right (And.right (And.right (And.right (by assumption))))))))))))).mono ?_; rintro e wg ⟨r7, c7, rfl, _, hs7, hbg⟩)
        | (go_at_call 19; refine (unhide K19 _ ((unhide SA).after (And.right (And.right (And.right (And.right (And.right (And.right (And.right (And.right (And.right (And.right (by assumption))))))))))))).mono ?_; rintro e wh ⟨r8, c8, rfl, _, hs8, hbh⟩; have hs9 := hs7.after hbh)
        | (go_at_call 17; refine (refSame_any r7 r8 c7 c8 C C (by omega) _ hs9 hs8 true (by simp)).mono ?_; rintro e wi ⟨rfl, hbi⟩)
        | (go_at_call 10; refine (awake_any (unhide PR) _).mono ?_; rintro e wj ⟨rfl, hbj⟩))
    all_goals rename_i hHeld
    all_goals have hbz := hHeld.2.2.2.2.2.2.2.2.2.2
    all_goals clear hHeld
    all_goals go_wp2_with fail
    all_goals go_ret
    all_goals exact ⟨by first | rfl | simp, below_grow (unhide HB) (Nat.le_refl _) hbz⟩
end Go.Proofs.Ytbghekolfcakeaa
