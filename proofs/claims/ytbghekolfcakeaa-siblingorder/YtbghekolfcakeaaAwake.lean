/-
  Chapter 7's examples.
-/
import Derived.Test.YtbghekolfcakeaaPrg
namespace Go.Proofs.Ytbghekolfcakeaa
open Go.RowKit
namespace Vc
def exX : V := ⟨(0, 1), [], false, ⟨#[120]⟩⟩
def exY : V := ⟨(1, 1), [(0, 1)], false, ⟨#[119]⟩⟩
def exZ : V := ⟨(0, 2), [(0, 1)], false, ⟨#[121]⟩⟩
theorem up01 : Up (-1) [(0, 1)] := ⟨by unfold Ok; decide, by decide, trivial⟩
theorem exX_ok : OkV exX := ⟨by unfold Ok exX; decide, trivial, by decide, by decide, by decide⟩
theorem exY_ok : OkV exY := ⟨by unfold Ok exY; decide, up01, by decide, by decide, by decide⟩
theorem exZ_ok : OkV exZ := ⟨by unfold Ok exZ; decide, up01, by decide, by decide, by decide⟩
theorem leaf_one {v : V} (h : OkV v) : LeafOk [v] := by
  have h0 := h.dot
  unfold Ok at h0
  refine ⟨⟨h, by omega, trivial⟩, fun x hx y hy => ?_⟩
  rw [List.mem_singleton.1 hx, List.mem_singleton.1 hy]
  cases hc : covers v v with
  | false => rfl
  | true => have := (covers_ok h h).1 hc; have := h.new; omega
theorem cover_nil : coverL [] = [] := by rw [coverL_leaf leaf_nil]; rfl
theorem cover_x : coverL [exX] = [(0, 1)] := by
  rw [coverL_leaf (leaf_one exX_ok)]
  obtain ⟨h1, h2⟩ := coverF_up (leaf_one exX_ok).up
  refine vec_ext h1 up01 fun p => ?_
  rw [h2 p]
  show max (max 0 (if (0 : Int) = p then 1 else 0)) 0 = if (0 : Int) = p then 1 else 0
  split <;> rfl
theorem write_x : writeF [] (0, 1) ⟨#[120]⟩ = ([exX], 0) := by
  unfold writeF
  rw [if_neg (by simp [(checkLeaf_zero []).2 leaf_nil]), if_neg (by decide), if_neg (by decide)]
  unfold overF
  rw [cover_nil, if_neg (by decide)]
  rfl
theorem write_y : writeF [exX] (1, 1) ⟨#[119]⟩ = ([exY], 0) := by
  unfold writeF
  rw [if_neg (by simp [(checkLeaf_zero [exX]).2 (leaf_one exX_ok)]), if_neg (by decide), if_neg (by decide)]
  unfold overF
  rw [cover_x, if_neg (by decide)]
  rfl
theorem write_z : writeF [exX] (0, 2) ⟨#[121]⟩ = ([exZ], 0) := by
  unfold writeF
  rw [if_neg (by simp [(checkLeaf_zero [exX]).2 (leaf_one exX_ok)]), if_neg (by decide), if_neg (by decide)]
  unfold overF
  rw [cover_x, if_neg (by decide)]
  rfl
theorem leaf1 {v : V} (h : OkV v) : checkLeaf [v] = 0 := (checkLeaf_zero [v]).2 (leaf_one h)
theorem sync_xy {s : List V} (h : IsSync [exX] [exY] s) : s = [exY] := by
  refine h.ext ⟨⟨exY_ok, by decide, trivial⟩, fun x => ?_⟩
  rw [List.mem_singleton]
  have c1 : covers exX exY = false := by decide
  have c2 : covers exY exX = true := by decide
  have c3 : covers exY exY = false := by decide
  constructor
  · rintro rfl
    refine .inr ⟨List.mem_singleton.2 rfl, ⟨fun u hu => by rw [List.mem_singleton.1 hu]; exact c1, fun u hu => by rw [List.mem_singleton.1 hu]; exact c3⟩, fun y hy e => ?_⟩
    rw [List.mem_singleton.1 hy] at e
    exact absurd e (by decide)
  · rintro (⟨h1, h2, _⟩ | ⟨h1, _, _⟩)
    · rw [List.mem_singleton.1 h1] at h2
      have := h2.2 exY (List.mem_singleton.2 rfl)
      rw [c2] at this
      cases this
    · exact List.mem_singleton.1 h1
theorem sync_yz {s : List V} (h : IsSync [exY] [exZ] s) : s = [exZ, exY] := by
  refine h.ext ⟨⟨exZ_ok, by decide, exY_ok, by decide, trivial⟩, fun x => ?_⟩
  have c1 : covers exY exY = false := by decide
  have c2 : covers exY exZ = false := by decide
  have c3 : covers exZ exY = false := by decide
  have c4 : covers exZ exZ = false := by decide
  rw [List.mem_cons, List.mem_singleton]
  constructor
  · rintro (rfl | rfl)
    · refine .inr ⟨List.mem_singleton.2 rfl, ⟨fun u hu => by rw [List.mem_singleton.1 hu]; exact c2, fun u hu => by rw [List.mem_singleton.1 hu]; exact c4⟩, fun y hy e => ?_⟩
      rw [List.mem_singleton.1 hy] at e
      exact absurd e (by decide)
    · refine .inl ⟨List.mem_singleton.2 rfl, ⟨fun u hu => by rw [List.mem_singleton.1 hu]; exact c1, fun u hu => by rw [List.mem_singleton.1 hu]; exact c3⟩, fun y hy e => ?_⟩
      rw [List.mem_singleton.1 hy] at e
      exact absurd e (by decide)
  · rintro (⟨h1, _, _⟩ | ⟨h1, _, _⟩)
    · exact .inr (List.mem_singleton.1 h1)
    · exact .inl (List.mem_singleton.1 h1)
end Vc
theorem win_zy : winner [Vc.exZ, Vc.exY] = some Vc.exZ := by
  have h1 : Vc.live [Vc.exZ, Vc.exY] = [Vc.exZ, Vc.exY] := rfl
  unfold winner
  rw [h1]
  have h2 : (!([Vc.exZ, Vc.exY].any fun y => winsV y Vc.exZ)) = true := by decide
  rw [List.find?_cons, h2]

set_option maxRecDepth 100000 in
set_option maxHeartbeats 2000000 in
theorem awake_any (P : Prg) (w : World) : Calls Try.prog 10 #[] w fun e w' => e = .returned (.bool true) ∧ Below w.heap.size w w' := by
  have fX := few_leaf (Vc.leaf_one Vc.exX_ok)
  have fY := few_leaf (Vc.leaf_one Vc.exY_ok)
  have fZ := few_leaf (Vc.leaf_one Vc.exZ_ok)
  have fN : Few [] := few_leaf Vc.leaf_nil
  have K1 := hide fun W => P.write All none 0 [] fN (Nat.le_refl _) 0 1 ⟨#[120]⟩ W (fun _ _ => trivial) (SV.none _ _) (prov_all _ _ _)
  have K2 := hide fun r c (hc : [Vc.exX].length ≤ c) W h => P.write All r c [Vc.exX] fX hc 1 1 ⟨#[119]⟩ W (fun _ _ => trivial) h (prov_all _ _ _)
  have K3 := hide fun r c (hc : [Vc.exX].length ≤ c) W h => P.write All r c [Vc.exX] fX hc 0 2 ⟨#[121]⟩ W (fun _ _ => trivial) h (prov_all _ _ _)
  have K4 := hide fun r c q d (hc : [Vc.exY].length ≤ c) (hd : [Vc.exZ].length ≤ d) W h h' => P.sync All r q c d [Vc.exY] [Vc.exZ] fY fZ hc hd W (fun _ _ => trivial) h h' (prov_all _ _ _) (prov_all _ _ _)
  have K6 := hide fun r c q d (hc : [Vc.exX].length ≤ c) (hd : [Vc.exY].length ≤ d) W h h' => P.sync All r q c d [Vc.exX] [Vc.exY] fX fY hc hd W (fun _ _ => trivial) h h' (prov_all _ _ _) (prov_all _ _ _)
  rw [Vc.write_x] at K1
  rw [Vc.write_y] at K2
  rw [Vc.write_z] at K3
  clear fX fY fZ fN
  go_enter Try.func10, Try.ntmps10
  go_wp2_with fail
  refine (unhide K1 _).mono ?_
  rintro e w1 ⟨r1, c1, rfl, hc1, hs1, _, hb⟩
  have HB := hide hb
  have S1 := hide hs1
  have C1 := hide hc1
  clear hb hs1 hc1
  go_wp2_with fail
  refine (unhide K2 r1 c1 (unhide C1) _ (unhide S1)).mono ?_
  rintro e w2 ⟨r2, c2, rfl, hc2, hs2, _, hb⟩
  replace HB := hide (below_grow (unhide HB) (Nat.le_refl _) hb)
  replace S1 := hide ((unhide S1).after hb)
  have S2 := hide hs2
  have C2 := hide hc2
  clear hb hs2 hc2
  go_wp2_with fail
  refine (unhide K3 r1 c1 (unhide C1) _ (unhide S1)).mono ?_
  rintro e w3 ⟨r3, c3, rfl, hc3, hs3, _, hb⟩
  replace HB := hide (below_grow (unhide HB) (Nat.le_refl _) hb)
  replace S1 := hide ((unhide S1).after hb)
  replace S2 := hide ((unhide S2).after hb)
  have S3 := hide hs3
  have C3 := hide hc3
  clear hb hs3 hc3
  go_wp2_with fail
  refine (unhide K4 r2 c2 r3 c3 (unhide C2) (unhide C3) _ (unhide S2) (unhide S3)).mono ?_
  rintro e w4 ⟨s, r4, c4, rfl, hc4, hs4, _, hb, hgood, _⟩
  obtain rfl := Vc.sync_yz (hgood ⟨Vc.leaf1 Vc.exY_ok, Vc.leaf1 Vc.exZ_ok⟩)
  have K5 := hide fun W h => P.winner r4 c4 [Vc.exZ, Vc.exY] (few_sync hgood (fun h => absurd ⟨Vc.leaf1 Vc.exY_ok, Vc.leaf1 Vc.exZ_ok⟩ h)).1 (fun v hv => by have := Vc.vec_len ((few_sync hgood (fun h => absurd ⟨Vc.leaf1 Vc.exY_ok, Vc.leaf1 Vc.exZ_ok⟩ h)).2.up.mem hv).1.past; omega) hc4 W h
  replace HB := hide (below_grow (unhide HB) (Nat.le_refl _) hb)
  replace S1 := hide ((unhide S1).after hb)
  replace S2 := hide ((unhide S2).after hb)
  have S4 := hide hs4
  clear hb hs4 hc4 hgood
  go_wp2_with fail
  refine (unhide K5 _ (unhide S4)).mono ?_
  rintro e w5 ⟨v, r5, c5, is, rfl, _, hs5, hb, hwin⟩
  rw [win_zy] at hwin
  obtain ⟨rfl, hv⟩ : is = true ∧ Vc.exZ = v := by
    rcases hwin with ⟨h1, h2⟩ | ⟨_, h2, _⟩
    · injection h2 with h2; exact ⟨h1, h2⟩
    · cases h2
  subst hv
  replace HB := hide (below_grow (unhide HB) (Nat.le_refl _) hb)
  replace S1 := hide ((unhide S1).after hb)
  replace S2 := hide ((unhide S2).after hb)
  clear hb hwin hs5
  go_wp2_with (refine store_row (by rfl) 27 _ _ (by rfl) w5.heap.size (verL Vc.exZ r5 c5) (by rfl) (by rfl) 27 [.int .i64 0, .int .i64 0, .slice none 0 0, .bool false, .string ⟨#[]⟩] (VRow.newAt rfl) 5 size27 rfl rfl (verL_one _ _ _) ?_; intro w6 ho hr; have hb6 := (below_alloc' (w := w5) (.cells #[.int .i64 0, .int .i64 0, .slice none 0 0, .bool false, .string ⟨#[]⟩] 27)).trans (ho.below (Nat.le_refl _)); replace HB := hide (below_grow (unhide HB) (Nat.le_refl _) hb6); replace S1 := hide ((unhide S1).after hb6); replace S2 := hide ((unhide S2).after hb6); have RZ := hide hr; clear ho hr hb6)
  refine (unhide K6 r1 c1 r2 c2 (unhide C1) (unhide C2) _ (unhide S1) (unhide S2)).mono ?_
  rintro e w7 ⟨s, r7, c7, rfl, _, _, _, hb, hgood, _⟩
  obtain rfl := Vc.sync_xy (hgood ⟨Vc.leaf1 Vc.exX_ok, Vc.leaf1 Vc.exY_ok⟩)
  replace HB := hide (below_grow (unhide HB) (Nat.le_refl _) hb)
  replace RZ := hide ((unhide RZ).after hb)
  have z4 : w7.cell? ⟨w5.heap.size, 4, none⟩ = some (.string ⟨#[121]⟩) := (unhide RZ).cell 4 _ rfl
  clear hb hgood
  go_wp2_with fail
  go_ret
  exact ⟨rfl, unhide HB⟩
end Go.Proofs.Ytbghekolfcakeaa
