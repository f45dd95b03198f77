/-
  The node of a directory: what Node answers. Conditions: those that each theorem names.
-/
import Derived.Test.YtebjlmnhpfoglaaGreatDoorB23
import Derived.Test.YtebjlmnhpfoglaaGreatDoorB13
import Derived.Test.YtebjlmnhpfoglaaGreatDoorB09
import Derived.Test.YtebjlmnhpfoglaaGreatDoorB10
import Derived.Deep.RegionHeld3
import Derived.Test.YtebjlmnhpfoglaaGreatDoorB11
import Derived.Test.YtebjlmnhpfoglaaGreatDoorB14
namespace Go.Proofs.YtebjlmnhpfoglaaGreatDoor
open Go.RowKit

def NodeMadeB (w : World) (n : Nd) (D : Bool) (e : Ending) (w' : World) : Prop := ∃ a c b d, e = .returned (.tuple #[.agg (ndL n a c b d).toArray, .bool D]) ∧ NdAt w' n a c b d ∧ Below w.heap.size w w'
theorem results_nodeB {fn : Func} (hf : fn.results = #[.cell 4 52, .tmp 5]) (tmps : Array Value) (w : World) (g : Nat) (vs : List Value) (D : Bool) (hp : tmps.getD 4 undef = .pointer (some ⟨g, 0, none⟩)) (hd : tmps.getD 5 undef = .bool D) (hr : VRow w g 52 vs) (hn : vs.length = 2) :
    (results fn tmps).run Tryz.prog w = .ok (.tuple #[.agg vs.toArray, .bool D]) w := by
  have hp' : tmps[4]?.getD undef = .pointer (some ⟨g, 0, none⟩) := by simpa using hp
  have hd' : tmps[5]?.getD undef = .bool D := by simpa using hd
  have hl := run_loadVar_row (P := Tryz.prog) w g 52 52 vs.toArray (0, 0) _ hr Tryz.underlying52 rfl (by rw [sizeNd]; simp [hn])
  simp [results, hf, hp', hd', asAddr, hl]
theorem nd_slices {W : World} {B T : Nat} {r1 r2 : Option Addr} {n1 n2 c1 c2 : Nat} (h : VRow W B T [.slice r1 n1 c1, .slice r2 n2 c2]) {k : Nat} {v : Value} (hc : W.cell? ⟨B, k, none⟩ = some v) : ∃ r n c, v = .slice r n c := by
  rcases (show k = 0 ∨ k = 1 ∨ 2 ≤ k by omega) with rfl | rfl | hk
  · rw [h.cell 0 _ rfl] at hc
    injection hc with hc
    exact ⟨_, _, _, hc.symm⟩
  · rw [h.cell 1 _ rfl] at hc
    injection hc with hc
    exact ⟨_, _, _, hc.symm⟩
  · have e : W.heap[B]? = some (.cells #[.slice r1 n1 c1, .slice r2 n2 c2] T) := h
    simp [World.cell?, e] at hc
    rw [List.getElem?_eq_none (by simpa using hk)] at hc
    cases hc
/-- Versions lie in no block that has two slices. -/
theorem sv_off {W : World} {B T : Nat} {r1 r2 : Option Addr} {n1 n2 c1 c2 : Nat} (h : VRow W B T [.slice r1 n1 c1, .slice r2 n2 c2]) {r : Option Addr} {vs : List Vc.V} (hs : SV W r vs) : Prov (Off (some B)) W r vs := fun h0 g o e => by
  obtain ⟨g', o', e', hg, hc⟩ := hs h0
  rw [e] at e'
  injection e' with e'
  injection e' with e1 e2
  subst e1
  subst e2
  refine ⟨fun e3 => ?_, fun j v r' c' hj hcell ad ead h1 e3 => ?_⟩
  · injection e3 with e3
    subst e3
    obtain ⟨v, hv⟩ : ∃ v, vs[0]? = some v := ⟨_, List.getElem?_eq_getElem h0⟩
    obtain ⟨_, _, x0, _⟩ := hc 0 v hv
    obtain ⟨_, _, _, e4⟩ := nd_slices h x0
    cases e4
  · injection e3 with e3
    obtain ⟨r2', c2', _, _, x2, _, _, _, x6⟩ := hc j v hj
    rw [hcell] at x2
    injection x2 with x2
    injection x2 with x2 _ _
    subst x2
    obtain ⟨g2, o2, e4, hg2, hd⟩ := x6 h1
    rw [ead] at e4
    injection e4 with e4
    subst e4
    obtain ⟨d, hd0⟩ : ∃ d, v.past[0]? = some d := ⟨_, List.getElem?_eq_getElem h1⟩
    have x0 := (hd 0 d hd0).1
    have e5 : g2 = B := e3
    subst e5
    obtain ⟨_, _, _, e6⟩ := nd_slices h x0
    cases e6
theorem sk_off {W : World} {B T : Nat} {r1 r2 : Option Addr} {n1 n2 c1 c2 : Nat} (h : VRow W B T [.slice r1 n1 c1, .slice r2 n2 c2]) {r : Option Addr} {l : List Kd} (hs : SK W r l) : ∀ ad, r = some ad → 0 < l.length → ad.block ≠ B := fun ad e h0 e3 => by
  obtain ⟨g, o, e', hg, hc⟩ := hs h0
  rw [e] at e'
  injection e' with e'
  subst e'
  obtain ⟨k, hk⟩ : ∃ k, l[0]? = some k := ⟨_, List.getElem?_eq_getElem h0⟩
  have x0 := hc 0 k hk 0 _ rfl
  have e5 : g = B := e3
  subst e5
  obtain ⟨_, _, _, e6⟩ := nd_slices h x0
  cases e6
theorem there_is {t : List En} (h : Tr t) (d : ByteArray) : thereT t d = (d.data.toList.isEmpty || decide ((belowT t d).length ≠ 0)) := by
  have hb := there_below h d
  unfold thereT
  by_cases e : belowT t d = []
  · obtain ⟨h1, h2⟩ := hb.2 e
    rw [h1, h2, e]
    simp
  · have e2 : (belowT t d).length ≠ 0 := fun h => e (List.eq_nil_of_length_eq_zero h)
    rw [decide_eq_true e2]
    by_cases h1 : getT t d = []
    · have h2 : namesT t d ≠ [] := fun h2 => e (hb.1 ⟨h1, h2⟩)
      have h3 := List.length_pos_iff.2 h2
      rw [decide_eq_true h3]
      simp
    · have h3 := List.length_pos_iff.2 h1
      rw [decide_eq_true h3]
      simp

set_option maxRecDepth 100000 in
set_option maxHeartbeats 2000000 in
theorem treeNode_any (p : Option Addr) (t : List En) (ht : Tr t) (d : ByteArray) (hd : d.size ≤ maxLen) (w : World) (h : TrAt w p t) (hG : Hsh.Glob w) (h3 : 3 < w.heap.size) :
    Calls Tryz.prog 25 #[.pointer p, .string d] w (NodeMadeB w (if thereT t d = true then nodeF t d else ⟨[], []⟩) (thereT t d)) := by
  have HB0 := hide (below_alloc' (w := w) (.cells zeroN.toArray 52))
  have HR4 := hide (VRow.new w 52 zeroN)
  have HG := hide hG
  have HT := hide ht
  have HD := hide hd
  have KA := hide (all_any p t _ (h.after (unhide HB0)))
  have HVS : Hid (Vc.checkLeaf (nodeF t d).vs = 0) := hide (by rw [nodeF_eq]; exact getT_leaf ht d)
  have hth := there_is ht d
  obtain ⟨TH, hTH⟩ : ∃ TH, thereT t d = TH := ⟨_, rfl⟩
  obtain ⟨m, hm⟩ : ∃ m, (belowT t d).length = m := ⟨_, rfl⟩
  rw [hTH, hm] at hth
  rw [hTH]
  have HTH := hide hth
  obtain ⟨R, hR⟩ : ∃ R, (if TH = true then nodeF t d else ⟨[], []⟩ : Nd) = R := ⟨_, rfl⟩
  have HR := hide hR
  rw [hR]
  have HM := hide hm
  obtain ⟨n, hn⟩ : ∃ n, t.length = n := ⟨_, rfl⟩
  have HN := hide hn
  have hn128 : n ≤ 128 := by rw [← hn]; exact ht.few
  obtain ⟨k, hk⟩ : ∃ k, cntT t d = k := ⟨_, rfl⟩
  have HK := hide hk
  have hkn : k ≤ n := by rw [← hk, ← hn]; exact cnt_le t d
  rw [hn] at KA
  clear h hG ht hth hTH hm hn hk hd hR
  unfold zeroN at HB0 HR4 KA
  go_enter Tryz.func25, Tryz.ntmps25
  go_wp2_with fail
  refine (unhide KA).mono ?_
  rintro e w1 ⟨a, c, rfl, hc, hel, rfl⟩
  have hcn : n ≤ c := hc
  have HE1 := hide hel
  generalize w.alloc (.cells _ 52) = w1 at HB0 HR4 HE1 hel ⊢
  have KF := hide (find_any a c t (by rw [unhide HN]; omega) (unhide HT).srt (fun x hx => by have := path_size ((unhide HT).path x hx); unfold maxLen; omega) d (unhide HD) w1 hel)
  rw [unhide HN, unhide HK] at KF
  clear hel hc KA
  go_wp2_with fail
  refine (unhide KF).mono ?_
  rintro e w2 ⟨rfl, hb⟩
  have HB2 := hide (below_grow (unhide HB0) (Nat.le_refl _) hb)
  have HR42 := hide ((unhide HR4).after hb)
  have HE2 := hide ((unhide HE1).after hb)
  clear hb KF
  obtain ⟨A, cA, s2, hcA, hA⟩ := sliceE_from a t n c k (unhide HN) hkn hcn
  have HA := hide (hA w2 (unhide HE2))
  have KW := hide (within_any A cA (t.drop k) (by rw [List.length_drop, unhide HN]; omega) (by rw [List.length_drop, unhide HN]; exact hcA) (fun x hx => by have := path_size ((unhide HT).path x (List.mem_of_mem_drop hx)); omega) d w2 (unhide HA))
  have hrun := below_run (unhide HT).srt (unhide HT).path d
  rw [unhide HK] at hrun
  have HAB : Hid (EL w2 A (belowT t d)) := hide (by
    rw [← hrun]
    have h1 := (unhide HA).take ((t.drop k).takeWhile (atU d)).length
    rw [← List.prefix_iff_eq_take.1 (List.takeWhile_prefix _)] at h1
    exact h1)
  rw [hrun, unhide HM, List.length_drop, unhide HN] at KW
  have hmm : m ≤ cA := by
    rw [← unhide HM, ← hrun]
    have h1 := (List.takeWhile_prefix (l := t.drop k) (atU d)).length_le
    rw [List.length_drop, unhide HN] at h1
    omega
  have HMM := hide hmm
  clear hA hrun hmm hcn hcA
  go_wp2_with fail
  refine (unhide KW).mono ?_
  rintro e w3 ⟨rfl, _, hb⟩
  have HB3 := hide (below_grow (unhide HB2) (Nat.le_refl _) hb)
  have HR43 := hide ((unhide HR42).after hb)
  have HE3 := hide ((unhide HAB).after hb)
  clear hb KW s2
  have KN := hide fun W (hb : Below w3.heap.size w3 W) => nodeOf_any t (unhide HT) 4 d (by omega) W A cA (by rw [unhide HM]; exact unhide HMM) ((unhide HE3).after hb) ((unhide HG).below (below_grow (unhide HB3) (Nat.le_refl _) hb) h3) (Nat.lt_of_lt_of_le (Nat.lt_of_lt_of_le h3 (unhide HB3).size) hb.size)
  rw [unhide HM] at KN
  obtain ⟨NF, hNF⟩ : ∃ NF, nodeF t d = NF := ⟨_, rfl⟩
  have HNF := hide hNF
  rw [hNF] at KN HVS HR
  clear hNF
  have g0 := (unhide HR43).cell 0 _ rfl
  have g1 := (unhide HR43).cell 1 _ rfl
  have z0 := (unhide HR43).frozen 0
  have z1 := (unhide HR43).frozen 1
  rcases (show (m = 0 ∧ d.toList.isEmpty = false) ∨ (m = 0 ∧ d.toList.isEmpty = true) ∨ m ≠ 0 by
    by_cases hm : m = 0
    · cases h : d.toList.isEmpty with
      | false => exact .inl ⟨hm, rfl⟩
      | true => exact .inr (.inl ⟨hm, rfl⟩)
    · exact .inr (.inr hm)) with ⟨hm0, he⟩ | ⟨hm0, he⟩ | hm0
  · have hth : TH = false := by
      rw [unhide HTH, hm0, ← Lib.toList_data, he]
      rfl
    subst hth
    subst hm0
    have hr : (⟨[], []⟩ : Nd) = R := unhide HR
    subst hr
    go_wp2_with fail
    clear g0 g1 z0 z1
    have o1 := only_set w3 w.heap.size 0 (.slice none 0 0)
    have o2 := only_set (w3.setCell ⟨w.heap.size, 0, none⟩ (.slice none 0 0)) w.heap.size 1 (.slice none 0 0)
    have r9 := ((unhide HR43).set 0 (.slice none 0 0)).set 1 (.slice none 0 0)
    have b9 := ((unhide HB3).trans (o1.below (Nat.le_refl _))).trans (o2.below (Nat.le_refl _))
    refine bodyPost_ret (v := .tuple #[.agg (ndL ⟨[], []⟩ none 0 none 0).toArray, .bool false]) (results_nodeB rfl _ _ w.heap.size _ false rfl rfl r9 rfl) rfl ⟨none, 0, none, 0, rfl, ⟨Nat.le_refl _, Nat.le_refl _, SV.none _ _, fun h => absurd h (Nat.lt_irrefl _)⟩, b9⟩
  all_goals first
    | (have hth : TH = true := by
         rw [unhide HTH, ← Lib.toList_data, he]
         rfl
       subst hth
       subst hm0
       have hr : NF = R := unhide HR
       subst hr
       go_wp2_with fail
       have KNN := hide (unhide KN w3 (Below.refl _ _)))
    | (have hth : TH = true := by
         rw [unhide HTH, decide_eq_true hm0, Bool.or_true]
       have hm1 : ((m : Int) == 0) = false := beq_eq_false_iff_ne.2 (by omega)
       subst hth
       have hr : NF = R := unhide HR
       subst hr
       go_wp2_with fail
       have KNN := hide (unhide KN w3 (Below.refl _ _)))
  all_goals
    refine (unhide KNN).mono ?_
    rintro e w4 ⟨a1, c1, b1, d1, rfl, hat, hb⟩
    have HB4 := hide (below_grow (unhide HB3) (Nat.le_refl _) hb)
    have HR44 := hide ((unhide HR43).after hb)
    have HAT := hide hat
    clear hb hat KNN KN g0 g1 z0 z1
    have HLP := hide (leaf_pasts (unhide HVS))
    have HLL := hide (leaf_fewT (unhide HVS)).2
    go_wp2_with (refine store_row (by rfl) 52 (.tmp 10) (.tmp 34) (by rfl) w4.heap.size (ndL NF a1 c1 b1 d1) (by rfl) (by rfl) 52 zeroN (VRow.newAt rfl) 2 sizeNd rfl rfl (ndL_one _ _ _ _ _) ?_; intro w5 ho hr; have H45 := hide ((below_alloc' (w := w4) (.cells zeroN.toArray 52)).trans (ho.below (Nat.le_refl _))); have R5 := hide hr; clear ho hr; have q0 := (unhide R5).cell 0 _ rfl)
    have hlw := (unhide R5).lt
    have HLW := hide hlw
    refine (copy_any All a1 c1 NF.vs (by have := unhide HLL; omega) (fun v hv => by have := unhide HLP v hv; omega) w5 (fun _ _ => trivial) ((unhide HAT).sv.after (unhide H45)) (prov_all _ _ _)).mono ?_
    rintro e w6 ⟨r2, c2, rfl, hc2, hs2, _, hb6⟩
    have H56 := hide hb6
    have R6 := hide ((unhide R5).after hb6)
    have HB6 := hide (below_grow (below_grow (unhide HB4) (Nat.le_refl _) (unhide H45)) (Nat.le_refl _) hb6)
    have HR46 := hide (((unhide HR44).after (unhide H45)).after hb6)
    have HC2 := hide hc2
    have HS2 := hide hs2
    have hne : w.heap.size ≠ w4.heap.size := fun e => by have := (unhide HR44).lt; omega
    have HNE := hide hne
    clear hb6 hc2 hs2 q0 hlw hne
    have k0 := (unhide R6).cell 0 _ rfl
    have f0 := (unhide R6).frozen 0
    have o1 := hide (only_set w6 w4.heap.size 0 (.slice r2 NF.vs.length c2))
    have R7 := hide ((unhide R6).set 0 (.slice r2 NF.vs.length c2))
    have R47 := hide ((unhide HR46).only (unhide o1) (unhide HNE))
    have e0 := (unhide R7).cell 0 _ rfl
    have e1 := (unhide R7).cell 1 _ rfl
    have g0 := (unhide R47).cell 0 _ rfl
    have g1 := (unhide R47).cell 1 _ rfl
    have z0 := (unhide R47).frozen 0
    have z1 := (unhide R47).frozen 1
    go_wp2_with fail
    clear e0 e1 g0 g1 z0 z1 k0 f0
    have s6 := (unhide HS2)
    have s7 := sv_grown s6 (sv_off (unhide R6) s6) (grownBy_set w6 w4.heap.size 0 (.slice r2 NF.vs.length c2))
    have t6 := ((unhide HAT).sk.after (unhide H45)).after (unhide H56)
    have t7 := t6.only (unhide o1) (sk_off (unhide R6) t6)
    have R47' := unhide R47
    have b7 : Below w.heap.size w (w6.setCell ⟨w4.heap.size, 0, none⟩ (.slice r2 NF.vs.length c2)) := (unhide HB6).trans ((unhide o1).below (unhide HB4).size)
    generalize w6.setCell ⟨w4.heap.size, 0, none⟩ (.slice r2 NF.vs.length c2) = w7 at s7 t7 R47' b7 ⊢
    have o2 := only_set w7 w.heap.size 0 (.slice r2 NF.vs.length c2)
    have R8 := R47'.set 0 (.slice r2 NF.vs.length c2)
    have s8 := sv_grown s7 (sv_off R47' s7) (grownBy_set w7 w.heap.size 0 (.slice r2 NF.vs.length c2))
    have t8 := t7.only o2 (sk_off R47' t7)
    have b8 := b7.trans (o2.below (Nat.le_refl _))
    generalize w7.setCell ⟨w.heap.size, 0, none⟩ (.slice r2 NF.vs.length c2) = w8 at s8 t8 R8 b8 ⊢
    have o3 := only_set w8 w.heap.size 1 (.slice b1 NF.ks.length d1)
    have R9 := R8.set 1 (.slice b1 NF.ks.length d1)
    have s9 := sv_grown s8 (sv_off R8 s8) (grownBy_set w8 w.heap.size 1 (.slice b1 NF.ks.length d1))
    have t9 := t8.only o3 (sk_off R8 t8)
    have b9 := b8.trans (o3.below (Nat.le_refl _))
    exact bodyPost_ret (v := .tuple #[.agg (ndL NF r2 c2 b1 d1).toArray, .bool true]) (results_nodeB rfl _ _ w.heap.size _ true rfl rfl R9 rfl) rfl ⟨r2, c2, b1, d1, rfl, ⟨unhide HC2, (unhide HAT).kc, s9, t9⟩, b9⟩
end Go.Proofs.YtebjlmnhpfoglaaGreatDoor

/-
  Whether two trees are the same: the document's. Conditions: those that each theorem names.
-/

namespace Go.Proofs.YtebjlmnhpfoglaaGreatDoor
open Go.RowKit

theorem takeE_next {l m : List En} {k : Nat} {x y : En} (h : l.take k = m.take k) (hx : l[k]? = some x) (hy : m[k]? = some y) (e : x = y) : l.take (k + 1) = m.take (k + 1) := by
  rw [List.take_add_one, List.take_add_one, hx, hy, h, e]
theorem takeE_ne {l m : List En} {k : Nat} {x y : En} (hx : l[k]? = some x) (hy : m[k]? = some y) (e : x ≠ y) : l ≠ m := by
  rintro rfl
  rw [hx] at hy
  injection hy with hy
  exact e hy
theorem keepF {W0 w w' : World} {g i j g' i' j' : Nat} {x y x' y' : Value} (hg : g < W0.heap.size) (hg' : g' < W0.heap.size) (h : w.cell? ⟨g, i, none⟩ = some x ∧ w.cell? ⟨g, j, none⟩ = some y ∧ w.cell? ⟨g', i', none⟩ = some x' ∧ w.cell? ⟨g', j', none⟩ = some y' ∧ Below W0.heap.size W0 w) (hb : Below w.heap.size w w') :
    w'.cell? ⟨g, i, none⟩ = some x ∧ w'.cell? ⟨g, j, none⟩ = some y ∧ w'.cell? ⟨g', i', none⟩ = some x' ∧ w'.cell? ⟨g', j', none⟩ = some y' ∧ Below W0.heap.size W0 w' :=
  have hlt : g < w.heap.size := Nat.lt_of_lt_of_le hg h.2.2.2.2.size
  have hlt' : g' < w.heap.size := Nat.lt_of_lt_of_le hg' h.2.2.2.2.size
  ⟨(hb.cell (p := ⟨g, i, none⟩) hlt).trans h.1, (hb.cell (p := ⟨g, j, none⟩) hlt).trans h.2.1, (hb.cell (p := ⟨g', i', none⟩) hlt').trans h.2.2.1, (hb.cell (p := ⟨g', j', none⟩) hlt').trans h.2.2.2.1, below_grow h.2.2.2.2 (Nat.le_refl _) hb⟩
theorem drewF {W0 : World} {g i j g' i' j' : Nat} {x y x' y' : Value} (h0 : W0.cell? ⟨g, i, none⟩ = some x) (h1 : W0.cell? ⟨g, j, none⟩ = some y) (h2 : W0.cell? ⟨g', i', none⟩ = some x') (h3 : W0.cell? ⟨g', j', none⟩ = some y') :
    W0.drew.cell? ⟨g, i, none⟩ = some x ∧ W0.drew.cell? ⟨g, j, none⟩ = some y ∧ W0.drew.cell? ⟨g', i', none⟩ = some x' ∧ W0.drew.cell? ⟨g', j', none⟩ = some y' ∧ Below W0.heap.size W0 W0.drew := ⟨h0, h1, h2, h3, below_drew (Below.refl _ _)⟩
set_option maxRecDepth 100000 in
set_option maxHeartbeats 4000000 in
theorem refSameT_any (a b : Option Addr) (ca cb : Nat) (t u : List En) (hf : Eok t) (hg : Eok u) (w : World) (ha : EL w a t) (hb : EL w b u) (D : Bool) (hD : D = true ↔ t = u) :
    Calls Tryz.prog 14 #[.slice a t.length ca, .slice b u.length cb] w fun e w' => e = .returned (.bool D) ∧ Below w.heap.size w w' := by
  have HA := hide ha
  have HB := hide hb
  have HF := hide hf
  have HG := hide hg
  have HD := hide hD
  have hl := hf.len
  have hl2 := hg.len
  clear ha hb hf hg hD
  by_cases hlen : t.length = u.length
  · have hbe : ((t.length : Int) != (u.length : Int)) = false := by simp [hlen]
    have HLEN := hide hlen
    clear hlen
    go_enter Tryz.func14, Tryz.ntmps14
    go_wp2_with fail
    go_loopw [5] (fun i wr => ∃ k : Nat, k ≤ t.length ∧ i = .int .i64 k ∧ t.take k = u.take k ∧ Below w.heap.size w wr) (fun i _ => t.length - (intOf i).toNat)
    case atStart => exact ⟨0, Nat.zero_le _, rfl, rfl, Below.refl _ _⟩
    case round =>
      obtain ⟨k, hk, rfl, heq, hb⟩ := hrel
      have HEQ := hide heq
      have HBr := hide hb
      have S := (unhide HA).after hb
      have T := (unhide HB).after hb
      clear heq hb
      by_cases hlt : k < t.length
      · have hlt2 : k < u.length := by have := unhide HLEN; omega
        obtain ⟨x, hx⟩ : ∃ d, t[k]? = some d := ⟨_, List.getElem?_eq_getElem hlt⟩
        obtain ⟨y, hy⟩ : ∃ d, u[k]? = some d := ⟨_, List.getElem?_eq_getElem hlt2⟩
        obtain ⟨g, o, rfl, hg, hcell⟩ := S (by omega)
        obtain ⟨g', o', rfl, hg', hcell'⟩ := T (by omega)
        obtain ⟨q, d, h0, h1, h5, h6⟩ := hcell k x hx
        obtain ⟨q', d', h0', h1', h5', h6'⟩ := hcell' k y hy
        have HGa := hide hg
        have HGb := hide hg'
        have H6 := hide h6
        have H6' := hide h6'
        have hst := same_text x.1 y.1
        obtain ⟨V, hV⟩ := bool_of (x.2 = y.2)
        have K := hide fun W h h' => refSameVs_any q q' d d' x.2 y.2 ((unhide HF).few x (List.mem_of_getElem? hx)) ((unhide HG).few y (List.mem_of_getElem? hy)) W h h' V hV
        by_cases hxy : x.1 = y.1
        · rw [decide_eq_true hxy] at hst
          have HEQ2 : Hid (V = true → t.take (k + 1) = u.take (k + 1)) := hide (fun h => takeE_next (unhide HEQ) hx hy (Prod.ext hxy (hV.1 h)))
          have HNE : Hid (V = false → t ≠ u) := hide (fun h => takeE_ne hx hy fun e => by have := hV.2 (congrArg Prod.snd e); rw [h] at this; cases this)
          clear hcell hcell' hx hy h5 h6 h5' h6' hxy hV hg hg'
          go_wp2_with fail
          go_region_held3 (fun w' => w'.cell? ⟨g, o + k * 2, none⟩ = some (.string x.1) ∧ w'.cell? ⟨g, o + k * 2 + 1, none⟩ = some (.slice q x.2.length d) ∧ w'.cell? ⟨g', o' + k * 2, none⟩ = some (.string y.1) ∧ w'.cell? ⟨g', o' + k * 2 + 1, none⟩ = some (.slice q' y.2.length d') ∧ Below wr.heap.size wr w')
            (first | exact keepF (unhide HGa) (unhide HGb) (by assumption) (by assumption) | exact drewF h0 h1 h0' h1')
            (first
              | (go_at_call 16; refine (unhide K _ ((unhide H6).after (And.right (And.right (And.right (And.right (by assumption)))))) ((unhide H6').after (And.right (And.right (And.right (And.right (by assumption))))))).mono ?_; rintro e w4 ⟨rfl, hb4⟩))
          rename_i hHeld
          have HB4 := hide (below_grow (unhide HBr) (Nat.le_refl _) hHeld.2.2.2.2)
          clear hHeld h0 h1 h0' h1'
          cases V with
          | true =>
            go_wp2_with fail
            go_roundw
            case rel => exact ⟨k + 1, by omega, by go_num, unhide HEQ2 rfl, unhide HB4⟩
            case measure => simp [intOf]; omega
          | false =>
            obtain rfl : D = false := by
              cases D with
              | false => rfl
              | true => exact absurd ((unhide HD).1 rfl) (unhide HNE rfl)
            go_wp2_with fail
            go_ret
            exact ⟨rfl, unhide HB4⟩
        · rw [decide_eq_false hxy] at hst
          obtain rfl : D = false := by
            cases D with
            | false => rfl
            | true => exact absurd ((unhide HD).1 rfl) (takeE_ne hx hy fun e => hxy (congrArg Prod.fst e))
          clear hcell hcell' hx hy h5 h6 h5' h6' hxy hV hg hg'
          go_wp2_with fail
          refine wp_region_held_drew (S := fun W => W.cell? ⟨g, o + k * 2, none⟩ = some (.string x.1) ∧ W.cell? ⟨g', o' + k * 2, none⟩ = some (.string y.1)) (by kernel_rfl) ⟨h0, h0'⟩ (fun hS => ?_)
          refine wpAnyH_take (i := 0) (oi := { dst := some 17, op := Go.Op.move (Go.Operand.tmp 0), type := 22, pos := "ref.go:123", after := #[], guard := none }) (v := .slice (some ⟨g, o, none⟩) t.length ca) rfl (by kernel_rfl) (by kernel_rfl) (by kernel_rfl) (fun _ _ _ h => h) (Or.inl ⟨by rfl, ?_⟩) hS ?_
          · intro W hW; obtain ⟨hW1, hW2⟩ := hW; first | (go_simp; done) | (go_simp; with_reducible rfl)
          simp only [Act.put, List.setIfInBounds_toArray, List.set_cons_zero, List.set_cons_succ]
          refine wpAnyH_take (i := 1) (oi := { dst := some 18, op := Go.Op.move (Go.Operand.tmp 5), type := 3, pos := "ref.go:123", after := #[], guard := none }) (v := .int .i64 k) rfl (by kernel_rfl) (by kernel_rfl) (by kernel_rfl) (fun _ _ _ h => h) (Or.inl ⟨by rfl, ?_⟩) hS ?_
          · intro W hW; obtain ⟨hW1, hW2⟩ := hW; first | (go_simp; done) | (go_simp; with_reducible rfl)
          simp only [Act.put, List.setIfInBounds_toArray, List.set_cons_zero, List.set_cons_succ]
          refine wpAnyH_take (i := 2) (oi := { dst := some 19, op := Go.Op.indexAddr 22 (Go.Operand.tmp 17) (Go.Operand.tmp 18), type := 0, pos := "ref.go:123", after := #[{ on := 0, ground := Go.Ground.data }, { on := 1, ground := Go.Ground.data }], guard := none }) (v := .pointer (some ⟨g, o + k * 2, none⟩)) rfl (by kernel_rfl) (by kernel_rfl) (by kernel_rfl) (fun _ _ _ h => h) (Or.inl ⟨by rfl, ?_⟩) hS ?_
          · intro W hW; obtain ⟨hW1, hW2⟩ := hW; first | (go_simp; done) | (go_simp; with_reducible rfl)
          simp only [Act.put, List.setIfInBounds_toArray, List.set_cons_zero, List.set_cons_succ]
          refine wpAnyH_take (i := 3) (oi := { dst := some 20, op := Go.Op.fieldAddr 33 (Go.Operand.tmp 19) 0, type := 0, pos := "ref.go:123", after := #[{ on := 2, ground := Go.Ground.data }], guard := none }) (v := .pointer (some ⟨g, o + k * 2, none⟩)) rfl (by kernel_rfl) (by kernel_rfl) (by kernel_rfl) (fun _ _ _ h => h) (Or.inl ⟨by rfl, ?_⟩) hS ?_
          · intro W hW; obtain ⟨hW1, hW2⟩ := hW; first | (go_simp; done) | (go_simp; with_reducible rfl)
          simp only [Act.put, List.setIfInBounds_toArray, List.set_cons_zero, List.set_cons_succ]
          refine wpAnyH_take (i := 4) (oi := { dst := some 21, op := Go.Op.load 9 (Go.Operand.tmp 20), type := 9, pos := "ref.go:123", after := #[{ on := 3, ground := Go.Ground.data }], guard := none }) (v := .string x.1) rfl (by kernel_rfl) (by kernel_rfl) (by kernel_rfl) (fun _ _ _ h => h) (Or.inl ⟨by rfl, ?_⟩) hS ?_
          · intro W hW; obtain ⟨hW1, hW2⟩ := hW; first | (go_simp; done) | (go_simp; with_reducible rfl)
          simp only [Act.put, List.setIfInBounds_toArray, List.set_cons_zero, List.set_cons_succ]
          refine wpAnyH_take (i := 5) (oi := { dst := some 22, op := Go.Op.move (Go.Operand.tmp 1), type := 22, pos := "ref.go:123", after := #[], guard := none }) (v := .slice (some ⟨g', o', none⟩) u.length cb) rfl (by kernel_rfl) (by kernel_rfl) (by kernel_rfl) (fun _ _ _ h => h) (Or.inl ⟨by rfl, ?_⟩) hS ?_
          · intro W hW; obtain ⟨hW1, hW2⟩ := hW; first | (go_simp; done) | (go_simp; with_reducible rfl)
          simp only [Act.put, List.setIfInBounds_toArray, List.set_cons_zero, List.set_cons_succ]
          refine wpAnyH_take (i := 6) (oi := { dst := some 23, op := Go.Op.move (Go.Operand.tmp 5), type := 3, pos := "ref.go:123", after := #[], guard := none }) (v := .int .i64 k) rfl (by kernel_rfl) (by kernel_rfl) (by kernel_rfl) (fun _ _ _ h => h) (Or.inl ⟨by rfl, ?_⟩) hS ?_
          · intro W hW; obtain ⟨hW1, hW2⟩ := hW; first | (go_simp; done) | (go_simp; with_reducible rfl)
          simp only [Act.put, List.setIfInBounds_toArray, List.set_cons_zero, List.set_cons_succ]
          refine wpAnyH_take (i := 7) (oi := { dst := some 24, op := Go.Op.indexAddr 22 (Go.Operand.tmp 22) (Go.Operand.tmp 23), type := 0, pos := "ref.go:123", after := #[{ on := 5, ground := Go.Ground.data }, { on := 6, ground := Go.Ground.data }], guard := none }) (v := .pointer (some ⟨g', o' + k * 2, none⟩)) rfl (by kernel_rfl) (by kernel_rfl) (by kernel_rfl) (fun _ _ _ h => h) (Or.inl ⟨by rfl, ?_⟩) hS ?_
          · intro W hW; obtain ⟨hW1, hW2⟩ := hW; first | (go_simp; done) | (go_simp; with_reducible rfl)
          simp only [Act.put, List.setIfInBounds_toArray, List.set_cons_zero, List.set_cons_succ]
          refine wpAnyH_take (i := 8) (oi := { dst := some 25, op := Go.Op.fieldAddr 33 (Go.Operand.tmp 24) 0, type := 0, pos := "ref.go:123", after := #[{ on := 7, ground := Go.Ground.data }], guard := none }) (v := .pointer (some ⟨g', o' + k * 2, none⟩)) rfl (by kernel_rfl) (by kernel_rfl) (by kernel_rfl) (fun _ _ _ h => h) (Or.inl ⟨by rfl, ?_⟩) hS ?_
          · intro W hW; obtain ⟨hW1, hW2⟩ := hW; first | (go_simp; done) | (go_simp; with_reducible rfl)
          simp only [Act.put, List.setIfInBounds_toArray, List.set_cons_zero, List.set_cons_succ]
          refine wpAnyH_take (i := 9) (oi := { dst := some 26, op := Go.Op.load 9 (Go.Operand.tmp 25), type := 9, pos := "ref.go:123", after := #[{ on := 8, ground := Go.Ground.data }], guard := none }) (v := .string y.1) rfl (by kernel_rfl) (by kernel_rfl) (by kernel_rfl) (fun _ _ _ h => h) (Or.inl ⟨by rfl, ?_⟩) hS ?_
          · intro W hW; obtain ⟨hW1, hW2⟩ := hW; first | (go_simp; done) | (go_simp; with_reducible rfl)
          simp only [Act.put, List.setIfInBounds_toArray, List.set_cons_zero, List.set_cons_succ]
          refine wpAnyH_take (i := 10) (oi := { dst := some 27, op := Go.Op.binOp Go.BinOp.neq 9 (Go.Operand.tmp 21) (Go.Operand.tmp 26) 9, type := 4, pos := "ref.go:123", after := #[{ on := 4, ground := Go.Ground.data }, { on := 9, ground := Go.Ground.data }], guard := none }) (v := .bool true) rfl (by kernel_rfl) (by kernel_rfl) (by kernel_rfl) (fun _ _ _ h => h) (Or.inl ⟨by rfl, ?_⟩) hS ?_
          · intro W hW; obtain ⟨hW1, hW2⟩ := hW; first | (go_simp; done) | (go_simp; with_reducible rfl)
          simp only [Act.put, List.setIfInBounds_toArray, List.set_cons_zero, List.set_cons_succ]
          refine wpAnyH_take (i := 11) (oi := { dst := some 28, op := Go.Op.move (Go.Operand.tmp 27), type := 4, pos := "ref.go:123", after := #[{ on := 10, ground := Go.Ground.data }], guard := none }) (v := .bool true) rfl (by kernel_rfl) (by kernel_rfl) (by kernel_rfl) (fun _ _ _ h => h) (Or.inl ⟨by rfl, ?_⟩) hS ?_
          · intro W hW; obtain ⟨hW1, hW2⟩ := hW; first | (go_simp; done) | (go_simp; with_reducible rfl)
          simp only [Act.put, List.setIfInBounds_toArray, List.set_cons_zero, List.set_cons_succ]
          refine wpAnyH_take (i := 12) (oi := { dst := some 29, op := Go.Op.move (Go.Operand.tmp 0), type := 22, pos := "ref.go:123", after := #[{ on := 11, ground := Go.Ground.guard }], guard := some (11, false) }) (v := undef) rfl (by kernel_rfl) (by kernel_rfl) (by kernel_rfl) (fun _ _ _ h => h) (Or.inr ⟨by rfl, rfl⟩) hS ?_
          simp only [Act.put, List.setIfInBounds_toArray, List.set_cons_zero, List.set_cons_succ]
          refine wpAnyH_take (i := 13) (oi := { dst := some 30, op := Go.Op.move (Go.Operand.tmp 5), type := 3, pos := "ref.go:123", after := #[{ on := 11, ground := Go.Ground.guard }], guard := some (11, false) }) (v := undef) rfl (by kernel_rfl) (by kernel_rfl) (by kernel_rfl) (fun _ _ _ h => h) (Or.inr ⟨by rfl, rfl⟩) hS ?_
          simp only [Act.put, List.setIfInBounds_toArray, List.set_cons_zero, List.set_cons_succ]
          refine wpAnyH_take (i := 14) (oi := { dst := some 31, op := Go.Op.indexAddr 22 (Go.Operand.tmp 29) (Go.Operand.tmp 30), type := 0, pos := "ref.go:123", after := #[{ on := 12, ground := Go.Ground.data }, { on := 13, ground := Go.Ground.data }, { on := 11, ground := Go.Ground.guard }], guard := some (11, false) }) (v := undef) rfl (by kernel_rfl) (by kernel_rfl) (by kernel_rfl) (fun _ _ _ h => h) (Or.inr ⟨by rfl, rfl⟩) hS ?_
          simp only [Act.put, List.setIfInBounds_toArray, List.set_cons_zero, List.set_cons_succ]
          refine wpAnyH_take (i := 15) (oi := { dst := some 32, op := Go.Op.fieldAddr 33 (Go.Operand.tmp 31) 1, type := 0, pos := "ref.go:123", after := #[{ on := 14, ground := Go.Ground.data }, { on := 11, ground := Go.Ground.guard }], guard := some (11, false) }) (v := undef) rfl (by kernel_rfl) (by kernel_rfl) (by kernel_rfl) (fun _ _ _ h => h) (Or.inr ⟨by rfl, rfl⟩) hS ?_
          simp only [Act.put, List.setIfInBounds_toArray, List.set_cons_zero, List.set_cons_succ]
          refine wpAnyH_take (i := 16) (oi := { dst := some 33, op := Go.Op.load 31 (Go.Operand.tmp 32), type := 31, pos := "ref.go:123", after := #[{ on := 15, ground := Go.Ground.data }, { on := 11, ground := Go.Ground.guard }], guard := some (11, false) }) (v := undef) rfl (by kernel_rfl) (by kernel_rfl) (by kernel_rfl) (fun _ _ _ h => h) (Or.inr ⟨by rfl, rfl⟩) hS ?_
          simp only [Act.put, List.setIfInBounds_toArray, List.set_cons_zero, List.set_cons_succ]
          refine wpAnyH_take (i := 17) (oi := { dst := some 34, op := Go.Op.move (Go.Operand.tmp 1), type := 22, pos := "ref.go:123", after := #[{ on := 11, ground := Go.Ground.guard }], guard := some (11, false) }) (v := undef) rfl (by kernel_rfl) (by kernel_rfl) (by kernel_rfl) (fun _ _ _ h => h) (Or.inr ⟨by rfl, rfl⟩) hS ?_
          simp only [Act.put, List.setIfInBounds_toArray, List.set_cons_zero, List.set_cons_succ]
          refine wpAnyH_take (i := 18) (oi := { dst := some 35, op := Go.Op.move (Go.Operand.tmp 5), type := 3, pos := "ref.go:123", after := #[{ on := 11, ground := Go.Ground.guard }], guard := some (11, false) }) (v := undef) rfl (by kernel_rfl) (by kernel_rfl) (by kernel_rfl) (fun _ _ _ h => h) (Or.inr ⟨by rfl, rfl⟩) hS ?_
          simp only [Act.put, List.setIfInBounds_toArray, List.set_cons_zero, List.set_cons_succ]
          refine wpAnyH_take (i := 19) (oi := { dst := some 36, op := Go.Op.indexAddr 22 (Go.Operand.tmp 34) (Go.Operand.tmp 35), type := 0, pos := "ref.go:123", after := #[{ on := 17, ground := Go.Ground.data }, { on := 18, ground := Go.Ground.data }, { on := 11, ground := Go.Ground.guard }], guard := some (11, false) }) (v := undef) rfl (by kernel_rfl) (by kernel_rfl) (by kernel_rfl) (fun _ _ _ h => h) (Or.inr ⟨by rfl, rfl⟩) hS ?_
          simp only [Act.put, List.setIfInBounds_toArray, List.set_cons_zero, List.set_cons_succ]
          refine wpAnyH_take (i := 20) (oi := { dst := some 37, op := Go.Op.fieldAddr 33 (Go.Operand.tmp 36) 1, type := 0, pos := "ref.go:123", after := #[{ on := 19, ground := Go.Ground.data }, { on := 11, ground := Go.Ground.guard }], guard := some (11, false) }) (v := undef) rfl (by kernel_rfl) (by kernel_rfl) (by kernel_rfl) (fun _ _ _ h => h) (Or.inr ⟨by rfl, rfl⟩) hS ?_
          simp only [Act.put, List.setIfInBounds_toArray, List.set_cons_zero, List.set_cons_succ]
          refine wpAnyH_take (i := 21) (oi := { dst := some 38, op := Go.Op.load 31 (Go.Operand.tmp 37), type := 31, pos := "ref.go:123", after := #[{ on := 20, ground := Go.Ground.data }, { on := 11, ground := Go.Ground.guard }], guard := some (11, false) }) (v := undef) rfl (by kernel_rfl) (by kernel_rfl) (by kernel_rfl) (fun _ _ _ h => h) (Or.inr ⟨by rfl, rfl⟩) hS ?_
          simp only [Act.put, List.setIfInBounds_toArray, List.set_cons_zero, List.set_cons_succ]
          refine wpAnyH_take (i := 22) (oi := { dst := some 39, op := Go.Op.call { callee := Go.Callee.value (Go.Operand.func 16), args := #[Go.Operand.tmp 33, Go.Operand.tmp 38], argTypes := #[31, 31] }, type := 4, pos := "ref.go:123", after := #[{ on := 16, ground := Go.Ground.data }, { on := 21, ground := Go.Ground.data }, { on := 11, ground := Go.Ground.chain }, { on := 11, ground := Go.Ground.guard }], guard := some (11, false) }) (v := undef) rfl (by kernel_rfl) (by kernel_rfl) (by kernel_rfl) (fun _ _ _ h => h) (Or.inr ⟨by rfl, rfl⟩) hS ?_
          simp only [Act.put, List.setIfInBounds_toArray, List.set_cons_zero, List.set_cons_succ]
          refine wpAnyH_take (i := 23) (oi := { dst := some 40, op := Go.Op.unOp Go.UnOp.not 4 (Go.Operand.tmp 39), type := 4, pos := "ref.go:123", after := #[{ on := 22, ground := Go.Ground.data }, { on := 11, ground := Go.Ground.guard }], guard := some (11, false) }) (v := undef) rfl (by kernel_rfl) (by kernel_rfl) (by kernel_rfl) (fun _ _ _ h => h) (Or.inr ⟨by rfl, rfl⟩) hS ?_
          simp only [Act.put, List.setIfInBounds_toArray, List.set_cons_zero, List.set_cons_succ]
          refine wpAnyH_take (i := 24) (oi := { dst := some 41, op := Go.Op.pick (Go.Operand.tmp 28) (Go.Operand.const (Go.Value.bool true)) (Go.Operand.tmp 40), type := 4, pos := "ref.go:123", after := #[{ on := 11, ground := Go.Ground.data }, { on := 23, ground := Go.Ground.data }], guard := none }) (v := .bool true) rfl (by kernel_rfl) (by kernel_rfl) (by kernel_rfl) (fun _ _ _ h => h) (Or.inl ⟨by rfl, ?_⟩) hS ?_
          · intro W hW; obtain ⟨hW1, hW2⟩ := hW; first | (go_simp; done) | (go_simp; with_reducible rfl)
          simp only [Act.put, List.setIfInBounds_toArray, List.set_cons_zero, List.set_cons_succ]
          refine wpAnyH_done (by kernel_rfl) ?_ _
          have HB4 := hide (below_drew (unhide HBr))
          clear hS h0 h1 h0' h1'
          go_wp2_with fail
          go_ret
          exact ⟨rfl, unhide HB4⟩
      · obtain rfl : k = t.length := by omega
        obtain rfl : D = true := (unhide HD).2 (by have h := unhide HEQ; rw [List.take_length, unhide HLEN, List.take_length] at h; exact h)
        go_wp2_with fail
        go_ret
        exact ⟨rfl, unhide HBr⟩
  · have hbe : ((t.length : Int) != (u.length : Int)) = true := by simp; omega
    obtain rfl : D = false := by
      cases D with
      | false => rfl
      | true => exact absurd (by rw [(unhide HD).1 rfl]) hlen
    go_enter Tryz.func14, Tryz.ntmps14
    go_wp2_with fail
    go_ret
    exact ⟨rfl, Below.refl _ _⟩
end Go.Proofs.YtebjlmnhpfoglaaGreatDoor

/-
  Whether two leaves are the same: the program's.
-/

namespace Go.Proofs.YtebjlmnhpfoglaaGreatDoor
open Go.RowKit

set_option maxRecDepth 100000 in
set_option maxHeartbeats 1000000 in
theorem same1_any (v u : Vc.V) (r q : Option Addr) (c d : Nat) (hl : v.past.length ≤ 9223372036854775807) (w : World) (sv : Sl w r v.past) (su : Sl w q u.past) (D : Bool) (hD : D = true ↔ v = u) :
    Calls Tryz.prog 85 #[.agg (verL v r c).toArray, .agg (verL u q d).toArray] w fun e w' => e = .returned (.bool D) ∧ Below w.heap.size w w' := by
  rw [ver_eq] at hD
  obtain ⟨⟨p, n⟩, P, x, s⟩ := v
  obtain ⟨⟨p', n'⟩, P', x', s'⟩ := u
  unfold verL
  dsimp only at hD hl sv su ⊢
  by_cases hp : p = p'
  · subst hp
    by_cases hn : n = n'
    · subst hn

      have HB := hide ((below_alloc' (w := w) (.cells #[.int .i64 p, .int .i64 n, .slice r P.length c, .bool x, .string s] 64)).alloc (by simp) (.cells #[.int .i64 p, .int .i64 n, .slice q P'.length d, .bool x', .string s'] 64))
      have RS := hide ((VRow.new w 64 [.int .i64 p, .int .i64 n, .slice r P.length c, .bool x, .string s]).alloc (.cells #[.int .i64 p, .int .i64 n, .slice q P'.length d, .bool x', .string s'] 64))
      have RT := hide (VRow.newAt (W := w.alloc (.cells #[.int .i64 p, .int .i64 n, .slice r P.length c, .bool x, .string s] 64)) (T := 64) (n := w.heap.size + 1) (vs := [.int .i64 p, .int .i64 n, .slice q P'.length d, .bool x', .string s']) (by simp))
      have a0 := (unhide RS).cell 0 _ rfl
      have b0 := (unhide RT).cell 0 _ rfl
      have a1 := (unhide RS).cell 1 _ rfl
      have b1 := (unhide RT).cell 1 _ rfl
      have a2 := (unhide RS).cell 2 _ rfl
      have b2 := (unhide RT).cell 2 _ rfl
      have a3 := (unhide RS).cell 3 _ rfl
      have b3 := (unhide RT).cell 3 _ rfl
      have a4 := (unhide RS).cell 4 _ rfl
      have b4 := (unhide RT).cell 4 _ rfl
      clear RS RT
      have S := hide (sv.after (unhide HB))
      have T := hide (su.after (unhide HB))
      clear sv su
      by_cases hP : P = P'
      · have K := hide fun W h h' => same_any r q c d P P' hl W h h' true (by simp [hP])
        have KL := hide (show P.length = P'.length by rw [hP])
        by_cases hx : x = x'
        · subst hx
          have hxx : (x == x) = true := by simp
          by_cases hs : s = s'
          · subst hs
            obtain rfl : D = true := hD.2 ⟨rfl, rfl, rfl, hP⟩
            clear hD hP KL
            have hss : (s.toList == s.toList) = true := by simp
            go_enter Tryz.func85, Tryz.ntmps85
            go_wp2_with (go_at_call 86; refine (unhide K _ (unhide S) (unhide T)).mono ?_; rintro e w1 ⟨rfl, hb⟩; have HB1 := hide (below_grow (unhide HB) (Nat.le_refl _) hb); have c3 := (hb.cell (p := ⟨w.heap.size, 3, none⟩) (by simp; omega)).trans a3; have c4 := (hb.cell (p := ⟨w.heap.size, 4, none⟩) (by simp; omega)).trans a4; have e3 := (hb.cell (p := ⟨w.heap.size + 1, 3, none⟩) (by simp)).trans b3; have e4 := (hb.cell (p := ⟨w.heap.size + 1, 4, none⟩) (by simp)).trans b4; clear hb a0 a1 a2 a3 a4 b0 b1 b2 b3 b4)
            go_ret
            exact ⟨rfl, unhide HB1⟩
          · obtain rfl : D = false := by
              cases D with
              | false => rfl
              | true => exact absurd (hD.1 rfl).2.2.1 hs
            clear hD hP KL
            have hss : (s.toList == s'.toList) = false := (toList_eq s s').trans (decide_eq_false hs)
            go_enter Tryz.func85, Tryz.ntmps85
            go_wp2_with (go_at_call 86; refine (unhide K _ (unhide S) (unhide T)).mono ?_; rintro e w1 ⟨rfl, hb⟩; have HB1 := hide (below_grow (unhide HB) (Nat.le_refl _) hb); have c3 := (hb.cell (p := ⟨w.heap.size, 3, none⟩) (by simp; omega)).trans a3; have c4 := (hb.cell (p := ⟨w.heap.size, 4, none⟩) (by simp; omega)).trans a4; have e3 := (hb.cell (p := ⟨w.heap.size + 1, 3, none⟩) (by simp)).trans b3; have e4 := (hb.cell (p := ⟨w.heap.size + 1, 4, none⟩) (by simp)).trans b4; clear hb a0 a1 a2 a3 a4 b0 b1 b2 b3 b4)
            go_ret
            exact ⟨rfl, unhide HB1⟩
        · obtain rfl : D = false := by
            cases D with
            | false => rfl
            | true => exact absurd (hD.1 rfl).2.1 hx
          clear hD hP KL
          have hxx : (x == x') = false := by simpa using hx
          go_enter Tryz.func85, Tryz.ntmps85
          go_wp2_with (go_at_call 86; refine (unhide K _ (unhide S) (unhide T)).mono ?_; rintro e w1 ⟨rfl, hb⟩; have HB1 := hide (below_grow (unhide HB) (Nat.le_refl _) hb); have c3 := (hb.cell (p := ⟨w.heap.size, 3, none⟩) (by simp; omega)).trans a3; have c4 := (hb.cell (p := ⟨w.heap.size, 4, none⟩) (by simp; omega)).trans a4; have e3 := (hb.cell (p := ⟨w.heap.size + 1, 3, none⟩) (by simp)).trans b3; have e4 := (hb.cell (p := ⟨w.heap.size + 1, 4, none⟩) (by simp)).trans b4; clear hb a0 a1 a2 a3 a4 b0 b1 b2 b3 b4)
          go_ret
          exact ⟨rfl, unhide HB1⟩
      · have K := hide fun W h h' => same_any r q c d P P' hl W h h' false (by simp [hP])
        obtain rfl : D = false := by
          cases D with
          | false => rfl
          | true => exact absurd (hD.1 rfl).2.2.2 hP
        clear hD hP
        go_enter Tryz.func85, Tryz.ntmps85
        go_wp2_with (go_at_call 86; refine (unhide K _ (unhide S) (unhide T)).mono ?_; rintro e w1 ⟨rfl, hb⟩; have HB1 := hide (below_grow (unhide HB) (Nat.le_refl _) hb); clear hb a0 a1 a2 a3 a4 b0 b1 b2 b3 b4)
        go_ret
        exact ⟨rfl, unhide HB1⟩
    · obtain rfl : D = false := by
        cases D with
        | false => rfl
        | true => exact absurd (hD.1 rfl).1 (fun e => hn (by injection e))
      clear hD sv su

      have HB := hide ((below_alloc' (w := w) (.cells #[.int .i64 p, .int .i64 n, .slice r P.length c, .bool x, .string s] 64)).alloc (by simp) (.cells #[.int .i64 p, .int .i64 n', .slice q P'.length d, .bool x', .string s'] 64))
      have RS := hide ((VRow.new w 64 [.int .i64 p, .int .i64 n, .slice r P.length c, .bool x, .string s]).alloc (.cells #[.int .i64 p, .int .i64 n', .slice q P'.length d, .bool x', .string s'] 64))
      have RT := hide (VRow.newAt (W := w.alloc (.cells #[.int .i64 p, .int .i64 n, .slice r P.length c, .bool x, .string s] 64)) (T := 64) (n := w.heap.size + 1) (vs := [.int .i64 p, .int .i64 n', .slice q P'.length d, .bool x', .string s']) (by simp))
      have a0 := (unhide RS).cell 0 _ rfl
      have b0 := (unhide RT).cell 0 _ rfl
      have a1 := (unhide RS).cell 1 _ rfl
      have b1 := (unhide RT).cell 1 _ rfl
      have a2 := (unhide RS).cell 2 _ rfl
      have b2 := (unhide RT).cell 2 _ rfl
      have a3 := (unhide RS).cell 3 _ rfl
      have b3 := (unhide RT).cell 3 _ rfl
      have a4 := (unhide RS).cell 4 _ rfl
      have b4 := (unhide RT).cell 4 _ rfl
      clear RS RT
      go_enter Tryz.func85, Tryz.ntmps85
      go_wp2_with fail
      go_ret
      exact ⟨rfl, unhide HB⟩
  · obtain rfl : D = false := by
      cases D with
      | false => rfl
      | true => exact absurd (hD.1 rfl).1 (fun e => hp (by injection e))
    clear hD sv su

    have HB := hide ((below_alloc' (w := w) (.cells #[.int .i64 p, .int .i64 n, .slice r P.length c, .bool x, .string s] 64)).alloc (by simp) (.cells #[.int .i64 p', .int .i64 n', .slice q P'.length d, .bool x', .string s'] 64))
    have RS := hide ((VRow.new w 64 [.int .i64 p, .int .i64 n, .slice r P.length c, .bool x, .string s]).alloc (.cells #[.int .i64 p', .int .i64 n', .slice q P'.length d, .bool x', .string s'] 64))
    have RT := hide (VRow.newAt (W := w.alloc (.cells #[.int .i64 p, .int .i64 n, .slice r P.length c, .bool x, .string s] 64)) (T := 64) (n := w.heap.size + 1) (vs := [.int .i64 p', .int .i64 n', .slice q P'.length d, .bool x', .string s']) (by simp))
    have a0 := (unhide RS).cell 0 _ rfl
    have b0 := (unhide RT).cell 0 _ rfl
    have a1 := (unhide RS).cell 1 _ rfl
    have b1 := (unhide RT).cell 1 _ rfl
    have a2 := (unhide RS).cell 2 _ rfl
    have b2 := (unhide RT).cell 2 _ rfl
    have a3 := (unhide RS).cell 3 _ rfl
    have b3 := (unhide RT).cell 3 _ rfl
    have a4 := (unhide RS).cell 4 _ rfl
    have b4 := (unhide RT).cell 4 _ rfl
    clear RS RT
    go_enter Tryz.func85, Tryz.ntmps85
    go_wp2_with fail
    go_ret
    exact ⟨rfl, unhide HB⟩

set_option maxRecDepth 100000 in
set_option maxHeartbeats 1000000 in
theorem equalF_any (a b : Option Addr) (ca cb : Nat) (us vs : List Vc.V) (hf : Few us) (hg : Few vs) (w : World) (ha : SV w a us) (hb : SV w b vs) (D : Bool) (hD : D = true ↔ us = vs) :
    Calls Tryz.prog 84 #[.slice a us.length ca, .slice b vs.length cb, .func (.func 85) #[] #[]] w fun e w' => e = .returned (.bool D) ∧ Below w.heap.size w w' := by
  have HA := hide ha
  have HB := hide hb
  have HF := hide hf
  have HG := hide hg
  have HD := hide hD
  have hl := hf.1
  have hl2 := hg.1
  clear ha hb hf hg hD
  by_cases hlen : us.length = vs.length
  · have hbe : ((us.length : Int) != (vs.length : Int)) = false := by simp [hlen]
    have HLEN := hide hlen
    clear hlen
    go_enter Tryz.func84, Tryz.ntmps84
    go_wp2_with fail
    go_loopw [17] (fun i wr => ∃ k : Nat, k ≤ us.length ∧ i = .int .i64 k ∧ us.take k = vs.take k ∧ Below w.heap.size w wr) (fun i _ => us.length - (intOf i).toNat)
    case atStart => exact ⟨0, Nat.zero_le _, rfl, rfl, Below.refl _ _⟩
    case round =>
      obtain ⟨k, hk, rfl, heq, hb⟩ := hrel
      have HEQ := hide heq
      have HBr := hide hb
      have S := (unhide HA).after hb
      have T := (unhide HB).after hb
      clear heq hb
      by_cases hlt : k < us.length
      · have hlt2 : k < vs.length := by have := unhide HLEN; omega
        obtain ⟨x, hx⟩ : ∃ d, us[k]? = some d := ⟨_, List.getElem?_eq_getElem hlt⟩
        obtain ⟨y, hy⟩ : ∃ d, vs[k]? = some d := ⟨_, List.getElem?_eq_getElem hlt2⟩
        obtain ⟨g, o, rfl, hg, hcell⟩ := S (by omega)
        obtain ⟨g', o', rfl, hg', hcell'⟩ := T (by omega)
        obtain ⟨q, d, x0, x1, x2, x3, x4, h5, h6⟩ := hcell k x hx
        obtain ⟨q', d', h0', h1', h2', h3', h4', h5', h6'⟩ := hcell' k y hy
        have H6 := hide h6
        have H6' := hide h6'
        have K := hide fun E hE W h h' => same1_any x y q q' d d' ((unhide HF).at hx) W h h' E hE
        unfold verL at K
        have HX := hide hx
        have HY := hide hy
        have Y0 := hide h0'
        have Y1 := hide h1'
        have Y2 := hide h2'
        have Y3 := hide h3'
        have Y4 := hide h4'
        have HG' := hide hg'
        clear hcell hcell' hx hy h5 h6 h0' h1' h2' h3' h4' h5' h6' hg hg'
        go_wp2_with (first
          | (refine store_row (by rfl) 64 _ _ (by rfl) wr.heap.size (verL x q d) (by rfl) (by rfl) 64 zero64 (VRow.newAt rfl) 5 size64 rfl rfl (verL_one _ _ _) ?_; intro wz ho hr; have HZ := hide ((below_alloc' (w := wr) (.cells zero64.toArray 64)).trans (ho.below (Nat.le_refl _))); have RZ := hide hr; clear ho hr x0 x1 x2 x3 x4; have y0 := ((unhide HZ).cell (p := ⟨g', o' + k * 5, none⟩) (unhide HG')).trans (unhide Y0); have y1 := ((unhide HZ).cell (p := ⟨g', o' + k * 5 + 1, none⟩) (unhide HG')).trans (unhide Y1); have y2 := ((unhide HZ).cell (p := ⟨g', o' + k * 5 + 2, none⟩) (unhide HG')).trans (unhide Y2); have y3 := ((unhide HZ).cell (p := ⟨g', o' + k * 5 + 3, none⟩) (unhide HG')).trans (unhide Y3); have y4 := ((unhide HZ).cell (p := ⟨g', o' + k * 5 + 4, none⟩) (unhide HG')).trans (unhide Y4))
          | (refine store_row (by rfl) 64 _ _ (by rfl) wz.heap.size (verL y q' d') (by rfl) (by rfl) 64 zero64 (VRow.newAt rfl) 5 size64 rfl rfl (verL_one _ _ _) ?_; intro wy ho hr; have HY2 := hide ((below_alloc' (w := wz) (.cells zero64.toArray 64)).trans (ho.below (Nat.le_refl _))); have RY := hide hr; clear ho hr y0 y1 y2 y3 y4; have RX := hide ((unhide RZ).after (unhide HY2)); have z0 := (unhide RX).cell 0 _ rfl; have z1 := (unhide RX).cell 1 _ rfl; have z2 := (unhide RX).cell 2 _ rfl; have z3 := (unhide RX).cell 3 _ rfl; have z4 := (unhide RX).cell 4 _ rfl; have t0 := (unhide RY).cell 0 _ rfl; have t1 := (unhide RY).cell 1 _ rfl; have t2 := (unhide RY).cell 2 _ rfl; have t3 := (unhide RY).cell 3 _ rfl; have t4 := (unhide RY).cell 4 _ rfl))
        have HBy := hide (below_grow (unhide HZ) (Nat.le_refl _) (unhide HY2))
        by_cases hxy : x = y
        · refine (unhide K true (by simp [hxy]) _ ((unhide H6).after (unhide HBy)) ((unhide H6').after (unhide HBy))).mono ?_
          rintro e w2 ⟨rfl, hb2⟩
          have HB2 := hide (below_grow (below_grow (unhide HBr) (Nat.le_refl _) (unhide HBy)) (Nat.le_refl _) hb2)
          have HEQ2 : Hid (us.take (k + 1) = vs.take (k + 1)) := hide (by rw [take_snocA (unhide HX), take_snocA (unhide HY), unhide HEQ, hxy])
          clear hb2 z0 z1 z2 z3 z4 t0 t1 t2 t3 t4 hxy K
          go_wp2_with fail
          go_roundw
          case rel => exact ⟨k + 1, by omega, by go_num, unhide HEQ2, unhide HB2⟩
          case measure => simp [intOf]; omega
        · refine (unhide K false (by simp [hxy]) _ ((unhide H6).after (unhide HBy)) ((unhide H6').after (unhide HBy))).mono ?_
          rintro e w2 ⟨rfl, hb2⟩
          have HB2 := hide (below_grow (below_grow (unhide HBr) (Nat.le_refl _) (unhide HBy)) (Nat.le_refl _) hb2)
          obtain rfl : D = false := by
            cases D with
            | false => rfl
            | true =>
              have e := (unhide HD).1 rfl
              have hx := unhide HX
              rw [e, unhide HY] at hx
              injection hx with hx
              exact absurd hx.symm hxy
          clear hb2 z0 z1 z2 z3 z4 t0 t1 t2 t3 t4 hxy K
          go_wp2_with fail
          go_ret
          exact ⟨rfl, unhide HB2⟩
      · obtain rfl : k = us.length := by omega
        obtain rfl : D = true := (unhide HD).2 (by have h := unhide HEQ; rw [List.take_length, unhide HLEN, List.take_length] at h; exact h)
        go_wp2_with fail
        go_ret
        exact ⟨rfl, unhide HBr⟩
  · have hbe : ((us.length : Int) != (vs.length : Int)) = true := by simp; omega
    obtain rfl : D = false := by
      cases D with
      | false => rfl
      | true => exact absurd (by rw [(unhide HD).1 rfl]) hlen
    go_enter Tryz.func84, Tryz.ntmps84
    go_wp2_with fail
    go_ret
    exact ⟨rfl, Below.refl _ _⟩

set_option maxRecDepth 100000 in
set_option maxHeartbeats 400000 in
theorem sameL_any (a b : Option Addr) (ca cb : Nat) (us vs : List Vc.V) (hf : Few us) (hg : Few vs) (w : World) (ha : SV w a us) (hb : SV w b vs) (D : Bool) (hD : D = true ↔ us = vs) :
    Calls Tryz.prog 56 #[.slice a us.length ca, .slice b vs.length cb] w fun e w' => e = .returned (.bool D) ∧ Below w.heap.size w w' := by
  have K := hide (equalF_any a b ca cb us vs hf hg w ha hb D hD)
  clear ha hb hD
  go_enter Tryz.func56, Tryz.ntmps56
  go_wp2_with fail
  refine (unhide K).mono ?_
  rintro e w1 ⟨rfl, hb⟩
  have HB := hide hb
  clear hb
  go_wp2_with fail
  go_ret
  exact ⟨rfl, unhide HB⟩
end Go.Proofs.YtebjlmnhpfoglaaGreatDoor

/-
  Whether two trees are the same: what Same answers. Conditions: those that each theorem names.
-/

namespace Go.Proofs.YtebjlmnhpfoglaaGreatDoor
open Go.RowKit

set_option maxRecDepth 100000 in
set_option maxHeartbeats 1000000 in
theorem same1E_any (x y : En) (r q : Option Addr) (c d : Nat) (hx : Few x.2) (hy : Few y.2) (w : World) (sv : SV w r x.2) (su : SV w q y.2) (D : Bool) (hD : D = true ↔ x = y) :
    Calls Tryz.prog 55 #[.agg (entL x r c).toArray, .agg (entL y q d).toArray] w fun e w' => e = .returned (.bool D) ∧ Below w.heap.size w w' := by
  have HB := hide ((below_alloc1 (w := w) (.cells (entL x r c).toArray 33)).alloc (by simp) (.cells (entL y q d).toArray 33))
  have RS := (VRow.new w 33 (entL x r c)).alloc (.cells (entL y q d).toArray 33)
  have RT := VRow.newAt (W := w.alloc (.cells (entL x r c).toArray 33)) (T := 33) (n := w.heap.size + 1) (vs := entL y q d) (by simp)
  have a0 := RS.cell 0 _ rfl
  have a1 := RS.cell 1 _ rfl
  have b0 := RT.cell 0 _ rfl
  have b1 := RT.cell 1 _ rfl
  have S1 := hide (sv.after (unhide HB))
  have S2 := hide (su.after (unhide HB))
  by_cases hp : x.1 = y.1
  · have hE : (x.1.toList == y.1.toList) = true := by rw [same_text, decide_eq_true hp]
    have K := hide (fun W h1 h2 => sameL_any r q c d x.2 y.2 hx hy W h1 h2 D (hD.trans ⟨fun h => by rw [h], fun h => Prod.ext hp h⟩))
    clear sv su RS RT hD hp hx hy
    unfold entL at *
    go_enter Tryz.func55, Tryz.ntmps55
    go_wp2_with fail
    refine (unhide K _ (unhide S1) (unhide S2)).mono ?_
    rintro e w1 ⟨rfl, hb⟩
    have HB1 := hide (below_grow (unhide HB) (Nat.le_refl _) hb)
    clear hb a0 a1 b0 b1 K
    go_wp2_with fail
    go_ret
    exact ⟨rfl, unhide HB1⟩
  · have hE : (x.1.toList == y.1.toList) = false := by rw [same_text, decide_eq_false hp]
    obtain rfl : D = false := by
      cases D with
      | false => rfl
      | true => exact absurd (by rw [hD.1 rfl]) hp
    clear sv su RS RT hD hp hx hy
    unfold entL at *
    go_enter Tryz.func55, Tryz.ntmps55
    go_wp2_with fail
    go_ret
    exact ⟨rfl, unhide HB⟩

set_option maxRecDepth 100000 in
set_option maxHeartbeats 2000000 in
theorem equalE_any (a b : Option Addr) (ca cb : Nat) (us vs : List En) (hl : us.length ≤ 100000) (hl2 : vs.length ≤ 100000) (hf : ∀ x ∈ us, Few x.2) (hg : ∀ x ∈ vs, Few x.2) (w : World) (ha : EL w a us) (hb : EL w b vs) (D : Bool) (hD : D = true ↔ us = vs) :
    Calls Tryz.prog 54 #[.slice a us.length ca, .slice b vs.length cb, .func (.func 55) #[] #[]] w fun e w' => e = .returned (.bool D) ∧ Below w.heap.size w w' := by
  have HA := hide ha
  have HB := hide hb
  have HF := hide hf
  have HG := hide hg
  have HD := hide hD
  clear ha hb hf hg hD
  by_cases hlen : us.length = vs.length
  · have hbe : ((us.length : Int) != (vs.length : Int)) = false := by simp [hlen]
    have HLEN := hide hlen
    clear hlen
    go_enter Tryz.func54, Tryz.ntmps54
    go_wp2_with fail
    go_loopw [17] (fun i wr => ∃ k : Nat, k ≤ us.length ∧ i = .int .i64 k ∧ us.take k = vs.take k ∧ Below w.heap.size w wr) (fun i _ => us.length - (intOf i).toNat)
    case atStart => exact ⟨0, Nat.zero_le _, rfl, rfl, Below.refl _ _⟩
    case round =>
      obtain ⟨k, hk, rfl, heq, hb⟩ := hrel
      have HEQ := hide heq
      have HBr := hide hb
      have S := (unhide HA).after hb
      have T := (unhide HB).after hb
      clear heq hb
      by_cases hlt : k < us.length
      · have hlt2 : k < vs.length := by have := unhide HLEN; omega
        obtain ⟨x, hx⟩ : ∃ d, us[k]? = some d := ⟨_, List.getElem?_eq_getElem hlt⟩
        obtain ⟨y, hy⟩ : ∃ d, vs[k]? = some d := ⟨_, List.getElem?_eq_getElem hlt2⟩
        obtain ⟨g, o, rfl, hg, hcell⟩ := S (by omega)
        obtain ⟨g', o', rfl, hg', hcell'⟩ := T (by omega)
        obtain ⟨q, d, x0, x1, h5, h6⟩ := hcell k x hx
        obtain ⟨q', d', h0', h1', h5', h6'⟩ := hcell' k y hy
        have H6 := hide h6
        have H6' := hide h6'
        have K := hide fun E hE W h h' => same1E_any x y q q' d d' (unhide HF x (List.mem_of_getElem? hx)) (unhide HG y (List.mem_of_getElem? hy)) W h h' E hE
        have HX := hide hx
        have HY := hide hy
        have Y0 := hide h0'
        have Y1 := hide h1'
        have HG' := hide hg'
        unfold entL at K
        clear hcell hcell' hx hy h5 h6 h0' h1' h5' h6' hg hg'
        go_wp2_with (first
          | (refine store_row (by rfl) 33 _ _ (by rfl) wr.heap.size (entL x q d) (by rfl) (by rfl) 33 zeroEnL (VRow.newAt rfl) 2 sizeEn rfl rfl (entL_one _ _ _) ?_; intro wz ho hr; have HZ := hide ((below_alloc' (w := wr) (.cells zeroEnL.toArray 33)).trans (ho.below (Nat.le_refl _))); have RZ := hide hr; clear ho hr x0 x1; have y0 := ((unhide HZ).cell (p := ⟨g', o' + k * 2, none⟩) (unhide HG')).trans (unhide Y0); have y1 := ((unhide HZ).cell (p := ⟨g', o' + k * 2 + 1, none⟩) (unhide HG')).trans (unhide Y1))
          | (refine store_row (by rfl) 33 _ _ (by rfl) wz.heap.size (entL y q' d') (by rfl) (by rfl) 33 zeroEnL (VRow.newAt rfl) 2 sizeEn rfl rfl (entL_one _ _ _) ?_; intro wy ho hr; have HY2 := hide ((below_alloc' (w := wz) (.cells zeroEnL.toArray 33)).trans (ho.below (Nat.le_refl _))); have RY := hide hr; clear ho hr y0 y1; have RX := hide ((unhide RZ).after (unhide HY2)); have z0 := (unhide RX).cell 0 _ rfl; have z1 := (unhide RX).cell 1 _ rfl; have t0 := (unhide RY).cell 0 _ rfl; have t1 := (unhide RY).cell 1 _ rfl))
        have HBy := hide (below_grow (unhide HZ) (Nat.le_refl _) (unhide HY2))
        by_cases hxy : x = y
        · refine (unhide K true (by simp [hxy]) _ ((unhide H6).after (unhide HBy)) ((unhide H6').after (unhide HBy))).mono ?_
          rintro e w2 ⟨rfl, hb2⟩
          have HB2 := hide (below_grow (below_grow (unhide HBr) (Nat.le_refl _) (unhide HBy)) (Nat.le_refl _) hb2)
          have HEQ2 : Hid (us.take (k + 1) = vs.take (k + 1)) := hide (takeE_next (unhide HEQ) (unhide HX) (unhide HY) hxy)
          clear hb2 z0 z1 t0 t1 hxy K
          go_wp2_with fail
          go_roundw
          case rel => exact ⟨k + 1, by omega, by go_num, unhide HEQ2, unhide HB2⟩
          case measure => simp [intOf]; omega
        · refine (unhide K false (by simp [hxy]) _ ((unhide H6).after (unhide HBy)) ((unhide H6').after (unhide HBy))).mono ?_
          rintro e w2 ⟨rfl, hb2⟩
          have HB2 := hide (below_grow (below_grow (unhide HBr) (Nat.le_refl _) (unhide HBy)) (Nat.le_refl _) hb2)
          obtain rfl : D = false := by
            cases D with
            | false => rfl
            | true => exact absurd ((unhide HD).1 rfl) (takeE_ne (unhide HX) (unhide HY) hxy)
          clear hb2 z0 z1 t0 t1 hxy K
          go_wp2_with fail
          go_ret
          exact ⟨rfl, unhide HB2⟩
      · obtain rfl : k = us.length := by omega
        obtain rfl : D = true := (unhide HD).2 (by have h := unhide HEQ; rw [List.take_length, unhide HLEN, List.take_length] at h; exact h)
        go_wp2_with fail
        go_ret
        exact ⟨rfl, unhide HBr⟩
  · have hbe : ((us.length : Int) != (vs.length : Int)) = true := by simp; omega
    obtain rfl : D = false := by
      cases D with
      | false => rfl
      | true => exact absurd (by rw [(unhide HD).1 rfl]) hlen
    go_enter Tryz.func54, Tryz.ntmps54
    go_wp2_with fail
    go_ret
    exact ⟨rfl, Below.refl _ _⟩

set_option maxRecDepth 100000 in
set_option maxHeartbeats 400000 in
theorem treeSame_any (p q : Option Addr) (t u : List En) (ht : Tr t) (hu : Tr u) (w : World) (h : TrAt w p t) (k : TrAt w q u) (D : Bool) (hD : D = true ↔ t = u) :
    Calls Tryz.prog 29 #[.pointer p, .pointer q] w fun e w' => e = .returned (.bool D) ∧ Below w.heap.size w w' := by
  have K1 := hide (all_any p t w h)
  have K2 := hide (all_any q u w k)
  have HD := hide hD
  have HF := hide ht.eok
  have HG := hide hu.eok
  clear h k hD ht hu
  go_enter Tryz.func29, Tryz.ntmps29
  go_wp2_with fail
  refine (unhide K1).mono ?_
  rintro e w0 ⟨a, ca, rfl, hca, hel, hw⟩
  have hw' := hw.symm
  subst hw'
  have HE := hide hel
  clear hel hw hca K1
  go_wp2_with fail
  refine (unhide K2).mono ?_
  rintro e w0 ⟨b, cb, rfl, hcb, hel, hw⟩
  have hw' := hw.symm
  subst hw'
  have K3 := hide (equalE_any a b ca cb t u (by have := (unhide HF).len; omega) (by have := (unhide HG).len; omega) (unhide HF).few (unhide HG).few w (unhide HE) hel D (unhide HD))
  clear hel hw hcb K2
  go_wp2_with fail
  refine (unhide K3).mono ?_
  rintro e w1 ⟨rfl, hb⟩
  have HB := hide hb
  clear hb K3
  go_wp2_with fail
  go_ret
  exact ⟨rfl, unhide HB⟩
end Go.Proofs.YtebjlmnhpfoglaaGreatDoor
