/-
  The walk of the statement on syncing, in whatever order and however often.
-/
import Derived.Test.YtbghekolfcakeaaWorld
namespace Go.Proofs.Ytbghekolfcakeaa
open Go.RowKit
namespace Vc
theorem max_asc (K0 K1 K2 : Int → Int) : (fun p => max (max (K0 p) (K1 p)) (K2 p)) = fun p => max (K0 p) (max (K1 p) (K2 p)) := funext fun p => by omega
theorem Net.order1 {all : List V} {n : Int → Int} {L : Nat → List V} (h : Net all n L) {ab bc x y : List V} (h1 : IsSync (L 0) (L 1) ab) (h2 : IsSync ab (L 2) x) (h3 : IsSync (L 1) (L 2) bc) (h4 : IsSync (L 0) bc y) : x = y := by
  obtain ⟨K, hK⟩ := h.ctx
  have l0 := (hK 0 (by omega)).2.1
  have l1 := (hK 1 (by omega)).2.1
  have l2 := (hK 2 (by omega)).2.1
  have kx := Leaf.sync h.wd (Leaf.sync h.wd l0 l1 h1) l2 h2
  have ky := Leaf.sync h.wd l0 (Leaf.sync h.wd l1 l2 h3) h4
  rw [max_asc] at kx
  exact kx.ext ky
theorem Net.order2 {all : List V} {n : Int → Int} {L : Nat → List V} (h : Net all n L) {ab cb x z : List V} (h1 : IsSync (L 0) (L 1) ab) (h2 : IsSync ab (L 2) x) (h5 : IsSync (L 2) (L 1) cb) (h6 : IsSync cb (L 0) z) : x = z := by
  obtain ⟨K, hK⟩ := h.ctx
  have l0 := (hK 0 (by omega)).2.1
  have l1 := (hK 1 (by omega)).2.1
  have l2 := (hK 2 (by omega)).2.1
  have kx := Leaf.sync h.wd (Leaf.sync h.wd l0 l1 h1) l2 h2
  have kz := Leaf.sync h.wd (Leaf.sync h.wd l2 l1 h5) l0 h6
  rw [show (fun p => max (max (K 2 p) (K 1 p)) (K 0 p)) = fun p => max (max (K 0 p) (K 1 p)) (K 2 p) from funext fun p => by omega] at kz
  exact kx.ext kz
theorem Net.order3 {all : List V} {n : Int → Int} {L : Nat → List V} (h : Net all n L) {ab x t : List V} (h1 : IsSync (L 0) (L 1) ab) (h2 : IsSync ab (L 2) x) (h7 : IsSync x (L 0) t) : x = t := by
  obtain ⟨K, hK⟩ := h.ctx
  have l0 := (hK 0 (by omega)).2.1
  have l1 := (hK 1 (by omega)).2.1
  have l2 := (hK 2 (by omega)).2.1
  have kx := Leaf.sync h.wd (Leaf.sync h.wd l0 l1 h1) l2 h2
  have kt := Leaf.sync h.wd kx l0 h7
  rw [show (fun p => max (max (max (K 0 p) (K 1 p)) (K 2 p)) (K 0 p)) = fun p => max (max (K 0 p) (K 1 p)) (K 2 p) from funext fun p => by omega] at kt
  exact kx.ext kt
theorem Net.order4 {all : List V} {n : Int → Int} {L : Nat → List V} (h : Net all n L) {bb : List V} (h8 : IsSync (L 1) (L 1) bb) : bb = L 1 := by
  obtain ⟨K, hK⟩ := h.ctx
  have l1 := (hK 1 (by omega)).2.1
  have kb := Leaf.sync h.wd l1 l1 h8
  rw [show (fun p => max (K 1 p) (K 1 p)) = K 1 from funext fun p => by omega] at kb
  exact kb.ext l1
end Vc

/-- A leaf in memory, with what is known of it. -/
structure LF (r : Option Addr) (c : Nat) (l : List Vc.V) (W : World) : Prop where
  ok : Vc.LeafOk l
  cap : l.length ≤ c
  sv : SV W r l
theorem LF.after {r : Option Addr} {c : Nat} {l : List Vc.V} {W W' : World} (h : LF r c l W) (hb : Below W.heap.size W W') : LF r c l W' := ⟨h.ok, h.cap, h.sv.after hb⟩
theorem LF.few {r : Option Addr} {c : Nat} {l : List Vc.V} {W : World} (h : LF r c l W) : Few l := few_leaf h.ok
theorem LF.zero {r : Option Addr} {c : Nat} {l : List Vc.V} {W : World} (h : LF r c l W) : Vc.checkLeaf l = 0 := (Vc.checkLeaf_zero l).2 h.ok
/-- Two leaves synced. -/
theorem Prg.syncs (P : Prg) {ra rb : Option Addr} {ca cb : Nat} {a b : List Vc.V} {W : World} (ha : LF ra ca a W) (hb : LF rb cb b W) :
    Calls Try.prog 32 #[.slice ra a.length ca, .slice rb b.length cb] W fun e w' => ∃ (s : List Vc.V) (r : Option Addr) (c : Nat), e = .returned (.slice r s.length c) ∧ LF r c s w' ∧ Vc.IsSync a b s ∧ Below W.heap.size W w' := by
  refine (P.sync All ra rb ca cb a b ha.few hb.few ha.cap hb.cap W (fun _ _ => trivial) ha.sv hb.sv (prov_all _ _ _) (prov_all _ _ _)).mono ?_
  rintro e w' ⟨s, r, c, h1, h2, h3, _, h5, h6, _⟩
  have hs := h6 ⟨ha.zero, hb.zero⟩
  exact ⟨s, r, c, h1, ⟨hs.leaf, h2, h3⟩, hs, h5⟩
theorem Prg.sames (P : Prg) {ra rb : Option Addr} {ca cb : Nat} {a : List Vc.V} {W : World} (ha : LF ra ca a W) (hb : LF rb cb a W) :
    Calls Try.prog 34 #[.slice ra a.length ca, .slice rb a.length cb] W fun e w' => e = .returned (.bool true) ∧ Below W.heap.size W w' :=
  P.same ra rb ca cb a a ha.few hb.few ha.cap hb.cap W ha.sv hb.sv true (by simp)

set_option maxRecDepth 100000 in
set_option maxHeartbeats 1000000 in
theorem order_walk (P : Prg) (a : Option Addr) (cap : Nat) (ss : List St) (hl : ss.length ≤ 9223372036854775807) (w : World) (h : SS w a ss) :
    Calls Try.prog 7 #[.slice a ss.length cap] w fun e w' => e = .returned (.bool true) ∧ Below w.heap.size w w' := by
  have KW := hide (world_any P a cap ss hl w h)
  have PR := hide P
  clear h P
  go_enter Try.func7, Try.ntmps7
  go_wp2_with fail
  refine (unhide KW).mono ?_
  rintro e w1 ⟨n, L, all, R, C, rA, cA, rfl, hnet, hlv, hcA, hal, hsA, hb⟩
  have HN := hide hnet
  have HB := hide hb
  have F0 : Hid (LF (R 0) (C 0) (L 0) w1) := hide ⟨hnet.leaf (by decide), (hlv 0 (by decide)).1, (hlv 0 (by decide)).2⟩
  have F1 : Hid (LF (R 1) (C 1) (L 1) w1) := hide ⟨hnet.leaf (by decide), (hlv 1 (by decide)).1, (hlv 1 (by decide)).2⟩
  have F2 : Hid (LF (R 2) (C 2) (L 2) w1) := hide ⟨hnet.leaf (by decide), (hlv 2 (by decide)).1, (hlv 2 (by decide)).2⟩
  have SA := hide hsA
  clear hnet hlv hb hsA KW
  simp only [rows3, leafF]
  generalize hr0 : R 0 = r0 at F0 ⊢
  generalize hr1 : R 1 = r1 at F1 ⊢
  generalize hr2 : R 2 = r2 at F2 ⊢
  generalize hc0 : C 0 = c0 at F0 ⊢
  generalize hc1 : C 1 = c1 at F1 ⊢
  generalize hc2 : C 2 = c2 at F2 ⊢
  obtain ⟨l0, hl0⟩ : ∃ l, L 0 = l := ⟨_, rfl⟩
  obtain ⟨l1, hl1⟩ : ∃ l, L 1 = l := ⟨_, rfl⟩
  obtain ⟨l2, hl2⟩ : ∃ l, L 2 = l := ⟨_, rfl⟩
  rw [hl0] at F0 ⊢
  rw [hl1] at F1 ⊢
  rw [hl2] at F2 ⊢
  have HL0 := hide hl0
  have HL1 := hide hl1
  have HL2 := hide hl2
  clear hr0 hr1 hr2 hc0 hc1 hc2 hl0 hl1 hl2
  go_wp2_with (refine store_row (by rfl) 47 _ _ (by rfl) w1.heap.size [.slice r0 l0.length c0, .slice r1 l1.length c1, .slice r2 l2.length c2] (by rfl) (by rfl) 47 zeros3 (VRow.newAt rfl) 3 size47 rfl rfl (by simp [Value.oneCell']) ?_; intro w2 ho hr; have hb2 := (below_alloc' (w := w1) (.cells zeros3.toArray 47)).trans (ho.below (Nat.le_refl _)); replace HB := hide (below_grow (unhide HB) (Nat.le_refl _) hb2); replace F0 := hide ((unhide F0).after hb2); replace F1 := hide ((unhide F1).after hb2); replace F2 := hide ((unhide F2).after hb2); replace SA := hide ((unhide SA).after hb2); have RL := hide hr; clear ho hr hb2)
  generalize w1.heap.size = DD at RL ⊢
  have d0 := (unhide RL).cell 0 _ rfl
  have d1 := (unhide RL).cell 1 _ rfl
  have d2 := (unhide RL).cell 2 _ rfl
  go_wp2_with fail
  go_quiet (fail)
  replace HB := hide (below_drewN (unhide HB) nq)
  replace F0 := hide ((unhide F0).after (below_drewN (Below.refl _ _) nq))
  replace F1 := hide ((unhide F1).after (below_drewN (Below.refl _ _) nq))
  replace F2 := hide ((unhide F2).after (below_drewN (Below.refl _ _) nq))
  clear d0 d1 d2 RL SA
  generalize w2.drewN nq = w3 at HB F0 F1 F2 ⊢
  go_wp2_with fail
  refine ((unhide PR).syncs (unhide F0) (unhide F1)).mono ?_
  rintro e w4 ⟨sAB, qAB, dAB, rfl, fAB, iAB, hb⟩
  replace HB := hide (below_grow (unhide HB) (Nat.le_refl _) hb)
  replace F0 := hide ((unhide F0).after hb)
  replace F1 := hide ((unhide F1).after hb)
  replace F2 := hide ((unhide F2).after hb)
  have AB := hide fAB
  have IAB := hide iAB
  clear hb fAB iAB
  go_wp2_with fail
  refine ((unhide PR).syncs (unhide AB) (unhide F2)).mono ?_
  rintro e w5 ⟨sX, qX, dX, rfl, fX, iX, hb⟩
  replace HB := hide (below_grow (unhide HB) (Nat.le_refl _) hb)
  replace F0 := hide ((unhide F0).after hb)
  replace F1 := hide ((unhide F1).after hb)
  replace F2 := hide ((unhide F2).after hb)
  replace AB := hide ((unhide AB).after hb)
  have X := hide fX
  have IX := hide iX
  clear hb fX iX
  go_wp2_with fail
  refine ((unhide PR).syncs (unhide F1) (unhide F2)).mono ?_
  rintro e w6 ⟨sBC, qBC, dBC, rfl, fBC, iBC, hb⟩
  replace HB := hide (below_grow (unhide HB) (Nat.le_refl _) hb)
  replace F0 := hide ((unhide F0).after hb)
  replace F1 := hide ((unhide F1).after hb)
  replace F2 := hide ((unhide F2).after hb)
  replace X := hide ((unhide X).after hb)
  have BC := hide fBC
  have IBC := hide iBC
  clear hb fBC iBC
  go_wp2_with fail
  refine ((unhide PR).syncs (unhide F0) (unhide BC)).mono ?_
  rintro e w7 ⟨sY, qY, dY, rfl, fY, iY, hb⟩
  replace HB := hide (below_grow (unhide HB) (Nat.le_refl _) hb)
  replace F0 := hide ((unhide F0).after hb)
  replace F1 := hide ((unhide F1).after hb)
  replace F2 := hide ((unhide F2).after hb)
  replace X := hide ((unhide X).after hb)
  have Y := hide fY
  have IY := hide iY
  clear hb fY iY
  have HXY : Hid (sX = sY) := hide ((unhide HN).order1 (by rw [unhide HL0, unhide HL1]; exact unhide IAB) (by rw [unhide HL2]; exact unhide IX) (by rw [unhide HL1, unhide HL2]; exact unhide IBC) (by rw [unhide HL0]; exact unhide IY))
  rw [← unhide HXY] at Y ⊢
  go_wp2_with fail
  refine ((unhide PR).sames (unhide X) (unhide Y)).mono ?_
  rintro e w8 ⟨rfl, hb⟩
  replace HB := hide (below_grow (unhide HB) (Nat.le_refl _) hb)
  replace F0 := hide ((unhide F0).after hb)
  replace F1 := hide ((unhide F1).after hb)
  replace F2 := hide ((unhide F2).after hb)
  replace X := hide ((unhide X).after hb)
  clear hb
  go_wp2_with fail
  refine ((unhide PR).syncs (unhide F2) (unhide F1)).mono ?_
  rintro e w9 ⟨sCB, qCB, dCB, rfl, fCB, iCB, hb⟩
  replace HB := hide (below_grow (unhide HB) (Nat.le_refl _) hb)
  replace F0 := hide ((unhide F0).after hb)
  replace F1 := hide ((unhide F1).after hb)
  replace F2 := hide ((unhide F2).after hb)
  replace X := hide ((unhide X).after hb)
  have CB := hide fCB
  have ICB := hide iCB
  clear hb fCB iCB
  go_wp2_with fail
  refine ((unhide PR).syncs (unhide CB) (unhide F0)).mono ?_
  rintro e w10 ⟨sZ, qZ, dZ, rfl, fZ, iZ, hb⟩
  replace HB := hide (below_grow (unhide HB) (Nat.le_refl _) hb)
  replace F0 := hide ((unhide F0).after hb)
  replace F1 := hide ((unhide F1).after hb)
  replace F2 := hide ((unhide F2).after hb)
  replace X := hide ((unhide X).after hb)
  have Z := hide fZ
  have IZ := hide iZ
  clear hb fZ iZ
  have HXZ : Hid (sX = sZ) := hide ((unhide HN).order2 (by rw [unhide HL0, unhide HL1]; exact unhide IAB) (by rw [unhide HL2]; exact unhide IX) (by rw [unhide HL1, unhide HL2]; exact unhide ICB) (by rw [unhide HL0]; exact unhide IZ))
  rw [← unhide HXZ] at Z ⊢
  go_wp2_with fail
  refine ((unhide PR).sames (unhide X) (unhide Z)).mono ?_
  rintro e w11 ⟨rfl, hb⟩
  replace HB := hide (below_grow (unhide HB) (Nat.le_refl _) hb)
  replace F0 := hide ((unhide F0).after hb)
  replace F1 := hide ((unhide F1).after hb)
  replace F2 := hide ((unhide F2).after hb)
  replace X := hide ((unhide X).after hb)
  clear hb
  go_wp2_with fail
  refine ((unhide PR).syncs (unhide X) (unhide F0)).mono ?_
  rintro e w12 ⟨sT, qT, dT, rfl, fT, iT, hb⟩
  replace HB := hide (below_grow (unhide HB) (Nat.le_refl _) hb)
  replace F0 := hide ((unhide F0).after hb)
  replace F1 := hide ((unhide F1).after hb)
  replace F2 := hide ((unhide F2).after hb)
  replace X := hide ((unhide X).after hb)
  have T := hide fT
  have IT := hide iT
  clear hb fT iT
  have HXT : Hid (sX = sT) := hide ((unhide HN).order3 (by rw [unhide HL0, unhide HL1]; exact unhide IAB) (by rw [unhide HL2]; exact unhide IX) (by rw [unhide HL0]; exact unhide IT))
  rw [← unhide HXT] at T ⊢
  go_wp2_with fail
  refine ((unhide PR).sames (unhide X) (unhide T)).mono ?_
  rintro e w13 ⟨rfl, hb⟩
  replace HB := hide (below_grow (unhide HB) (Nat.le_refl _) hb)
  replace F1 := hide ((unhide F1).after hb)
  clear hb
  go_wp2_with fail
  refine ((unhide PR).syncs (unhide F1) (unhide F1)).mono ?_
  rintro e w14 ⟨sBB, qBB, dBB, rfl, fBB, iBB, hb⟩
  replace HB := hide (below_grow (unhide HB) (Nat.le_refl _) hb)
  replace F1 := hide ((unhide F1).after hb)
  have BB := hide fBB
  have IBB := hide iBB
  clear hb fBB iBB
  have HBB : Hid (sBB = l1) := hide (by have := (unhide HN).order4 (bb := sBB) (by rw [unhide HL1]; exact unhide IBB); rw [this, unhide HL1])
  rw [unhide HBB] at BB ⊢
  go_wp2_with fail
  refine ((unhide PR).sames (unhide BB) (unhide F1)).mono ?_
  rintro e w15 ⟨rfl, hb⟩
  replace HB := hide (below_grow (unhide HB) (Nat.le_refl _) hb)
  clear hb
  go_wp2_with fail
  refine (awake_any (unhide PR) _).mono ?_
  rintro e w99 ⟨rfl, hb⟩
  replace HB := hide (below_grow (unhide HB) (Nat.le_refl _) hb)
  clear hb
  go_wp2_with fail
  go_ret
  exact ⟨by first | rfl | simp, unhide HB⟩
end Go.Proofs.Ytbghekolfcakeaa
