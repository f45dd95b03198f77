/-
  What Texts answers lies in a row of its own; how great it is; digests that are alike of trees that are not. Conditions: those that each theorem names.
-/
import Derived.Test.YtebjlmnhpfoglaaGreatDoorB25
import Derived.Test.YtebjlmnhpfoglaaGreatDoorB24
import Derived.Test.YtebjlmnhpfoglaaGreatDoorC01
namespace Go.Proofs.YtebjlmnhpfoglaaGreatDoor
open Go.RowKit

def MadeTO (w : World) (bs : List ByteArray) (e : Ending) (w' : World) : Prop := ∃ a cap, e = .returned (.slice a bs.length cap) ∧ bs.length ≤ cap ∧ Pth.Sl w' a bs ∧ (∀ g o, a = some ⟨g, o, none⟩ → w.heap.size ≤ g) ∧ Below w.heap.size w w' ∧ OT w' w.heap.size (.slice a bs.length cap) bs
theorem of_len : ∀ (l : List En) (st : List En × Int), Tr st.1 → (l.foldl ofStep st).1.length ≤ st.1.length + l.length
  | [], st, _ => by simp
  | x :: l, st, h => by
    have h1 : Tr (ofStep st x).1 := of_tr [x] st h
    have h2 := of_len l (ofStep st x) h1
    have h3 : (ofStep st x).1.length ≤ st.1.length + 1 := by
      unfold ofStep
      split
      · omega
      · have h4 := len_put x.1 x.2 h.srt
        by_cases hz : (setT st.1 x.1 x.2).2 = 0
        · rw [(setT_zero hz).2.2]; exact h4
        · rw [setT_bad hz]; simp
    show (l.foldl ofStep (ofStep st x)).1.length ≤ _
    rw [List.length_cons]
    omega
theorem ofT_len (l : List En) : (ofT l).1.length ≤ l.length := by
  have h := of_len l ([], 0) Tr.nil
  simpa [ofT] using h
theorem shownT_len (t : List En) : (shownT t).length ≤ t.length := List.length_filterMap_le _ _
theorem texts_size {t : List En} (ht : Tr t) : ∀ (k : Nat) (d : ByteArray), ∀ x ∈ textsT k t d, x.size ≤ 90000
  | k, d, x, hx => by
    have hme : (str (bytesN (nodeF t d)).1).size ≤ 90000 := by
      rw [node_bytes ht d, str_size]
      exact Nat.le_trans (encN_small (node_ok ht.eok d).1 (node_fine ht d)) (show 60000 ≤ 90000 by omega)
    cases k with
    | zero =>
      have h1 : x ∈ [str (bytesN (nodeF t d)).1] := hx
      rw [List.mem_singleton.1 h1]
      exact hme
    | succ k =>
      have h1 : x ∈ str (bytesN (nodeF t d)).1 :: (namesT t d).flatMap fun s => textsT k t (downE d s) := hx
      rcases List.mem_cons.1 h1 with rfl | h2
      · exact hme
      · obtain ⟨s, _, h3⟩ := List.mem_flatMap.1 h2
        exact texts_size ht k _ x h3

set_option maxRecDepth 100000 in
set_option maxHeartbeats 4000000 in
theorem refTextsO_step (a : Option Addr) (cap : Nat) (t : List En) (ht : Eok t) (h12 : t.length ≤ 12) (d : ByteArray) (hd : d.size ≤ 1000) (w : World) (h : EL w a t) (hG : Hsh.RefKeys w) (h3 : 3 < w.heap.size)
    (ih : ∀ s ∈ namesT t d, ∀ W, EL W a t → Hsh.RefKeys W → 3 < W.heap.size → Calls Tryz.prog 31 #[.slice a t.length cap, .string (downE d s)] W (MadeTO W (textsF t (downE d s)))) :
    Calls Tryz.prog 31 #[.slice a t.length cap, .string d] w (MadeTO w (textsF t d)) := by
  have HS := hide h
  have HG := hide hG
  have KN := hide (refNodeF_any a cap t ht d hd w h hG h3)
  have HOK := hide (node_ok ht d)
  have KM := hide fun W (h : EL W a t) => refNames_any a cap t ht d hd W h
  have HPB := hide (fun s (hs : s ∈ namesT t d) => isN_size (parts_below (t := t) hs).2.1)
  have IH := hide ih
  have HLS := hide (fun l j s h => textsL_snoc t d l j s h)
  have HNL := hide (len_names t d)
  have HTF : Hid (textsF t d = textsL t d (namesT t d)) := hide (textsF_eq t d)
  have HT0 : Hid (textsL t d [] = [str (bytesN (nodeF t d)).1]) := hide rfl
  have HLL := hide (fun l (hl : l.length ≤ 12) => textsL_len h12 d l hl)
  have HFF := hide (fun q => textsF_few (t := t) (by omega) q)
  have KB := hide (fun (A : Option Addr) (C : Nat) (B : Option Addr) (D : Nat) (W : World) (hat : NdAt W (nodeF t d) A C B D) => refBytesN_any A C B D _ (unhide HOK).1 (unhide HOK).2 W hat)
  rw [unhide HTF]
  obtain ⟨N, hN⟩ : ∃ N, namesT t d = N := ⟨_, rfl⟩
  rw [hN] at KM HPB HNL IH ⊢
  generalize nodeF t d = M at KN KB HT0 HOK
  generalize str (bytesN M).1 = T0 at KB HT0
  generalize (bytesN M).2 = E0 at KB
  clear h hG ih ht hN HTF HOK
  go_enter Tryz.func31, Tryz.ntmps31
  go_wp2_with fail
  refine (unhide KN).mono ?_
  rintro e w1 ⟨a6, c6, b6, d6, rfl, hat6, hb⟩
  have HB1 := hide hb
  have HAT := hide hat6
  clear hb hat6 KN
  go_wp2_with fail
  refine (unhide KB _ _ _ _ _ (unhide HAT)).mono ?_
  rintro e w2 ⟨rfl, hb⟩
  have HB2 := hide (below_grow (unhide HB1) (Nat.le_refl _) hb)
  clear hb KB HAT HB1
  go_wp2_with fail
  have HO2 := hide (OT.one w2 w.heap.size (unhide HB2).size T0)
  have HB3 := hide ((unhide HB2).alloc (unhide HB2).size (.cells #[.string T0] 9))
  have HZ3 : Hid (w2.heap.size < (w2.alloc (.cells #[.string T0] 9)).heap.size) := hide (by simp)
  generalize w2.alloc (.cells #[.string T0] 9) = W3 at HO2 HB3 HZ3 ⊢
  refine (unhide KM _ ((unhide HS).after (unhide HB3))).mono ?_
  rintro e w4 ⟨a4, c4, rfl, hc4, hsl4, hfr4, hb4⟩
  have HO4 := hide ((unhide HO2).after hb4)
  have HB4 := hide (below_grow (unhide HB3) (Nat.le_refl _) hb4)
  have HSL := hide hsl4
  have HFR : Hid (∀ g o, a4 = some ⟨g, o, none⟩ → w2.heap.size < g) := hide (fun g o e => Nat.lt_of_lt_of_le (unhide HZ3) (hfr4 g o e))
  clear hsl4 hfr4 hb4 HB3 HO2 HB2
  go_wp2_with fail
  go_loopw [7, 9] (fun o i wr => ∃ (j : Nat), j ≤ N.length ∧ i = .int .i64 j ∧ OT wr w.heap.size o (textsL t d (N.take j)) ∧ Pth.Sl wr a4 N ∧ (∀ g q, a4 = some ⟨g, q, none⟩ → some g ≠ o.ownBlock) ∧ Below w.heap.size w wr) (fun _ i _ => N.length - (intOf i).toNat)
  case atStart => exact ⟨0, Nat.zero_le _, rfl, by rw [List.take_zero, unhide HT0]; exact unhide HO4, unhide HSL, fun g q e h => (by have := unhide HFR g q e; injection h with h; have h' : g = w2.heap.size := h; omega), unhide HB4⟩
  case round =>
    obtain ⟨j, hj, rfl, hot, hsl, hne, hb⟩ := hrel
    have HO := hide hot
    have HSLr := hide hsl
    have HNE := hide hne
    have HB := hide hb
    have hnl := unhide HNL
    have hsz := hb.size
    by_cases hlt : j < N.length
    · obtain ⟨s, hs⟩ : ∃ s, N[j]? = some s := ⟨_, List.getElem?_eq_getElem hlt⟩
      obtain ⟨g, o, rfl, hg, hcell⟩ := hsl (by omega)
      have z0 := hcell j s hs
      have hsm := List.mem_of_getElem? hs
      have HSN := hide (unhide HLS N j s hs)
      have HI := hide (unhide IH s hsm)
      have hss := unhide HPB s hsm
      have hll := unhide HLL (N.take j) (by rw [List.length_take]; omega)
      have hff := unhide HFF (downE d s)
      have KD := hide (fun W => refDown_any d s (by omega) (by omega) W)
      generalize textsL t d (N.take j) = L at HO HSN hll
      generalize textsF t (downE d s) = F at HI HSN hff
      generalize downE d s = E at KD HI
      clear hot hsl hne hb hcell hs hsm hg hss
      go_wp2_with fail
      refine (unhide KD _).mono ?_
      rintro e w5 ⟨rfl, rfl⟩
      go_wp2_with fail
      refine (unhide HI _ ((unhide HS).after (unhide HB)) ((unhide HG).below (unhide HB) (by omega)) (Nat.lt_of_lt_of_le h3 (unhide HB).size)).mono ?_
      rintro e w6 ⟨a6, c6, rfl, hc6, hsl6, _, hb6, _⟩
      have HO6 := hide ((unhide HO).after hb6)
      have HSL6 := hide ((unhide HSLr).after hb6)
      have HS6 := hide hsl6
      have HB6 := hide (below_grow (unhide HB) (Nat.le_refl _) hb6)
      have hlt6 : ∀ g' o', some (⟨g, o, none⟩ : Addr) = some ⟨g', o', none⟩ → g' < w6.heap.size := fun g' o' e => by
        obtain ⟨g2, o2, e2, h2, _⟩ := hsl6 |> fun _ => (unhide HSL6) (by omega)
        rw [e] at e2
        injection e2 with e2
        injection e2 with e3
        rw [e3]
        exact h2
      clear hb6 hsl6 z0 HO HSLr HB
      go_wp2_with (at_builtin; refine append_txt (by rfl) _ _ (by rfl) w.heap.size _ L (by rfl) (unhide HO6) a6 F.length c6 F rfl (by rfl) (unhide HS6) (by omega) (unhide HB6).size ?_; intro v7 w7 hot7 hb7 hg7 hv7; have HO7 := hide hot7; have HB7 := hide ((unhide HB6).trans hb7); have HSL7 := hide (sl_grown (unhide HSL6) (unhide HNE) hg7); have HNE7 : Hid (∀ g' q, some (⟨g, o, none⟩ : Addr) = some ⟨g', q, none⟩ → some g' ≠ v7.ownBlock) := hide (fun g' q e h => by rcases hv7 with hv | hv; exact unhide HNE g' q e (h.trans hv); have h8 := h.trans hv; injection h8 with h8; have h9 := hlt6 g' q e; omega); clear hot7 hb7 hg7 hv7)
      go_roundw
      case rel => exact ⟨j + 1, by omega, by go_num, by rw [unhide HSN]; exact unhide HO7, unhide HSL7, unhide HNE7, unhide HB7⟩
      case measure => simp [intOf]; omega
    · obtain rfl : j = N.length := by omega
      rw [List.take_length] at HO
      clear hot hsl hne hb
      obtain ⟨r, c, rfl, hc, hs, hfr⟩ := (unhide HO).sl
      have HS2 := hide hs
      have HFR2 := hide hfr
      clear hs hfr
      go_wp2_with fail
      go_ret
      exact ⟨r, c, rfl, hc, unhide HS2, unhide HFR2, unhide HB, unhide HO⟩
theorem refTextsO_any (a : Option Addr) (cap : Nat) (t : List En) (ht : Eok t) (h12 : t.length ≤ 12) : ∀ (f : Nat) (d : ByteArray), 4 ≤ (partsE d).length + f → d.size ≤ 1000 → ∀ (w : World), EL w a t → Hsh.RefKeys w → 3 < w.heap.size →
    Calls Tryz.prog 31 #[.slice a t.length cap, .string d] w (MadeTO w (textsF t d))
  | 0, d, h4, hd, w, h, hG, h3 => refTextsO_step a cap t ht h12 d hd w h hG h3 fun s hs => by
      rw [names_deep (by omega)] at hs
      cases hs
  | f + 1, d, h4, hd, w, h, hG, h3 => refTextsO_step a cap t ht h12 d hd w h hG h3 fun s hs W h' hG' h3' => by
      have h1 := (parts_below hs).2.2
      have h2 := Pth.Pt.path_length _ h1.2
      rw [size_data] at h2
      exact refTextsO_any a cap t ht h12 f (downE d s) (by omega) (by omega) W h' hG' h3'
end Go.Proofs.YtebjlmnhpfoglaaGreatDoor

/-
  The walk of the statement that the digests hang on what a tree has alone. Conditions: those that each theorem names.
-/

namespace Go.Proofs.YtebjlmnhpfoglaaGreatDoor
open Go.RowKit

def moreV : Vc.V := { dot := (9, 9), past := [], dead := false, data := ⟨#[109, 111, 114, 101]⟩ }
theorem more_few : Few [moreV] := ⟨by decide, fun v hv => by rw [List.mem_singleton.1 hv]; decide⟩

theorem ent_few5 {T : List En} (h : Tr T) : ∀ x ∈ T, x.2.length ≤ 100000 ∧ ∀ v ∈ x.2, v.past.length ≤ 100000 := fun x hx => ⟨Nat.le_trans (leaf_fewT (h.leaf x hx).2).2 (show 64 ≤ 100000 by omega), fun v hv => Nat.le_trans (leaf_pasts (h.leaf x hx).2 v hv) (show 64 ≤ 100000 by omega)⟩
theorem eq_some5 (a b : List UInt8) (ha : a.length = 32) (hb : b.length = 32) (D : Bool) (hD : D = true ↔ a = b) : ∀ w, (Op.equalIn 10000 46 (.agg (a.map byteVal).toArray) (.agg (b.map byteVal).toArray)).run Tryz.prog w = .ok D w := fun w => by
  have h := eq_digD a b ha hb w
  have e : (a == b) = D := by
    cases D with
    | true => exact beq_iff_eq.2 (hD.1 rfl)
    | false => exact beq_eq_false_iff_ne.2 fun h => by have := hD.2 h; cases this
  rw [e] at h
  exact h

structure StTo (w : World) (q r : Option Addr) (T : List En) (W : World) : Prop where
  b : Below w.heap.size w W
  e : Env W
  t : TrAt W q T
  m : EL W r T
theorem StTo.after {w W W' : World} {q r : Option Addr} {T : List En} (h : StTo w q r T W) (hb : Below W.heap.size W W') : StTo w q r T W' := ⟨below_grow h.b (Nat.le_refl _) hb, h.e.below hb, h.t.after hb, h.m.after hb⟩
structure StT2 (w : World) (q r v : Option Addr) (T : List En) (W : World) : Prop where
  a : StTo w q r T W
  v : TrAt W v T
theorem StT2.after {w W W' : World} {q r v : Option Addr} {T : List En} (h : StT2 w q r v T W) (hb : Below W.heap.size W W') : StT2 w q r v T W' := ⟨h.a.after hb, h.v.after hb⟩
theorem rot_tr {t : List En} (ht : Tr t) (c : Nat) {i : Nat} (hi : i ≤ t.length) : Tr (rotT t c i) := by
  obtain ⟨h1, h2, h3⟩ := rot_mem ht c i hi
  have hf := ht.few
  refine ⟨h1, fun x hx => ?_, fun x hx => ?_, by omega⟩
  · obtain ⟨j, _, h⟩ := (h2 x).1 hx
    exact ht.path x (List.mem_of_getElem? h)
  · obtain ⟨j, _, h⟩ := (h2 x).1 hx
    exact ht.leaf x (List.mem_of_getElem? h)
theorem u64_nonneg (n : Int) : 0 ≤ IntKind.u64.wrap n := by simp [IntKind.wrap, IntKind.signed, IntKind.bits]; omega
theorem u64_small {n : Int} (h0 : 0 ≤ n) (h : n < 100000) : IntKind.u64.wrap n = n := by simp [IntKind.wrap, IntKind.signed, IntKind.bits]; omega
theorem tmod_nat (a b : Nat) : ((a : Int)).tmod (b : Int) = ((a % b : Nat) : Int) := by rw [Int.tmod_eq_emod_of_nonneg (by omega)]; rfl

set_option maxRecDepth 100000 in
set_option maxHeartbeats 4000000 in
theorem one_walk (a : Option Addr) (cap : Nat) (l : List En) (hl : l.length ≤ 9223372036854775807) (he : ∀ x ∈ l, EnOk x) (p : ByteArray) (hp : p.size ≤ 9223372036854775807) (turn : Int) (w : World) (h : EL w a l) (hE : Env w) :
    Calls Tryz.prog 6 #[.slice a l.length cap, .string p, .int .i64 turn] w fun e w' => e = .returned (.bool true) ∧ Below w.heap.size w w' := by
  have KG := hide (greatE_any a cap l 20 (by omega) hl (fun x hx => (he x hx).1) w h)
  have HS := hide h
  have HE := hide hE
  have HOK := hide he
  have KA := hide fun W (h : Env W) => awakeT_any W h
  clear h hE he
  go_enter Tryz.func6, Tryz.ntmps6
  go_wp2_with fail
  refine (unhide KG).mono ?_
  rintro e w1 ⟨D, rfl, hD, hb⟩
  have HB1 := hide hb
  have HE1 := hide ((unhide HE).below hb)
  have HS1 := hide ((unhide HS).after hb)
  clear hb KG
  cases D with
  | true =>
    clear hD
    go_wp2_with fail
    refine (unhide KA w1 (unhide HE1)).mono ?_
    rintro e w2 ⟨rfl, hb⟩
    have HB2 := hide (below_grow (unhide HB1) (Nat.le_refl _) hb)
    clear hb
    go_wp2_with fail
    go_ret
    exact ⟨rfl, unhide HB2⟩
  | false =>
   by_cases hbig : 200 < p.size
   · have hbd : decide ((200 : Int) < ((p.size : Nat) : Int)) = true := decide_eq_true (by omega)
     clear hD
     go_wp2_with fail
     refine (unhide KA w1 (unhide HE1)).mono ?_
     rintro e w2 ⟨rfl, hb⟩
     have HB2 := hide (below_grow (unhide HB1) (Nat.le_refl _) hb)
     clear hb
     go_wp2_with fail
     go_ret
     exact ⟨rfl, unhide HB2⟩
   · have hbd : decide ((200 : Int) < ((p.size : Nat) : Int)) = false := decide_eq_false (by omega)
     have HPS : Hid (p.size ≤ 200) := hide (by omega)
     have HEOK := hide (eok_of (hD rfl) (by omega) (unhide HOK))
     have KP := hide (treeOf_any a cap l (unhide HEOK) w1 (unhide HS1))
     have HTR := hide (ofT_tr l)
     have HTL : Hid ((ofT l).1.length ≤ 20) := hide (Nat.le_trans (ofT_len l) (hD rfl).1)
     generalize ofT l = R at KP HTR HTL
     obtain ⟨T, E⟩ := R
     dsimp only at KP HTR HTL
     clear hD hbig hp HOK HEOK
     go_wp2_with fail
     refine (unhide KP).mono ?_
     rintro e w2 ⟨q, rfl, ht2, _, hb⟩
     have HB2 := hide (below_grow (unhide HB1) (Nat.le_refl _) hb)
     have HE2 := hide ((unhide HE1).below hb)
     have HT2 := hide ht2
     clear hb ht2 KP HB1 HE1 HS1 hbd
     by_cases hE0 : E = 0
     · subst hE0
       have KE := hide (entries_any q T (by have := unhide HTL; omega) (ent_few5 (unhide HTR)) w2 (unhide HT2))
       go_wp2_with fail
       refine (unhide KE).mono ?_
       rintro e w3 ⟨r, c, rfl, hc, hel, hb⟩
       have HP3 := hide (show StTo w q r T w3 from ⟨below_grow (unhide HB2) (Nat.le_refl _) hb, (unhide HE2).below hb, (unhide HT2).after hb, hel⟩)
       clear hb hel hc KE HB2 HE2 HT2
       obtain ⟨n, hn⟩ : ∃ n, T.length = n := ⟨_, rfl⟩
       have HN := hide hn
       have HTL' : Hid (n ≤ 20) := hide (by rw [← hn]; exact unhide HTL)
       have HB0 := hide (below_alloc' (w := w3) (.cells #[.slice none 0 0] 27))
       have HP4 := hide ((unhide HP3).after (unhide HB0))
       have HT0 : Hid (TrAt (w3.alloc (.cells #[.slice none 0 0] 27)) (some ⟨w3.heap.size, 0, none⟩) []) := hide (.inr ⟨w3.heap.size, none, 0, rfl, (VRow.new w3 27 [.slice none 0 0]).lt, (VRow.new w3 27 [.slice none 0 0]).cell 0 _ rfl, Nat.le_refl _, EL.none _ _⟩)
       rw [hn]
       clear hn
       obtain ⟨z, hz⟩ : ∃ z, (IntKind.u64.wrap turn % 1000).toNat = z := ⟨_, rfl⟩
       have hzz : (IntKind.u64.wrap turn).tmod 1000 = (z : Int) := by have := u64_nonneg turn; rw [Int.tmod_eq_emod_of_nonneg this]; omega
       have hz1 : z < 1000 := by have := u64_nonneg turn; omega
       clear hz
       go_wp2_with fail
       go_loopw [10, 11] (fun u i wr => ∃ (k : Nat) (v : Option Addr), k ≤ n ∧ i = .int .i64 k ∧ u = .pointer v ∧ StTo w q r T wr ∧ TrAt wr v (rotT T z k)) (fun _ i _ => n - (intOf i).toNat)
       case atStart => exact ⟨0, _, Nat.zero_le _, rfl, rfl, unhide HP4, unhide HT0⟩
       case round =>
         obtain ⟨k, v, hk, rfl, rfl, hst, htr⟩ := hrel
         have HPr := hide hst
         have HTr := hide htr
         clear hst htr HP4 HT0 HB0 HP3
         by_cases hlt : k < n
         · have hmod : (z + k) % n < n := Nat.mod_lt _ (by omega)
           obtain ⟨x, hx⟩ : ∃ x, T[(z + k) % n]? = some x := ⟨_, List.getElem?_eq_getElem (by rw [unhide HN]; exact hmod)⟩
           have HX := hide hx
           obtain ⟨m, hm⟩ : ∃ m, (z + k) % n = m := ⟨_, rfl⟩
           have hw : IntKind.u64.wrap ((z : Int) + (k : Int)) = (z : Int) + (k : Int) := u64_small (by omega) (by have := unhide HTL'; omega)
           have hmI : ((z : Int) + (k : Int)).tmod (n : Int) = (m : Int) := by rw [← hm, ← tmod_nat]; rfl
           rw [hm] at hx hmod
           have hn20 := unhide HTL'
           clear hm
           obtain ⟨g0, o0, e0, hg0, hcell0⟩ := (unhide HPr).m (by rw [unhide HN]; omega)
           subst e0
           obtain ⟨q5, d, x0, x1, h5, h6⟩ := hcell0 m x hx
           have HG : Hid (g0 < wr.heap.size) := hide hg0
           have H6 := hide h6
           have hxm := List.mem_of_getElem? hx
           have HTK := hide (rot_tr (unhide HTR) z (i := k) (by rw [unhide HN]; omega))
           have KS := hide fun W (h1 : TrAt W v (rotT T z k)) (h2 : SV W q5 x.2) => treeSet_any v (rotT T z k) (unhide HTK) x.1 (by have := path_size ((unhide HTR).path x hxm); omega) q5 d x.2 (leaf_fewT ((unhide HTR).leaf x hxm).2).1 W h1 h2
           rw [rot_set (unhide HTR) z (by rw [unhide HN]; exact hlt) (by rw [unhide HN]; exact unhide HX)] at KS
           have hlt' := hlt
           clear hcell0 hx h6 hg0 hxm HX HTK
           go_wp2_with fail
           go_region_held3 (fun w' => w'.cell? ⟨g0, o0 + m * 2, none⟩ = some (.string x.1) ∧ w'.cell? ⟨g0, o0 + m * 2 + 1, none⟩ = some (.slice q5 x.2.length d) ∧ Below wr.heap.size wr w')
             (first | exact keepE (unhide HG) (by assumption) (by assumption) | exact drewE x0 x1)
             (first
               | (go_at_call 11; refine (unhide KS _ ((unhide HTr).after (And.right (And.right (by assumption)))) ((unhide H6).after (And.right (And.right (by assumption))))).mono ?_; rintro e w4 ⟨v4, rfl, ht4, _, hb4⟩))
           rename_i hHeld
           have HP4 := hide ((unhide HPr).after hHeld.2.2)
           have HT4 := hide ht4
           clear hHeld ht4 hb4 KS x0 x1
           go_wp2_with fail
           go_roundw
           case rel => exact ⟨k + 1, v4, by omega, by go_num, rfl, unhide HP4, unhide HT4⟩
           case measure => simp [intOf]; omega
         · obtain rfl : k = n := by omega
           have hra : rotT T z k = T := by have h := rot_all (unhide HTR) z; rw [unhide HN] at h; exact h
           rw [hra] at HTr
           have HP4 := hide (show StT2 w q r v T wr from ⟨unhide HPr, unhide HTr⟩)
           clear hra HTr HPr hlt hk
           have KTS := hide fun W (h : StT2 w q r v T W) => treeSame_any q v T T (unhide HTR) (unhide HTR) W h.a.t h.v true (by simp)
           have KTS2 := hide fun z W (h : StT2 w q r v T W) h1 => treeSame_any z q T T (unhide HTR) (unhide HTR) W h1 h.a.t true (by simp)
           have KR := hide fun W (h : StT2 w q r v T W) => treeRoot_any q T (unhide HTR) W h.a.t h.a.e.g h.a.e.s
           have KR' := hide fun v' W (h : StT2 w q r v T W) h1 => treeRoot_any v' T (unhide HTR) W h1 h.a.e.g h.a.e.s
           have KN := hide fun W (h : StT2 w q r v T W) => treeSeen_any q T (unhide HTR) W h.a.t h.a.e.g h.a.e.s
           have KN' := hide fun W (h : StT2 w q r v T W) => treeSeen_any v T (unhide HTR) W h.v h.a.e.g h.a.e.s
           have KGt := hide fun W (h : StT2 w q r v T W) => treeGet_any q T (unhide HTR) p (by have := unhide HPS; unfold maxLen; omega) W h.a.t
           have KST := hide fun r5 W (h : StT2 w q r v T W) (h1 : SV W r5 [moreV]) => treeSet_any v T (unhide HTR) p (by have := unhide HPS; omega) r5 1 [moreV] more_few W h.v h1
           have KTK := hide fun (h0 : (setT T p [moreV]).2 = 0) v5 W (h1 : TrAt W v5 (setT T p [moreV]).1) => treeSet_any v5 (setT T p [moreV]).1 ((unhide HTR).set h0) p (by have := unhide HPS; omega) none 0 [] ⟨by decide, fun v hv => by cases hv⟩ W h1 (fun h0 => absurd h0 (Nat.lt_irrefl _))
           have HTK := hide fun (hp : getT T p = []) (h0 : (setT T p [moreV]).2 = 0) => set_take (unhide HTR) hp h0
           have a1 := eq_some5 (rootT T) (rootT T) (sumN_len _) (sumN_len _) true (by simp)
           have a2 := eq_some5 (rootT (shownT T)) (rootT (shownT T)) (sumN_len _) (sumN_len _) true (by simp)
           generalize (rootT T).map byteVal = D1 at KR KR' a1
           generalize (rootT (shownT T)).map byteVal = D2 at KN KN' a2
           obtain ⟨gl, hgl⟩ : ∃ gl, getT T p = gl := ⟨_, rfl⟩
           rw [hgl] at KGt HTK
           clear hgl
           obtain ⟨ST, hST⟩ : ∃ ST, setT T p [moreV] = ST := ⟨_, rfl⟩
           rw [hST] at KST KTK HTK
           clear hST
           obtain ⟨ng, hng⟩ : ∃ ng, gl.length = ng := ⟨_, rfl⟩
           have HNG := hide hng
           clear hng
           go_wp2_with fail
           refine (unhide KTS wr (unhide HP4)).mono ?_
           rintro e w5 ⟨rfl, hb⟩
           have HP5 := hide ((unhide HP4).after hb)
           clear hb
           go_wp2_with fail
           refine (unhide KR w5 (unhide HP5)).mono ?_
           rintro e w6 ⟨rfl, hb⟩
           have HP6 := hide ((unhide HP5).after hb)
           clear hb
           go_wp2_with fail
           refine (unhide KR' v w6 (unhide HP6) (unhide HP6).v).mono ?_
           rintro e w7 ⟨rfl, hb⟩
           have HP7 := hide ((unhide HP6).after hb)
           clear hb
           go_wp2_with fail
           refine (unhide KN w7 (unhide HP7)).mono ?_
           rintro e w8 ⟨rfl, hb⟩
           have HP8 := hide ((unhide HP7).after hb)
           clear hb
           go_wp2_with fail
           refine (unhide KN' w8 (unhide HP8)).mono ?_
           rintro e w9 ⟨rfl, hb⟩
           have HP9 := hide ((unhide HP8).after hb)
           clear hb
           go_wp2_with fail
           refine (unhide KGt w9 (unhide HP9)).mono ?_
           rintro e w10 ⟨rg, cg, rfl, _, _, _, hb⟩
           have HP10 := hide ((unhide HP9).after hb)
           clear hb
           rw [unhide HNG]
           by_cases hg0 : ng = 0
           · have HGN : Hid (gl = []) := hide (List.eq_nil_of_length_eq_zero ((unhide HNG).trans hg0))
             subst hg0
             have HB0 := hide (below_alloc' (w := w10) (.cells (verL moreV none 0).toArray 64))
             have HV0 := hide (VRow.new w10 64 (verL moreV none 0))
             have HPa := hide ((unhide HP10).after (unhide HB0))
             have KSX := hide (unhide KST (some ⟨w10.heap.size, 0, none⟩) _ (unhide HPa) (one_sv (unhide HV0) (Nat.le_refl _) (Sl.none _ _)))
             unfold verL moreV at KSX HB0 HPa
             clear HV0 KST
             go_wp2_with fail
             refine (unhide KSX).mono ?_
             rintro e wa ⟨v5, rfl, ht5, _, hb⟩
             have HP20 := hide ((unhide HPa).after hb)
             have HT5 := hide ht5
             clear hb ht5 KSX HB0 HPa
             by_cases hs0 : ST.2 = 0
             · have hs0' : (ST.2 == 0) = true := beq_iff_eq.2 hs0
               have hs0n : (ST.2 != 0) = false := by simp [hs0]
               have KT2 := hide fun W h => unhide KTK hs0 v5 W h
               rw [unhide HTK (unhide HGN) hs0] at KT2
               have HS0 := hide hs0
               clear hs0 KTK HTK
               go_wp2_with fail
               refine (unhide KT2 wa (unhide HT5)).mono ?_
               rintro e wb ⟨v6, rfl, ht6, _, hb⟩
               have HP21 := hide ((unhide HP20).after hb)
               have HT6 := hide ht6
               clear hb ht6 KT2
               go_wp2_with fail
               refine (unhide KR' v6 wb (unhide HP21) (unhide HT6)).mono ?_
               rintro e w22 ⟨rfl, hb⟩
               have HP22 := hide ((unhide HP21).after hb)
               have HT6 := hide ((unhide HT6).after hb)
               clear hb
               go_wp2_with fail
               refine (unhide KR w22 (unhide HP22)).mono ?_
               rintro e w23 ⟨rfl, hb⟩
               have HP23 := hide ((unhide HP22).after hb)
               have HT6 := hide ((unhide HT6).after hb)
               clear hb
               go_wp2_with fail
               refine (unhide KTS2 v6 w23 (unhide HP23) (unhide HT6)).mono ?_
               rintro e w24 ⟨rfl, hb⟩
               have HP24 := hide ((unhide HP23).after hb)
               clear hb
               go_wp2_with fail
               refine (unhide KA w24 (unhide HP24).a.e).mono ?_
               rintro e w25 ⟨rfl, hb⟩
               have HP25 := hide ((unhide HP24).after hb)
               clear hb
               go_wp2_with fail
               refine bodyPost_ret (results_tmp rfl _ _ _) rfl ⟨by first | rfl | simp, (unhide HP25).a.b⟩
             · have hs0' : (ST.2 == 0) = false := beq_eq_false_iff_ne.2 hs0
               have hs0n : (ST.2 != 0) = true := bne_iff_ne.2 hs0
               go_wp2_with fail
               refine (unhide KA wa (unhide HP20).a.e).mono ?_
               rintro e w21 ⟨rfl, hb⟩
               have HP21 := hide ((unhide HP20).after hb)
               clear hb
               go_wp2_with fail
               refine bodyPost_ret (results_tmp rfl _ _ _) rfl ⟨by first | rfl | simp, (unhide HP21).a.b⟩
           · have hgd : decide ((0 : Int) < ((ng : Nat) : Int)) = true := decide_eq_true (by omega)
             go_wp2_with fail
             refine (unhide KA w10 (unhide HP10).a.e).mono ?_
             rintro e w11 ⟨rfl, hb⟩
             have HP11 := hide ((unhide HP10).after hb)
             clear hb
             go_wp2_with fail
             refine bodyPost_ret (results_tmp rfl _ _ _) rfl ⟨by first | rfl | simp, (unhide HP11).a.b⟩
     · have hEn : (E == 0) = false := beq_eq_false_iff_ne.2 hE0
       have hEn' : (E != 0) = true := bne_iff_ne.2 hE0
       go_wp2_with fail
       refine (unhide KA w2 (unhide HE2)).mono ?_
       rintro e w3 ⟨rfl, hb⟩
       have HB3 := hide (below_grow (unhide HB2) (Nat.le_refl _) hb)
       clear hb
       go_wp2_with fail
       go_ret
       exact ⟨by first | rfl | simp, unhide HB3⟩
end Go.Proofs.YtebjlmnhpfoglaaGreatDoor
