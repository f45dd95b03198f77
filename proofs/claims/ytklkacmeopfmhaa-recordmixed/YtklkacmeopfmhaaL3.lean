/-
  The walk of the statement on a vector and a leaf in one row of bytes. Conditions: those that each theorem names.
-/
import Derived.Test.YtklkacmeopfmhaaL1
import Derived.Deep.RegionHeld3
namespace Go.Proofs.Ytklkacmeopfmhaa
open Go.RowKit

/-- What is kept in a drawn region may be said anew on the way. -/
theorem wpAnyH_weaken {P : Program} {md : Region.Mode} {ops : Array Oper} {Q : Exit → Act → World → Prop} {S S' : World → Prop} (hS : ∀ w, S w → S' w) :
    ∀ (fuel : Nat) (listed : Array Bool) (a : Act) (w : World), wpAnyH P md ops Q S fuel listed a w → wpAnyH P md ops Q S' fuel listed a w
  | 0, _, _, _, h => h
  | fuel + 1, _, _, _, h => ⟨h.1, fun i hi => wpOp_mono (fun _ _ h' => ⟨hS _ h'.1, wpAnyH_weaken hS fuel _ _ _ h'.2⟩) (h.2 i hi)⟩

/-- The two readers side by side, and what was there ahead. -/
structure Two (w : World) (p q : Nat) (st st' : St) (W : World) : Prop where
  prog : Doc W p 84 st'
  doc : Doc W q 55 st
  np : w.heap.size ≤ p
  nq : w.heap.size ≤ q
  ne : p ≠ q
  below : Below w.heap.size w W
section
variable {w W W' : World} {p q : Nat} {st st' : St}
theorem Two.after (h : Two w p q st st' W) (hb : Below W.heap.size W W') : Two w p q st st' W' :=
  ⟨h.prog.after hb, h.doc.after hb, h.np, h.nq, h.ne, below_grow h.below (Nat.le_refl _) hb⟩
/-- The program's reader has turned, the document's not yet. -/
theorem Two.half {S : St} (h : Two w p q st S W) (hd : DS p 84 W st' W') : Two w p q st st' W' :=
  ⟨hd.1, VRow.beside h.doc hd.2 (fun e => h.ne e.symm), h.np, h.nq, h.ne, h.below.trans (hd.below h.below.size h.np)⟩
theorem Two.two {S : St} (h : Two w p q S st' W) (hd : DS q 55 W st' W') : Two w p q st' st' W' :=
  ⟨VRow.beside h.prog hd.2 h.ne, hd.1, h.np, h.nq, h.ne, h.below.trans (hd.below h.below.size h.nq)⟩
end
/-- What a vector's take does to both. -/
theorem two_vec1 {w : World} {p q : Nat} {st : St} (hs : st.1.length ≤ 50000000) (W : World) (h : Two w p q st st W) :
    Calls Try.prog 27 #[.pointer (some ⟨p, 0, none⟩)] W fun e w' => ∃ a cap, e = .returned (.slice a (rVec st).1.length cap) ∧ Sl w' a (rVec st).1 ∧ Two w p q st (rVec st).2 w' ∧ ∀ ad, a = some ad → 0 < (rVec st).1.length → ad.block ≠ q :=
  (takeVec_any h.prog hs).mono fun _ _ ⟨a, cap, h1, _, h3, h4, h5⟩ => ⟨a, cap, h1, h3, h.half h5, h4.ne h.doc.lt⟩
theorem two_vec2 {w : World} {p q : Nat} {st : St} (hs : st.1.length ≤ 50000000) (W : World) (h : Two w p q st (rVec st).2 W) (a0 : Option Addr) (s0 : Sl W a0 (rVec st).1) (hn : ∀ ad, a0 = some ad → 0 < (rVec st).1.length → ad.block ≠ q) :
    Calls Try.prog 28 #[.pointer (some ⟨q, 0, none⟩)] W fun e w' => ∃ a cap, e = .returned (.slice a (rVec st).1.length cap) ∧ Sl w' a (rVec st).1 ∧ Two w p q (rVec st).2 (rVec st).2 w' ∧ Sl w' a0 (rVec st).1 :=
  (refTakeVec_any h.doc hs).mono fun _ _ ⟨a, cap, h1, _, h3, _, h5⟩ => ⟨a, cap, h1, h3, h.two h5, s0.beside h5.2 hn⟩
theorem two_leaf1 {w : World} {p q : Nat} {st : St} (hs : st.1.length ≤ 50000000) (W : World) (h : Two w p q st st W) :
    Calls Try.prog 29 #[.pointer (some ⟨p, 0, none⟩)] W fun e w' => ∃ a cap, e = .returned (.slice a (rLeaf st).1.length cap) ∧ SV w' a (rLeaf st).1 ∧ Two w p q st (rLeaf st).2 w' ∧ Prov (fun g => W.heap.size ≤ g) w' a (rLeaf st).1 ∧ q < W.heap.size :=
  (takeLeaf_any h.prog hs).mono fun _ _ ⟨a, cap, h1, _, h3, h4, h5⟩ => ⟨a, cap, h1, h3, h.half h5, h4, h.doc.lt⟩
theorem two_leaf2 {w : World} {p q : Nat} {st : St} (hs : st.1.length ≤ 50000000) (W : World) (h : Two w p q st (rLeaf st).2 W) (a0 : Option Addr) (s0 : SV W a0 (rLeaf st).1) (n : Nat) (hp : Prov (fun g => n ≤ g) W a0 (rLeaf st).1) (hn : q < n) :
    Calls Try.prog 30 #[.pointer (some ⟨q, 0, none⟩)] W fun e w' => ∃ a cap, e = .returned (.slice a (rLeaf st).1.length cap) ∧ SV w' a (rLeaf st).1 ∧ Two w p q (rLeaf st).2 (rLeaf st).2 w' ∧ SV w' a0 (rLeaf st).1 :=
  (refTakeLeaf_any h.doc hs).mono fun _ _ ⟨a, cap, h1, _, h3, _, h5⟩ => ⟨a, cap, h1, h3, h.two h5, s0.beside hp h5.2 (by omega)⟩
theorem leaf_fewR (st : St) : Few (rLeaf st).1 := ⟨by have := rLeaf_len st; omega, fun v hv => by have := rLeaf_past st v hv; omega⟩

set_option maxRecDepth 100000 in
set_option maxHeartbeats 4000000 in
theorem mixed_walk (a0 : Option Addr) (cap0 : Nat) (ds : List Vc.D) (_ : ds.length ≤ cap0) (a1 : Option Addr) (cap1 : Nat) (vs : List Vc.V) (_ : vs.length ≤ cap1) (hm : Short vs) (hdata : ∀ v ∈ vs, v.data.size ≤ 9223372036854775807) (s : ByteArray) (_ : s.size ≤ 9223372036854775807) (w : World) (s0 : Sl w a0 ds) (s1 : SV w a1 vs) :
    Calls Try.prog 7 #[.slice a0 ds.length cap0, .slice a1 vs.length cap1, .string s] w fun e w' => e = .returned (.bool true) ∧ Below w.heap.size w w' := by
  have KG := hide (great1 w a1 cap1 vs s1)
  have HB := hide (below_alloc' (w := w) (.cells #[.slice a1 vs.length cap1] 28))
  have S0 := hide (s0.after (unhide HB))
  have S1 := hide (s1.after (unhide HB))
  have HM := hide hm
  have HDT := hide hdata
  clear s0 s1 hm hdata
  by_cases h90 : 90 < ds.length
  · have hd : decide ((90 : Int) < (ds.length : Int)) = true := decide_eq_true (by omega)
    go_enter Try.func7, Try.ntmps7
    go_wp2_with fail
    refine (unhide KG).mono ?_
    rintro e w0 ⟨B, rfl, hw, _⟩
    rw [← hw] at HB
    clear hw KG S0 S1
    cases B
    all_goals
      go_wp2_with fail
      refine (awake_any _).mono ?_
      rintro e w9 ⟨rfl, hb⟩
      replace HB := hide (below_grow (unhide HB) (Nat.le_refl _) hb)
      clear hb
      go_wp2_with fail
      go_ret
      exact ⟨rfl, unhide HB⟩
  · have hd : decide ((90 : Int) < (ds.length : Int)) = false := decide_eq_false (by omega)
    by_cases h5 : 5000 < s.size
    · have hd5 : decide ((5000 : Int) < (s.size : Int)) = true := decide_eq_true (by omega)
      go_enter Try.func7, Try.ntmps7
      go_wp2_with fail
      refine (unhide KG).mono ?_
      rintro e w0 ⟨B, rfl, hw, _⟩
      rw [← hw] at HB
      clear hw KG S0 S1
      cases B
      all_goals
        go_wp2_with fail
        refine (awake_any _).mono ?_
        rintro e w9 ⟨rfl, hb⟩
        replace HB := hide (below_grow (unhide HB) (Nat.le_refl _) hb)
        clear hb
        go_wp2_with fail
        go_ret
        exact ⟨rfl, unhide HB⟩
    · have hd5 : decide ((5000 : Int) < (s.size : Int)) = false := decide_eq_false (by omega)
      have HS5 : Hid (s.size ≤ 5000) := hide (by omega)
      have HDL : Hid (ds.length ≤ 9223372036854775807) := hide (by omega)
      go_enter Try.func7, Try.ntmps7
      go_wp2_with fail
      refine (unhide KG).mono ?_
      rintro e wG ⟨B, rfl, hw, hG⟩
      rw [← hw] at HB S0 S1
      clear hw KG
      cases B with
      | true =>
        go_wp2_with fail
        refine (awake_any _).mono ?_
        rintro e w9 ⟨rfl, hb⟩
        replace HB := hide (below_grow (unhide HB) (Nat.le_refl _) hb)
        clear hb
        go_wp2_with fail
        go_ret
        exact ⟨rfl, unhide HB⟩
      | false =>
        have HF := hide ((unhide HM).few (hG rfl))
        clear hG
        obtain ⟨own, hz, ho⟩ := wr_zero wG
        have hz1 := wr_lt hz
        have hb1 := below_alloc' (w := wG) (.cells zeroW 43)
        have hb2 := below_alloc' (w := wG.alloc (.cells zeroW 43)) (.cells #[.string ⟨#[]⟩, .int .i64 0] 46)
        have HBB := hide (below_grow hb1 (Nat.le_refl _) hb2)
        have HWS := hide (WS.start (wr_after hz hb2))
        have HO := hide ho
        have HNQ : Hid (¬ own (wG.heap.size + 1)) := hide fun h => by have := hz1 _ h; simp at this
        have HDOC := hide (VRow.newAt (W := wG.alloc (.cells zeroW 43)) (T := 46) (n := wG.heap.size + 1) (vs := [.string ⟨#[]⟩, .int .i64 0]) (by simp))
        have HQB : Hid (wG.heap.size + 1 < ((wG.alloc (.cells zeroW 43)).alloc (.cells #[.string ⟨#[]⟩, .int .i64 0] 46)).heap.size) := hide (by simp)
        have L1 := hide (wVec_len ([], 0) ds)
        have L2 := hide (wLeaf_len (wVec ([], 0) ds) vs)
        have L3 := hide (wVec_len (wLeaf (wVec ([], 0) ds) vs) ds)
        obtain ⟨T1, hT1⟩ : ∃ T, wVec ([], 0) ds = T := ⟨_, rfl⟩
        rw [hT1] at L1 L2 L3
        obtain ⟨T2, hT2⟩ : ∃ T, wLeaf T1 vs = T := ⟨_, rfl⟩
        rw [hT2] at L2 L3
        obtain ⟨T3, hT3⟩ : ∃ T, wVec T2 ds = T := ⟨_, rfl⟩
        rw [hT3] at L3
        have M1 : Hid (T1.1.length ≤ 645) := hide (by have := unhide L1; simpa using this)
        have M2 : Hid (T2.1.length ≤ 47000) := hide (by have := unhide M1; have := unhide L2; omega)
        have M3 : Hid (T3.1.length ≤ 48000) := hide (by have := unhide M2; have := unhide L3; omega)
        have E1 := hide hT1
        have E2 := hide hT2
        have E3 := hide hT3
        clear hz ho hz1 hb1 hb2 hT1 hT2 hT3 L1 L2 L3
        go_wp2_with fail
        generalize (wG.alloc (.cells zeroW 43)).alloc (.cells #[.string ⟨#[]⟩, .int .i64 0] 46) = wB at HBB HWS HDOC HQB ⊢
        have K := (unhide HWS).call fun own1 hx ho1 => putVec_any hx (by simp) wG (unhide HBB) (fun g hg => by rcases ho1 g hg with h1 | h1; exact unhide HO g h1; exact Nat.le_trans (unhide HBB).size h1) a0 cap0 ds (unhide HDL) (unhide S0)
        rw [unhide E1] at K
        refine K.mono ?_
        rintro e w1 ⟨rfl, hs⟩
        have HW1 := hide hs
        clear hs K
        go_wp2_with fail
        have K := (unhide HW1).call fun own1 hx ho1 => putLeaf_any hx (by have := unhide M1; omega) wG ((unhide HBB).trans ((unhide HW1).below (unhide HBB).size (unhide HO))) (fun g hg => by rcases ho1 g hg with h1 | h1; exact unhide HO g h1; exact Nat.le_trans (unhide HBB).size h1) a1 cap1 vs (unhide HF) (unhide S1)
        rw [unhide E2] at K
        refine K.mono ?_
        rintro e w2 ⟨rfl, hs⟩
        have HW2 := hide hs
        clear hs K
        go_wp2_with fail
        have K := (unhide HW2).call fun own1 hx ho1 => putVec_any hx (by have := unhide M2; omega) wG ((unhide HBB).trans ((unhide HW2).below (unhide HBB).size (unhide HO))) (fun g hg => by rcases ho1 g hg with h1 | h1; exact unhide HO g h1; exact Nat.le_trans (unhide HBB).size h1) a0 cap0 ds (unhide HDL) (unhide S0)
        rw [unhide E3] at K
        refine K.mono ?_
        rintro e w3 ⟨rfl, hs⟩
        have HD3 := hide (DS.start (show Doc w3 (wG.heap.size + 1) 46 ([], 0) from hs.row (unhide HDOC) (unhide HNQ)))
        have HB3 := hide ((unhide HBB).trans (hs.below (unhide HBB).size (unhide HO)))
        obtain ⟨own1, _, hx, ho1, _⟩ := hs
        have HX := hide hx
        have HN1 : Hid (¬ own1 (wG.heap.size + 1)) := hide fun h => by
          rcases ho1 _ h with h1 | h1
          · exact unhide HNQ h1
          · have := unhide HQB; omega
        clear hx ho1 K HW1 HW2
        go_wp2_with fail
        have K := (unhide HD3).call fun hx => refPutVec_any hx (by simp) wG (unhide HB3) (by omega) a0 cap0 ds (unhide HDL) (unhide S0)
        rw [unhide E1] at K
        refine K.mono ?_
        rintro e w4 ⟨rfl, hs⟩
        have HD4 := hide hs
        clear hs K
        go_wp2_with fail
        have K := (unhide HD4).call fun hx => refPutLeaf_any hx (by have := unhide M1; omega) wG ((unhide HB3).trans ((unhide HD4).below (unhide HB3).size (by omega))) (by omega) a1 cap1 vs (unhide HF) (unhide HDT) (unhide S1)
        rw [unhide E2] at K
        refine K.mono ?_
        rintro e w5 ⟨rfl, hs⟩
        have HD5 := hide hs
        clear hs K
        go_wp2_with fail
        have K := (unhide HD5).call fun hx => refPutVec_any hx (by have := unhide M2; omega) wG ((unhide HB3).trans ((unhide HD5).below (unhide HB3).size (by omega))) (by omega) a0 cap0 ds (unhide HDL) (unhide S0)
        rw [unhide E3] at K
        refine K.mono ?_
        rintro e w6 ⟨rfl, hs⟩
        have HX6 := hide (wr_keep (unhide HX) hs.2.size fun g hg => hs.2.block g (wr_lt (unhide HX) g hg) fun e => unhide HN1 (by rw [← e]; exact hg))
        have HD6 := hide hs.1
        have HB6 := hide (below_grow (unhide HB) (Nat.le_refl _) ((unhide HB3).trans (hs.below (unhide HB3).size (by omega))))
        clear hs K HD3 HD4 HD5 HB3 E1 E2 E3
        have HCAT : Hid ((str (told T3)).size ≤ 100000) := hide (by
          rw [str_size]
          have := unhide M3
          unfold told
          split
          · simp
          · omega)
        have KD := hide (wdone_any (unhide HX6))
        have KE := hide fun W h => refDoneW_any (wG.heap.size + 1) T3 W h
        generalize str (told T3) = A at KD KE HCAT
        generalize T3.2 = E at KD KE
        have hcat : ¬ (A.size + s.size > 9223372036854775807) := by have := unhide HCAT; omega
        have hE : (E != E) = false := by simp
        go_wp2_with fail
        refine (unhide KD).mono ?_
        rintro e w7 ⟨rfl, hb⟩
        have HD7 := hide ((unhide HD6).after hb)
        have HB7 := hide (below_grow (unhide HB6) (Nat.le_refl _) hb)
        clear hb
        go_wp2_with fail
        refine (unhide KE _ (unhide HD7)).mono ?_
        rintro e w8 ⟨rfl, hb⟩
        have HB8 := hide (below_grow (unhide HB7) (Nat.le_refl _) hb)
        clear hb
        go_wp2_with fail
        generalize hU : A ++ s = U
        have HU : Hid (U.size ≤ 105000) := hide (by rw [← hU, ByteArray.size_append]; have := unhide HCAT; have := unhide HS5; omega)
        refine (rnew_d U w8).mono ?_
        rintro e w9 ⟨rfl, hd, hb⟩
        have hp9 := hd.lt
        have hb2 := below_alloc' (w := w9) (.cells #[.string U, .int .i64 0] 55)
        have HT : Hid (Two w w8.heap.size w9.heap.size (U.data.toList, 0) (U.data.toList, 0) (w9.alloc (.cells #[.string U, .int .i64 0] 55)) ∧ U.data.toList.length ≤ 50000000) := hide
          ⟨⟨hd.after hb2, doc_text w9 U, (unhide HB8).size, Nat.le_trans (unhide HB8).size hb.size, Nat.ne_of_lt hp9, below_grow (below_grow (unhide HB8) (Nat.le_refl _) hb) (Nat.le_refl _) hb2⟩, by rw [size_data]; have := unhide HU; omega⟩
        clear hd hb hb2
        go_wp2_with fail
        clear hU hp9
        generalize w9.alloc (.cells #[.string U, .int .i64 0] 55) = w10 at HT ⊢
        generalize w8.heap.size = p at HT ⊢
        generalize w9.heap.size = q at HT ⊢
        go_loopw [15] (fun i wr => ∃ (k : Nat) (st : St), k ≤ 4 ∧ i = .int .i64 k ∧ Hid (Two w p q st st wr ∧ st.1.length ≤ 50000000)) (fun i _ => 4 - (intOf i).toNat)
        case atStart => exact ⟨0, (U.data.toList, 0), by omega, rfl, HT⟩
        case round =>
          clear HT
          obtain ⟨k, st, hk, rfl, HT⟩ := hrel
          by_cases hlt : k < 4
          · have HL1 : Hid ((rVec st).2.1.length ≤ 50000000) := hide (Nat.le_trans (rVec_less st) (unhide HT).2)
            have HL2 : Hid ((rLeaf (rVec st).2).2.1.length ≤ 50000000) := hide (Nat.le_trans (rLeaf_less _) (unhide HL1))
            have HVL := hide (rVec_len st)
            have HVF := hide (leaf_fewR (rVec st).2)
            have K27 := hide (two_vec1 (w := w) (p := p) (q := q) (st := st) (unhide HT).2)
            have K28 := hide (two_vec2 (w := w) (p := p) (q := q) (st := st) (unhide HT).2)
            have K29 := hide (two_leaf1 (w := w) (p := p) (q := q) (st := (rVec st).2) (unhide HL1))
            have K30 := hide (two_leaf2 (w := w) (p := p) (q := q) (st := (rVec st).2) (unhide HL1))
            have HT0 := hide (unhide HT).1
            clear HT
            obtain ⟨⟨V, st1⟩, hV⟩ : ∃ X, rVec st = X := ⟨_, rfl⟩
            rw [hV] at HL1 HL2 HVL HVF K27 K28 K29 K30
            obtain ⟨⟨L, st2⟩, hL⟩ : ∃ X, rLeaf st1 = X := ⟨_, rfl⟩
            dsimp only at HL1 HL2 HVL HVF K27 K28 K29 K30
            rw [hL] at HL2 HVF K29 K30
            obtain ⟨SB, SE⟩ := st2
            dsimp only at HL2 HVF K29 K30
            have hE2 : (SE != SE) = false := by simp
            have hn1 : ((SB.length : Int) != ((str SB).size : Int)) = false := by rw [str_size]; simp
            have HTD := hide ((unhide HT0).after (below_drew (Below.refl _ _)))
            clear hV hL
            go_wp2_with fail
            refine wp_region_held_drew (S := fun _ => True) (by kernel_rfl) trivial (fun _ => ?_)
            refine wpAnyH_take (i := 0) (oi := { dst := some 85, op := Go.Op.move (Go.Operand.tmp 13), type := 52, pos := "law.go:136", after := #[], guard := none }) (v := .pointer (some ⟨p, 0, none⟩)) rfl (by kernel_rfl) (by kernel_rfl) (by kernel_rfl) (fun _ _ _ h => h) (Or.inl ⟨by rfl, ?_⟩) trivial ?_
            · intro W hW; first | (go_simp; done) | (go_simp; with_reducible rfl)
            simp only [Act.put, List.setIfInBounds_toArray, List.set_cons_zero, List.set_cons_succ]
            refine wpAnyH_take (i := 2) (oi := { dst := some 87, op := Go.Op.move (Go.Operand.tmp 14), type := 54, pos := "law.go:136", after := #[], guard := none }) (v := .pointer (some ⟨q, 0, none⟩)) rfl (by kernel_rfl) (by kernel_rfl) (by kernel_rfl) (fun _ _ _ h => h) (Or.inl ⟨by rfl, ?_⟩) trivial ?_
            · intro W hW; first | (go_simp; done) | (go_simp; with_reducible rfl)
            simp only [Act.put, List.setIfInBounds_toArray, List.set_cons_zero, List.set_cons_succ]
            refine wpAnyH_ready (rs := [1]) (by kernel_rfl) (by simp) (AllReadyH.cons (o := { dst := some 86, op := Go.Op.call { callee := Go.Callee.value (Go.Operand.func 27), args := #[Go.Operand.tmp 85], argTypes := #[52] }, type := 22, pos := "law.go:136", after := #[{ on := 0, ground := Go.Ground.data }], guard := none }) rfl (fun K hK => ?_) AllReadyH.nil)
            go_simp
            refine (unhide K27 _ (unhide HTD)).mono ?_
            rintro e v1 ⟨b1, d1, rfl, hs1, ht1, hn1a⟩
            go_wp2_with fail
            refine hK.out _ _ trivial (fun _ => ?_)
            clear hK K
            refine wpAnyH_ready (rs := [3]) (by kernel_rfl) (by simp) (AllReadyH.cons (o := { dst := some 88, op := Go.Op.call { callee := Go.Callee.value (Go.Operand.func 28), args := #[Go.Operand.tmp 87], argTypes := #[54] }, type := 22, pos := "law.go:136", after := #[{ on := 2, ground := Go.Ground.data }, { on := 1, ground := Go.Ground.chain }], guard := none }) rfl (fun K hK => ?_) AllReadyH.nil)
            go_simp
            refine (unhide K28 _ ht1 b1 hs1 hn1a).mono ?_
            rintro e v2 ⟨b2, d2, rfl, hs2, ht2, hs1a⟩
            go_wp2_with fail
            refine hK.out _ _ trivial (fun _ => ?_)
            clear hK K
            refine wpAnyH_ready (rs := [4]) (by kernel_rfl) (by simp) (AllReadyH.cons (o := { dst := some 89, op := Go.Op.call { callee := Go.Callee.value (Go.Operand.func 18), args := #[Go.Operand.tmp 86, Go.Operand.tmp 88], argTypes := #[22, 22] }, type := 4, pos := "law.go:136", after := #[{ on := 1, ground := Go.Ground.data }, { on := 3, ground := Go.Ground.data }, { on := 3, ground := Go.Ground.chain }], guard := none }) rfl (fun K hK => ?_) AllReadyH.nil)
            go_simp
            refine (refSame_any b1 b2 d1 d2 V V (by have := unhide HVL; omega) _ hs1a hs2 true (by simp)).mono ?_
            rintro e v3 ⟨rfl, hb3⟩
            go_wp2_with fail
            refine hK.out _ _ trivial (fun _ => ?_)
            clear hK K
            refine wpAnyH_take (i := 5) (oi := { dst := some 90, op := Go.Op.unOp Go.UnOp.not 4 (Go.Operand.tmp 89), type := 4, pos := "law.go:136", after := #[{ on := 4, ground := Go.Ground.data }], guard := none }) (v := .bool false) rfl (by kernel_rfl) (by kernel_rfl) (by kernel_rfl) (fun _ _ _ h => h) (Or.inl ⟨by rfl, ?_⟩) trivial ?_
            · intro W hW; first | (go_simp; done) | (go_simp; with_reducible rfl)
            simp only [Act.put, List.setIfInBounds_toArray, List.set_cons_zero, List.set_cons_succ]
            refine wpAnyH_take (i := 6) (oi := { dst := some 91, op := Go.Op.move (Go.Operand.tmp 90), type := 4, pos := "law.go:136", after := #[{ on := 5, ground := Go.Ground.data }, { on := 4, ground := Go.Ground.chain }], guard := none }) (v := .bool false) rfl (by kernel_rfl) (by kernel_rfl) (by kernel_rfl) (fun _ _ _ h => h) (Or.inl ⟨by rfl, ?_⟩) trivial ?_
            · intro W hW; first | (go_simp; done) | (go_simp; with_reducible rfl)
            simp only [Act.put, List.setIfInBounds_toArray, List.set_cons_zero, List.set_cons_succ]
            refine wpAnyH_take (i := 7) (oi := { dst := some 92, op := Go.Op.move (Go.Operand.tmp 13), type := 52, pos := "law.go:136", after := #[{ on := 6, ground := Go.Ground.guard }], guard := some (6, false) }) (v := .pointer (some ⟨p, 0, none⟩)) rfl (by kernel_rfl) (by kernel_rfl) (by kernel_rfl) (fun _ _ _ h => h) (Or.inl ⟨by rfl, ?_⟩) trivial ?_
            · intro W hW; first | (go_simp; done) | (go_simp; with_reducible rfl)
            simp only [Act.put, List.setIfInBounds_toArray, List.set_cons_zero, List.set_cons_succ]
            refine wpAnyH_take (i := 9) (oi := { dst := some 94, op := Go.Op.move (Go.Operand.tmp 14), type := 54, pos := "law.go:136", after := #[{ on := 6, ground := Go.Ground.guard }], guard := some (6, false) }) (v := .pointer (some ⟨q, 0, none⟩)) rfl (by kernel_rfl) (by kernel_rfl) (by kernel_rfl) (fun _ _ _ h => h) (Or.inl ⟨by rfl, ?_⟩) trivial ?_
            · intro W hW; first | (go_simp; done) | (go_simp; with_reducible rfl)
            simp only [Act.put, List.setIfInBounds_toArray, List.set_cons_zero, List.set_cons_succ]
            refine wpAnyH_ready (rs := [8]) (by kernel_rfl) (by simp) (AllReadyH.cons (o := { dst := some 93, op := Go.Op.call { callee := Go.Callee.value (Go.Operand.func 29), args := #[Go.Operand.tmp 92], argTypes := #[52] }, type := 28, pos := "law.go:136", after := #[{ on := 7, ground := Go.Ground.data }, { on := 6, ground := Go.Ground.chain }, { on := 6, ground := Go.Ground.guard }], guard := some (6, false) }) rfl (fun K hK => ?_) AllReadyH.nil)
            go_simp
            refine (unhide K29 _ (ht2.after hb3)).mono ?_
            rintro e v4 ⟨b4, d4, rfl, hs4, ht4, hp4, hn4⟩
            go_wp2_with fail
            refine hK.out _ _ trivial (fun _ => ?_)
            clear hK K
            refine wpAnyH_ready (rs := [10]) (by kernel_rfl) (by simp) (AllReadyH.cons (o := { dst := some 95, op := Go.Op.call { callee := Go.Callee.value (Go.Operand.func 30), args := #[Go.Operand.tmp 94], argTypes := #[54] }, type := 28, pos := "law.go:136", after := #[{ on := 9, ground := Go.Ground.data }, { on := 8, ground := Go.Ground.chain }, { on := 6, ground := Go.Ground.guard }], guard := some (6, false) }) rfl (fun K hK => ?_) AllReadyH.nil)
            go_simp
            refine (unhide K30 _ ht4 b4 hs4 _ hp4 hn4).mono ?_
            rintro e v5 ⟨b5, d5, rfl, hs5, ht5, hs4a⟩
            go_wp2_with fail
            refine hK.out _ _ trivial (fun _ => ?_)
            clear hK K
            refine wpAnyH_ready (rs := [11]) (by kernel_rfl) (by simp) (AllReadyH.cons (o := { dst := some 96, op := Go.Op.call { callee := Go.Callee.value (Go.Operand.func 19), args := #[Go.Operand.tmp 93, Go.Operand.tmp 95], argTypes := #[28, 28] }, type := 4, pos := "law.go:136", after := #[{ on := 8, ground := Go.Ground.data }, { on := 10, ground := Go.Ground.data }, { on := 10, ground := Go.Ground.chain }, { on := 6, ground := Go.Ground.guard }], guard := some (6, false) }) rfl (fun K hK => ?_) AllReadyH.nil)
            go_simp
            refine (refSameVs_any b4 b5 d4 d5 L L (unhide HVF) (unhide HVF) _ hs4a hs5 true (by simp)).mono ?_
            rintro e v6 ⟨rfl, hb6⟩
            have ht6 := ht5.after hb6
            have q0 := ht6.doc.c0
            have q1 := ht6.doc.c1
            dsimp only at q0 q1
            have HT6 := hide ht6
            clear ht6 ht5 ht4 ht2 ht1 hs1 hn1a hs2 hs1a hb3 hs4 hp4 hn4 hs5 hs4a hb6
            go_wp2_with fail
            refine hK.out _ _ trivial (fun _ => ?_)
            clear hK K
            refine wpAnyH_weaken (S := fun W => W = v6) (fun _ _ => trivial) _ _ _ _ ?_
            refine wpAnyH_take (i := 12) (oi := { dst := some 97, op := Go.Op.unOp Go.UnOp.not 4 (Go.Operand.tmp 96), type := 4, pos := "law.go:136", after := #[{ on := 11, ground := Go.Ground.data }, { on := 6, ground := Go.Ground.guard }], guard := some (6, false) }) (v := .bool false) rfl (by kernel_rfl) (by kernel_rfl) (by kernel_rfl) (fun _ _ _ h => h) (Or.inl ⟨by rfl, ?_⟩) rfl ?_
            · intro W hW; subst hW; first | (go_simp; done) | (go_simp; with_reducible rfl)
            simp only [Act.put, List.setIfInBounds_toArray, List.set_cons_zero, List.set_cons_succ]
            refine wpAnyH_take (i := 13) (oi := { dst := some 98, op := Go.Op.pick (Go.Operand.tmp 91) (Go.Operand.const (Go.Value.bool true)) (Go.Operand.tmp 97), type := 4, pos := "law.go:136", after := #[{ on := 6, ground := Go.Ground.data }, { on := 12, ground := Go.Ground.data }], guard := none }) (v := .bool false) rfl (by kernel_rfl) (by kernel_rfl) (by kernel_rfl) (fun _ _ _ h => h) (Or.inl ⟨by rfl, ?_⟩) rfl ?_
            · intro W hW; subst hW; first | (go_simp; done) | (go_simp; with_reducible rfl)
            simp only [Act.put, List.setIfInBounds_toArray, List.set_cons_zero, List.set_cons_succ]
            refine wpAnyH_take (i := 14) (oi := { dst := some 99, op := Go.Op.move (Go.Operand.tmp 98), type := 4, pos := "law.go:136", after := #[{ on := 13, ground := Go.Ground.data }, { on := 11, ground := Go.Ground.chain }], guard := none }) (v := .bool false) rfl (by kernel_rfl) (by kernel_rfl) (by kernel_rfl) (fun _ _ _ h => h) (Or.inl ⟨by rfl, ?_⟩) rfl ?_
            · intro W hW; subst hW; first | (go_simp; done) | (go_simp; with_reducible rfl)
            simp only [Act.put, List.setIfInBounds_toArray, List.set_cons_zero, List.set_cons_succ]
            refine wpAnyH_take (i := 15) (oi := { dst := some 100, op := Go.Op.move (Go.Operand.tmp 13), type := 52, pos := "law.go:136", after := #[{ on := 14, ground := Go.Ground.guard }], guard := some (14, false) }) (v := .pointer (some ⟨p, 0, none⟩)) rfl (by kernel_rfl) (by kernel_rfl) (by kernel_rfl) (fun _ _ _ h => h) (Or.inl ⟨by rfl, ?_⟩) rfl ?_
            · intro W hW; subst hW; first | (go_simp; done) | (go_simp; with_reducible rfl)
            simp only [Act.put, List.setIfInBounds_toArray, List.set_cons_zero, List.set_cons_succ]
            refine wpAnyH_take (i := 17) (oi := { dst := some 102, op := Go.Op.move (Go.Operand.tmp 14), type := 54, pos := "law.go:136", after := #[{ on := 14, ground := Go.Ground.guard }], guard := some (14, false) }) (v := .pointer (some ⟨q, 0, none⟩)) rfl (by kernel_rfl) (by kernel_rfl) (by kernel_rfl) (fun _ _ _ h => h) (Or.inl ⟨by rfl, ?_⟩) rfl ?_
            · intro W hW; subst hW; first | (go_simp; done) | (go_simp; with_reducible rfl)
            simp only [Act.put, List.setIfInBounds_toArray, List.set_cons_zero, List.set_cons_succ]
            refine wpAnyH_take (i := 18) (oi := { dst := some 103, op := Go.Op.nilCheck (Go.Operand.tmp 102), type := 0, pos := "law.go:136", after := #[{ on := 17, ground := Go.Ground.data }, { on := 14, ground := Go.Ground.guard }], guard := some (14, false) }) (v := .pointer (some ⟨q, 0, none⟩)) rfl (by kernel_rfl) (by kernel_rfl) (by kernel_rfl) (fun _ _ _ h => h) (Or.inl ⟨by rfl, ?_⟩) rfl ?_
            · intro W hW; subst hW; first | (go_simp; done) | (go_simp; with_reducible rfl)
            simp only [Act.put, List.setIfInBounds_toArray, List.set_cons_zero, List.set_cons_succ]
            refine wpAnyH_take (i := 19) (oi := { dst := some 104, op := Go.Op.fieldAddr 55 (Go.Operand.tmp 103) 1, type := 0, pos := "law.go:136", after := #[{ on := 18, ground := Go.Ground.data }, { on := 14, ground := Go.Ground.guard }], guard := some (14, false) }) (v := .pointer (some ⟨q, 1, none⟩)) rfl (by kernel_rfl) (by kernel_rfl) (by kernel_rfl) (fun _ _ _ h => h) (Or.inl ⟨by rfl, ?_⟩) rfl ?_
            · intro W hW; subst hW; first | (go_simp; done) | (go_simp; with_reducible rfl)
            simp only [Act.put, List.setIfInBounds_toArray, List.set_cons_zero, List.set_cons_succ]
            refine wpAnyH_take (i := 20) (oi := { dst := some 105, op := Go.Op.load 24 (Go.Operand.tmp 104), type := 24, pos := "law.go:136", after := #[{ on := 19, ground := Go.Ground.data }, { on := 14, ground := Go.Ground.guard }], guard := some (14, false) }) (v := .int .i64 SE) rfl (by kernel_rfl) (by kernel_rfl) (by kernel_rfl) (fun _ _ _ h => h) (Or.inl ⟨by rfl, ?_⟩) rfl ?_
            · intro W hW; subst hW; first | (go_simp; done) | (go_simp; with_reducible rfl)
            simp only [Act.put, List.setIfInBounds_toArray, List.set_cons_zero, List.set_cons_succ]
            refine wpAnyH_ready (rs := [16]) (by kernel_rfl) (by simp) (AllReadyH.cons (o := { dst := some 101, op := Go.Op.call { callee := Go.Callee.value (Go.Operand.func 31), args := #[Go.Operand.tmp 100], argTypes := #[52] }, type := 24, pos := "law.go:136", after := #[{ on := 15, ground := Go.Ground.data }, { on := 14, ground := Go.Ground.chain }, { on := 14, ground := Go.Ground.guard }], guard := some (14, false) }) rfl (fun K hK => ?_) AllReadyH.nil)
            go_simp
            refine (rerr_at (show RdAt _ p (SB, SE) from (unhide HT6).prog)).mono ?_
            rintro e v7 ⟨rfl, h7⟩
            subst h7
            go_wp2_with fail
            refine hK.out _ _ rfl (fun _ => ?_)
            clear hK K
            refine wpAnyH_take (i := 21) (oi := { dst := some 106, op := Go.Op.binOp Go.BinOp.neq 24 (Go.Operand.tmp 101) (Go.Operand.tmp 105) 24, type := 4, pos := "law.go:136", after := #[{ on := 16, ground := Go.Ground.data }, { on := 20, ground := Go.Ground.data }, { on := 14, ground := Go.Ground.guard }], guard := some (14, false) }) (v := .bool false) rfl (by kernel_rfl) (by kernel_rfl) (by kernel_rfl) (fun _ _ _ h => h) (Or.inl ⟨by rfl, ?_⟩) rfl ?_
            · intro W hW; subst hW; first | (go_simp; done) | (go_simp; with_reducible rfl)
            simp only [Act.put, List.setIfInBounds_toArray, List.set_cons_zero, List.set_cons_succ]
            refine wpAnyH_take (i := 22) (oi := { dst := some 107, op := Go.Op.pick (Go.Operand.tmp 99) (Go.Operand.const (Go.Value.bool true)) (Go.Operand.tmp 106), type := 4, pos := "law.go:136", after := #[{ on := 14, ground := Go.Ground.data }, { on := 21, ground := Go.Ground.data }], guard := none }) (v := .bool false) rfl (by kernel_rfl) (by kernel_rfl) (by kernel_rfl) (fun _ _ _ h => h) (Or.inl ⟨by rfl, ?_⟩) rfl ?_
            · intro W hW; subst hW; first | (go_simp; done) | (go_simp; with_reducible rfl)
            simp only [Act.put, List.setIfInBounds_toArray, List.set_cons_zero, List.set_cons_succ]
            refine wpAnyH_take (i := 23) (oi := { dst := some 108, op := Go.Op.move (Go.Operand.tmp 107), type := 4, pos := "law.go:136", after := #[{ on := 22, ground := Go.Ground.data }, { on := 16, ground := Go.Ground.chain }], guard := none }) (v := .bool false) rfl (by kernel_rfl) (by kernel_rfl) (by kernel_rfl) (fun _ _ _ h => h) (Or.inl ⟨by rfl, ?_⟩) rfl ?_
            · intro W hW; subst hW; first | (go_simp; done) | (go_simp; with_reducible rfl)
            simp only [Act.put, List.setIfInBounds_toArray, List.set_cons_zero, List.set_cons_succ]
            refine wpAnyH_take (i := 24) (oi := { dst := some 109, op := Go.Op.move (Go.Operand.tmp 13), type := 52, pos := "law.go:136", after := #[{ on := 23, ground := Go.Ground.guard }], guard := some (23, false) }) (v := .pointer (some ⟨p, 0, none⟩)) rfl (by kernel_rfl) (by kernel_rfl) (by kernel_rfl) (fun _ _ _ h => h) (Or.inl ⟨by rfl, ?_⟩) rfl ?_
            · intro W hW; subst hW; first | (go_simp; done) | (go_simp; with_reducible rfl)
            simp only [Act.put, List.setIfInBounds_toArray, List.set_cons_zero, List.set_cons_succ]
            refine wpAnyH_take (i := 26) (oi := { dst := some 111, op := Go.Op.move (Go.Operand.tmp 14), type := 54, pos := "law.go:136", after := #[{ on := 23, ground := Go.Ground.guard }], guard := some (23, false) }) (v := .pointer (some ⟨q, 0, none⟩)) rfl (by kernel_rfl) (by kernel_rfl) (by kernel_rfl) (fun _ _ _ h => h) (Or.inl ⟨by rfl, ?_⟩) rfl ?_
            · intro W hW; subst hW; first | (go_simp; done) | (go_simp; with_reducible rfl)
            simp only [Act.put, List.setIfInBounds_toArray, List.set_cons_zero, List.set_cons_succ]
            refine wpAnyH_take (i := 27) (oi := { dst := some 112, op := Go.Op.nilCheck (Go.Operand.tmp 111), type := 0, pos := "law.go:136", after := #[{ on := 26, ground := Go.Ground.data }, { on := 23, ground := Go.Ground.guard }], guard := some (23, false) }) (v := .pointer (some ⟨q, 0, none⟩)) rfl (by kernel_rfl) (by kernel_rfl) (by kernel_rfl) (fun _ _ _ h => h) (Or.inl ⟨by rfl, ?_⟩) rfl ?_
            · intro W hW; subst hW; first | (go_simp; done) | (go_simp; with_reducible rfl)
            simp only [Act.put, List.setIfInBounds_toArray, List.set_cons_zero, List.set_cons_succ]
            refine wpAnyH_take (i := 28) (oi := { dst := some 113, op := Go.Op.fieldAddr 55 (Go.Operand.tmp 112) 0, type := 0, pos := "law.go:136", after := #[{ on := 27, ground := Go.Ground.data }, { on := 23, ground := Go.Ground.guard }], guard := some (23, false) }) (v := .pointer (some ⟨q, 0, none⟩)) rfl (by kernel_rfl) (by kernel_rfl) (by kernel_rfl) (fun _ _ _ h => h) (Or.inl ⟨by rfl, ?_⟩) rfl ?_
            · intro W hW; subst hW; first | (go_simp; done) | (go_simp; with_reducible rfl)
            simp only [Act.put, List.setIfInBounds_toArray, List.set_cons_zero, List.set_cons_succ]
            refine wpAnyH_take (i := 29) (oi := { dst := some 114, op := Go.Op.load 9 (Go.Operand.tmp 113), type := 9, pos := "law.go:136", after := #[{ on := 28, ground := Go.Ground.data }, { on := 23, ground := Go.Ground.guard }], guard := some (23, false) }) (v := .string (str SB)) rfl (by kernel_rfl) (by kernel_rfl) (by kernel_rfl) (fun _ _ _ h => h) (Or.inl ⟨by rfl, ?_⟩) rfl ?_
            · intro W hW; subst hW; first | (go_simp; done) | (go_simp; with_reducible rfl)
            simp only [Act.put, List.setIfInBounds_toArray, List.set_cons_zero, List.set_cons_succ]
            refine wpAnyH_take (i := 30) (oi := { dst := some 115, op := Go.Op.call { callee := Go.Callee.builtin Go.Builtin.len, args := #[Go.Operand.tmp 114], argTypes := #[9] }, type := 3, pos := "law.go:136", after := #[{ on := 29, ground := Go.Ground.data }, { on := 23, ground := Go.Ground.guard }], guard := some (23, false) }) (v := .int .i64 (str SB).size) rfl (by kernel_rfl) (by kernel_rfl) (by kernel_rfl) (fun _ _ _ h => h) (Or.inl ⟨by rfl, ?_⟩) rfl ?_
            · intro W hW; subst hW; first | (go_simp; done) | (go_simp; with_reducible rfl)
            simp only [Act.put, List.setIfInBounds_toArray, List.set_cons_zero, List.set_cons_succ]
            refine wpAnyH_ready (rs := [25]) (by kernel_rfl) (by simp) (AllReadyH.cons (o := { dst := some 110, op := Go.Op.call { callee := Go.Callee.value (Go.Operand.func 32), args := #[Go.Operand.tmp 109], argTypes := #[52] }, type := 3, pos := "law.go:136", after := #[{ on := 24, ground := Go.Ground.data }, { on := 23, ground := Go.Ground.chain }, { on := 23, ground := Go.Ground.guard }], guard := some (23, false) }) rfl (fun K hK => ?_) AllReadyH.nil)
            go_simp
            refine (rleft_at (show RdAt _ p (SB, SE) from (unhide HT6).prog)).mono ?_
            rintro e v8 ⟨rfl, h8⟩
            subst h8
            go_wp2_with fail
            refine hK.out _ _ rfl (fun _ => ?_)
            clear hK K
            refine wpAnyH_take (i := 31) (oi := { dst := some 116, op := Go.Op.binOp Go.BinOp.neq 3 (Go.Operand.tmp 110) (Go.Operand.tmp 115) 3, type := 4, pos := "law.go:136", after := #[{ on := 25, ground := Go.Ground.data }, { on := 30, ground := Go.Ground.data }, { on := 23, ground := Go.Ground.guard }], guard := some (23, false) }) (v := .bool false) rfl (by kernel_rfl) (by kernel_rfl) (by kernel_rfl) (fun _ _ _ h => h) (Or.inl ⟨by rfl, ?_⟩) rfl ?_
            · intro W hW; subst hW; first | (go_simp; done) | (go_simp; with_reducible rfl)
            simp only [Act.put, List.setIfInBounds_toArray, List.set_cons_zero, List.set_cons_succ]
            refine wpAnyH_take (i := 32) (oi := { dst := some 117, op := Go.Op.pick (Go.Operand.tmp 108) (Go.Operand.const (Go.Value.bool true)) (Go.Operand.tmp 116), type := 4, pos := "law.go:136", after := #[{ on := 23, ground := Go.Ground.data }, { on := 31, ground := Go.Ground.data }], guard := none }) (v := .bool false) rfl (by kernel_rfl) (by kernel_rfl) (by kernel_rfl) (fun _ _ _ h => h) (Or.inl ⟨by rfl, ?_⟩) rfl ?_
            · intro W hW; subst hW; first | (go_simp; done) | (go_simp; with_reducible rfl)
            simp only [Act.put, List.setIfInBounds_toArray, List.set_cons_zero, List.set_cons_succ]
            refine wpAnyH_done (by kernel_rfl) ?_ _
            have HZ := hide (And.intro (unhide HT6) (unhide HL2))
            clear q0 q1
            go_wp2_with fail
            go_roundw
            case rel => exact ⟨k + 1, (SB, SE), by omega, by go_num, HZ⟩
            case measure => simp [intOf]; omega
          · obtain rfl : k = 4 := by omega
            go_wp2_with fail
            refine (awake_any _).mono ?_
            rintro e w11 ⟨rfl, hb⟩
            have HB11 := hide (below_grow (unhide HT).1.below (Nat.le_refl _) hb)
            clear hb
            go_wp2_with fail
            go_ret
            exact ⟨rfl, unhide HB11⟩
end Go.Proofs.Ytklkacmeopfmhaa
