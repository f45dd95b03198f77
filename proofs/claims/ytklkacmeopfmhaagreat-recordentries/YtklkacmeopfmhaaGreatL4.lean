/-
  The walk of the statement on entries. Conditions: those that each theorem names.
-/
import Derived.Test.YtklkacmeopfmhaaGreatE2
import Derived.Test.YtklkacmeopfmhaaGreatL1
import Derived.Test.YtklkacmeopfmhaaGreatOpenE
import Derived.Deep.RegionHeld3
namespace Go.Proofs.YtklkacmeopfmhaaGreat
open Go.RowKit

theorem EAt.after {W W' : World} {g o : Nat} {x : En} (h : EAt W g o x) (hg : g < W.heap.size) (hb : Below W.heap.size W W') : EAt W' g o x := by
  obtain ⟨r, c, h0, h1, h2, h3⟩ := h
  refine ⟨r, c, ?_, ?_, h2, h3.after hb⟩
  all_goals rw [hb.cell (by exact hg)]
  all_goals assumption
/-- The program's writer and the document's, side by side, in memory of the call's own. -/
structure WD (w : World) (p : Addr) (q : Nat) (S S' : St) (own : Nat → Prop) (W : World) : Prop where
  wr : Wr W p S own
  fresh : ∀ g, own g → w.heap.size ≤ g
  doc : Doc W q 31 S'
  hq : w.heap.size ≤ q
  nq : ¬ own q
  below : Below w.heap.size w W
section
variable {w W W' : World} {p : Addr} {q : Nat} {S S' : St} {own : Nat → Prop}
theorem WD.after (h : WD w p q S S' own W) (hb : Below W.heap.size W W') : WD w p q S S' own W' :=
  ⟨wr_after h.wr hb, h.fresh, h.doc.after hb, h.hq, h.nq, below_grow h.below (Nat.le_refl _) hb⟩
theorem WD.turn {S1 : St} {v : Value} {e : Ending} (h : WD w p q S S' own W) (hm : Turned Wr own p W S1 v e W') : e = .returned v ∧ ∃ own', WD w p q S1 S' own' W' := by
  obtain ⟨own', h1, h2, h3, h4⟩ := hm
  refine ⟨h1, own', h2, own_beside h.below (Nat.le_refl _) h.fresh h3, VRow.beside h.doc h4 h.nq, h.hq, fun hq => ?_, below_beside h.below (Nat.le_refl _) h.fresh h4⟩
  rcases h3 q hq with h5 | h5
  · exact h.nq h5
  · have := h.doc.lt; omega
theorem WD.docs {S1 : St} {v : Value} {e : Ending} (h : WD w p q S S' own W) (hm : DocMade q 31 W S1 v e W') : e = .returned v ∧ WD w p q S S1 own W' :=
  ⟨hm.1, wr_keep h.wr hm.2.2.size fun g hg => hm.2.2.block g (wr_lt h.wr g hg) (fun (e : g = q) => h.nq (by subst e; exact hg)), h.fresh, hm.2.1, h.hq, h.nq, below_beside h.below (Nat.le_refl _) (fun g (e : g = q) => by subst e; exact h.hq) hm.2.2⟩
end
/-- The two readers side by side. -/
structure Two (w : World) (p q : Nat) (st st' : St) (W : World) : Prop where
  prog : Doc W p 63 st'
  doc : Doc W q 43 st
  np : w.heap.size ≤ p
  nq : w.heap.size ≤ q
  ne : p ≠ q
  below : Below w.heap.size w W
section
variable {w W W' : World} {p q : Nat} {st st' : St}
theorem Two.after (h : Two w p q st st' W) (hb : Below W.heap.size W W') : Two w p q st st' W' :=
  ⟨h.prog.after hb, h.doc.after hb, h.np, h.nq, h.ne, below_grow h.below (Nat.le_refl _) hb⟩
theorem Two.half {S : St} (h : Two w p q st S W) (hd : DS p 63 W st' W') : Two w p q st st' W' :=
  ⟨hd.1, VRow.beside h.doc hd.2 (fun e => h.ne e.symm), h.np, h.nq, h.ne, h.below.trans (hd.below h.below.size h.np)⟩
theorem Two.two {S : St} (h : Two w p q S st' W) (hd : DS q 43 W st' W') : Two w p q st' st' W' :=
  ⟨VRow.beside h.prog hd.2 h.ne, hd.1, h.np, h.nq, h.ne, h.below.trans (hd.below h.below.size h.nq)⟩
end
theorem entry_few (st : St) : Few (rEntry st).1.2 := by
  unfold rEntry endE
  dsimp only
  split
  · exact ⟨by simp, fun v hv => by cases hv⟩
  · exact ⟨by have := rLeaf_len (fail (rText st 51).2 (pchk (rText st 51).1)); dsimp only; omega, fun v hv => by have := rLeaf_past _ v hv; omega⟩

set_option maxRecDepth 100000 in
set_option maxHeartbeats 4000000 in
theorem entries_walk (a : Option Addr) (cap : Nat) (es : List En) (_ : es.length ≤ cap) (hok : ∀ x ∈ es, EnOk x) (s : ByteArray) (_ : s.size ≤ 9223372036854775807) (w : World) (h : EL w a es) :
    Calls Tryz.prog 3 #[.slice a es.length cap, .string s] w fun e w' => e = .returned (.bool true) ∧ Below w.heap.size w w' := by
  have HL := hide h
  have HOK := hide hok
  clear h hok
  by_cases h20 : 20 < es.length
  · have hd : decide ((20 : Int) < (es.length : Int)) = true := decide_eq_true (by omega)
    go_enter Tryz.func3, Tryz.ntmps3
    go_wp2_with fail
    refine (awake_any _).mono ?_
    rintro e w9 ⟨rfl, hb⟩
    have HB := hide hb
    clear hb
    go_wp2_with fail
    go_ret
    exact ⟨rfl, unhide HB⟩
  · have hd : decide ((20 : Int) < (es.length : Int)) = false := decide_eq_false (by omega)
    by_cases h5 : 5000 < s.size
    · have hd5 : decide ((5000 : Int) < (s.size : Int)) = true := decide_eq_true (by omega)
      go_enter Tryz.func3, Tryz.ntmps3
      go_wp2_with fail
      refine (awake_any _).mono ?_
      rintro e w9 ⟨rfl, hb⟩
      have HB := hide hb
      clear hb
      go_wp2_with fail
      go_ret
      exact ⟨rfl, unhide HB⟩
    · have hd5 : decide ((5000 : Int) < (s.size : Int)) = false := decide_eq_false (by omega)
      have hl20 : es.length ≤ 20 := by omega
      have HS5 : Hid (s.size ≤ 5000) := hide (by omega)
      obtain ⟨own, hz, ho⟩ := wr_zero w
      have hz1 := wr_lt hz
      have hb1 := below_alloc' (w := w) (.cells zeroW 28)
      have hb2 := below_alloc' (w := w.alloc (.cells zeroW 28)) (.cells #[.string ⟨#[]⟩, .int .i64 0] 31)
      have HWD : Hid (WD w ⟨w.heap.size, 0, none⟩ (w.heap.size + 1) ([], 0) ([], 0) own ((w.alloc (.cells zeroW 28)).alloc (.cells #[.string ⟨#[]⟩, .int .i64 0] 31))) := hide
        ⟨wr_after hz hb2, ho, VRow.newAt (W := w.alloc (.cells zeroW 28)) (T := 31) (n := w.heap.size + 1) (vs := [.string ⟨#[]⟩, .int .i64 0]) (by simp), by omega, fun h => by have := hz1 _ h; simp at this, below_grow hb1 (Nat.le_refl _) hb2⟩
      clear hz ho hz1 hb1 hb2
      go_enter Tryz.func3, Tryz.ntmps3
      go_wp2_with fail
      generalize (w.alloc (.cells zeroW 28)).alloc (.cells #[.string ⟨#[]⟩, .int .i64 0] 31) = wB at HWD ⊢
      go_loopw [7] (fun i wr => ∃ (k : Nat) (S : St) (own : Nat → Prop), k ≤ es.length ∧ i = .int .i64 k ∧ Hid (WD w ⟨w.heap.size, 0, none⟩ (w.heap.size + 1) S S own wr ∧ S.1.length ≤ 46300 * k)) (fun i _ => es.length - (intOf i).toNat)
      case atStart => exact ⟨0, ([], 0), own, Nat.zero_le _, rfl, hide ⟨unhide HWD, by simp⟩⟩
      case round =>
        clear HWD
        obtain ⟨k, S, own, hk, rfl, HH⟩ := hrel
        by_cases hlt : k < es.length
        · obtain ⟨x, hx⟩ : ∃ x, es[k]? = some x := ⟨_, List.getElem?_eq_getElem hlt⟩
          obtain ⟨g, o, rfl, hg, hc⟩ := unhide HL (by omega)
          obtain ⟨r, c, hc0, hc1, hc2, hsv⟩ := hc k x hx
          have HX : Hid (∀ W, Below w.heap.size w W → W.cell? ⟨g, o + k * 2, none⟩ = some (.string x.1) ∧ W.cell? ⟨g, o + k * 2 + 1, none⟩ = some (.slice r x.2.length c)) := hide fun W hb => by
            rw [hb.cell (p := ⟨g, o + k * 2, none⟩) (by exact hg), hb.cell (p := ⟨g, o + k * 2 + 1, none⟩) (by exact hg)]
            exact ⟨hc0, hc1⟩
          have HSV := hide hsv
          have HXO := hide (unhide HOK x (List.mem_of_getElem? hx))
          have hx0 := (unhide HX _ (unhide HH).1.below).1
          have hx1 := (unhide HX _ (unhide HH).1.below).2
          clear hx hc hc0 hc1 hc2 hsv hg
          obtain ⟨path, vs⟩ := x
          dsimp only at HX HSV HXO hx0 hx1
          by_cases h200 : 200 < path.size
          · have hdp : decide ((200 : Int) < (path.size : Int)) = true := decide_eq_true (by omega)
            go_wp2_with fail
            refine (awake_any _).mono ?_
            rintro e w9 ⟨rfl, hb⟩
            have HB := hide (below_grow (unhide HH).1.below (Nat.le_refl _) hb)
            clear hb
            go_wp2_with fail
            go_ret
            exact ⟨rfl, unhide HB⟩
          · have hdp : decide ((200 : Int) < (path.size : Int)) = false := decide_eq_false (by omega)
            have HP200 : Hid (path.size ≤ 200) := hide (by omega)
            have KG := hide (great1 wr r c vs ((unhide HSV).after (unhide HH).1.below))
            have HH1 := hide ((unhide HH).1.after (below_alloc' (.cells #[.slice r vs.length c] 32)))
            have HLS := hide (unhide HH).2
            clear h200
            go_wp2_with fail
            refine (unhide KG).mono ?_
            rintro e wG ⟨B, rfl, hw, hG⟩
            rw [← hw] at HH1
            clear hw KG HH hx0 hx1
            cases B with
            | true =>
              go_wp2_with fail
              refine (awake_any _).mono ?_
              rintro e w9 ⟨rfl, hb⟩
              have HB := hide (below_grow (unhide HH1).below (Nat.le_refl _) hb)
              clear hb
              go_wp2_with fail
              go_ret
              exact ⟨rfl, unhide HB⟩
            | false =>
              have HF := hide ((unhide HXO).2.1.few (hG rfl))
              have HLB : Hid (S.1.length ≤ 30000000) := hide (by have := unhide HLS; omega)
              have HLN := hide (wEntry_len S path vs (unhide HP200))
              have hx0 := (unhide HX _ (unhide HH1).below).1
              have hx1 := (unhide HX _ (unhide HH1).below).2
              clear hG
              go_wp2_with fail
              refine (putEntry_any (unhide HH1).wr (unhide HLB) w (unhide HH1).below (unhide HH1).fresh path (unhide HP200) r c vs (unhide HF) (unhide HSV)).mono ?_
              intro e w2 hm
              obtain ⟨rfl, own2, hd2⟩ := (unhide HH1).turn hm
              have HD2 := hide hd2
              clear hm hd2 hx0 hx1
              have hx0 := (unhide HX _ (unhide HD2).below).1
              have hx1 := (unhide HX _ (unhide HD2).below).2
              go_wp2_with fail
              refine (refPutEntry_any (unhide HD2).doc (unhide HLB) w (unhide HD2).below (unhide HD2).hq path (unhide HP200) r c vs (unhide HF) (unhide HXO).2.2 (unhide HSV)).mono ?_
              intro e w3 hm
              obtain ⟨rfl, hd3⟩ := (unhide HD2).docs hm
              have HD3 := hide hd3
              clear hm hd3 hx0 hx1
              go_wp2_with fail
              go_roundw
              case rel => exact ⟨k + 1, _, own2, by omega, by go_num, hide ⟨unhide HD3, by have := unhide HLN; have := unhide HLS; omega⟩⟩
              case measure => simp [intOf]; omega
        · obtain rfl : k = es.length := by omega
          have KD := hide (wdone_any (unhide HH).1.wr)
          have KE := hide fun W h => refDoneW_any (w.heap.size + 1) S W h
          have HH1 := hide (unhide HH).1
          generalize str (told S) = A at KD KE
          generalize S.2 = E at KD KE
          have hE : (E != E) = false := by simp
          go_wp2_with fail
          refine (unhide KD).mono ?_
          rintro e w7 ⟨rfl, hb⟩
          have HH2 := hide ((unhide HH1).after hb)
          clear hb
          go_wp2_with fail
          refine (unhide KE _ (unhide HH2).doc).mono ?_
          rintro e w8 ⟨rfl, hb⟩
          have HB8 := hide (below_grow (unhide HH2).below (Nat.le_refl _) hb)
          clear hb KD KE HH1 HH2 HH
          go_wp2_with fail
          refine (rnew_d s w8).mono ?_
          rintro e w9 ⟨rfl, hd, hb⟩
          have hp9 := hd.lt
          have hb2 := below_alloc' (w := w9) (.cells #[.string s, .int .i64 0] 43)
          have HT : Hid (Two w w8.heap.size w9.heap.size (s.data.toList, 0) (s.data.toList, 0) (w9.alloc (.cells #[.string s, .int .i64 0] 43)) ∧ s.data.toList.length ≤ 50000000) := hide
            ⟨⟨hd.after hb2, doc_text w9 s, (unhide HB8).size, Nat.le_trans (unhide HB8).size hb.size, Nat.ne_of_lt hp9, below_grow (below_grow (unhide HB8) (Nat.le_refl _) hb) (Nat.le_refl _) hb2⟩, by rw [size_data]; have := unhide HS5; omega⟩
          clear hd hb hb2
          go_wp2_with fail
          clear hp9
          generalize w9.alloc (.cells #[.string s, .int .i64 0] 43) = w10 at HT ⊢
          generalize w8.heap.size = p at HT ⊢
          generalize w9.heap.size = q at HT ⊢
          go_loopw [14] (fun i wr => ∃ (k : Nat) (st : St), k ≤ 8 ∧ i = .int .i64 k ∧ Hid (Two w p q st st wr ∧ st.1.length ≤ 50000000)) (fun i _ => 8 - (intOf i).toNat)
          case atStart => exact ⟨0, (s.data.toList, 0), by omega, rfl, HT⟩
          case round =>
            clear HT
            obtain ⟨k, st, hk, rfl, HT⟩ := hrel
            by_cases hlt : k < 8
            · have HL1 : Hid ((rEntry st).2.1.length ≤ 50000000) := hide (Nat.le_trans (rEntry_less st) (unhide HT).2)
              have HVF := hide (entry_few st)
              have K11 := hide (takeEntry_any (unhide HT).1.prog (unhide HT).2)
              have K12 := hide fun W (h : Doc W q 43 st) => refTakeEntry_any h (unhide HT).2
              have HT0 := hide (unhide HT).1
              clear HT
              obtain ⟨⟨⟨P, L⟩, SB, SE⟩, hV⟩ : ∃ X, rEntry st = X := ⟨_, rfl⟩
              rw [hV] at HL1 HVF K11 K12
              dsimp only at HL1 HVF
              obtain ⟨U, hU⟩ : ∃ U, str P = U := ⟨_, rfl⟩
              have HU := hide hU
              have hE2 : (SE != SE) = false := by simp
              have hn1 : ((SB.length : Int) != ((str SB).size : Int)) = false := by rw [str_size]; simp
              clear hV hU
              go_wp2_with fail
              refine (unhide K11).mono ?_
              rintro e v1 ⟨b1, d1, rfl, hs1, hp1, hd1⟩
              dsimp only at hs1 hp1 hd1 ⊢
              have HT1 := hide ((unhide HT0).half hd1)
              have HS1 := hide hs1
              have HP1 := hide hp1
              have hq0 := (unhide HT0).doc.lt
              clear hs1 hp1 hd1
              go_wp2_with fail
              rw [unhide HU]
              refine (unhide K12 _ (unhide HT1).doc).mono ?_
              rintro e v2 ⟨b2, d2, rfl, hs2, _, hd2⟩
              dsimp only at hs2 hd2 ⊢
              have HT2 := hide ((unhide HT1).two hd2)
              have HS1b := hide ((unhide HS1).beside (unhide HP1) hd2.2 (by omega))
              have HS2 := hide hs2
              clear hs2 hd2
              rw [unhide HU]
              have HR1 := hide (VRow.new v2 34 zero34)
              have HR2 := hide (VRow.newAt (W := v2.alloc (.cells zero34.toArray 34)) (T := 34) (n := v2.heap.size + 1) (vs := zero34) (by simp))
              have HB2 := hide (below_grow (below_alloc' (w := v2) (.cells zero34.toArray 34)) (Nat.le_refl _) (below_alloc' (w := v2.alloc (.cells zero34.toArray 34)) (.cells zero34.toArray 34)))
              go_wp2_with (first
                | (refine store_row (by rfl) 34 (.tmp 15) (.tmp 95) (by rfl) v2.heap.size [.string U, .slice b1 L.length d1] (by rfl) (by rfl) 34 zero34 ((unhide HR1).alloc _) 2 size34 rfl rfl (by simp [Value.oneCell']) ?_; intro v3 ho3 hr3; have HO3 := hide ho3; have HR3 := hide hr3; clear ho3 hr3)
                | (refine store_row (by rfl) 34 (.tmp 16) (.tmp 97) (by rfl) (v2.heap.size + 1) [.string U, .slice b2 L.length d2] (by rfl) (by rfl) 34 zero34 ((unhide HR2).only (unhide HO3) (by omega)) 2 size34 rfl rfl (by simp [Value.oneCell']) ?_; intro v4 ho4 hr4; have HO4 := hide ho4; have HR4 := hide hr4; clear ho4 hr4))
              have HBW := hide (((unhide HB2).trans ((unhide HO3).below (Nat.le_refl _))).trans ((unhide HO4).below (Nat.le_succ _)))
              have HT4 := hide ((unhide HT2).after (unhide HBW))
              have HR3b := hide ((unhide HR3).only (unhide HO4) (by omega))
              have HQ : Hid (∀ W, Below v4.heap.size v4 W → W.cell? ⟨v2.heap.size, 0, none⟩ = some (.string U) ∧ W.cell? ⟨v2.heap.size, 1, none⟩ = some (.slice b1 L.length d1) ∧ W.cell? ⟨v2.heap.size + 1, 0, none⟩ = some (.string U) ∧ W.cell? ⟨v2.heap.size + 1, 1, none⟩ = some (.slice b2 L.length d2) ∧ W.cell? ⟨q, 0, none⟩ = some (.string (str SB)) ∧ W.cell? ⟨q, 1, none⟩ = some (.int .i64 SE) ∧ Below v4.heap.size v4 W) := hide fun W hb =>
                ⟨((unhide HR3b).after hb).cell 0 _ rfl, ((unhide HR3b).after hb).cell 1 _ rfl, ((unhide HR4).after hb).cell 0 _ rfl, ((unhide HR4).after hb).cell 1 _ rfl, ((unhide HT4).after hb).doc.c0, ((unhide HT4).after hb).doc.c1, hb⟩
              have K13 := hide fun W (hb : Below v4.heap.size v4 W) => refSameVs_any b1 b2 d1 d2 L L (unhide HVF) (unhide HVF) W (((unhide HS1b).after (unhide HBW)).after hb) (((unhide HS2).after (unhide HBW)).after hb) true (by simp)
              have K14 := hide fun W (hb : Below v4.heap.size v4 W) => rerr_at (show RdAt W p (SB, SE) from ((unhide HT4).after hb).prog)
              have K15 := hide fun W (hb : Below v4.heap.size v4 W) => rleft_at (show RdAt W p (SB, SE) from ((unhide HT4).after hb).prog)
              dsimp only at K14 K15
              go_wp2_with fail
              go_region_held3 (fun w' => w'.cell? ⟨v2.heap.size, 0, none⟩ = some (.string U) ∧ w'.cell? ⟨v2.heap.size, 1, none⟩ = some (.slice b1 L.length d1) ∧ w'.cell? ⟨v2.heap.size + 1, 0, none⟩ = some (.string U) ∧ w'.cell? ⟨v2.heap.size + 1, 1, none⟩ = some (.slice b2 L.length d2) ∧ w'.cell? ⟨q, 0, none⟩ = some (.string (str SB)) ∧ w'.cell? ⟨q, 1, none⟩ = some (.int .i64 SE) ∧ Below v4.heap.size v4 w')
                (first | exact unhide HQ _ (below_drew (Below.refl _ _)) | exact unhide HQ _ (by assumption))
                (first
                  | (go_at_call 13; refine (unhide K13 _ (And.right (And.right (And.right (And.right (And.right (And.right (by assumption)))))))).mono ?_; rintro e x1 ⟨rfl, hb⟩; have hb1 := below_grow (And.right (And.right (And.right (And.right (And.right (And.right (by assumption))))))) (Nat.le_refl _) hb; clear hb)
                  | (go_at_call 14; refine (unhide K14 _ (And.right (And.right (And.right (And.right (And.right (And.right (by assumption)))))))).mono ?_; rintro e x2 ⟨rfl, hx2⟩; subst hx2)
                  | (go_at_call 15; refine (unhide K15 _ (And.right (And.right (And.right (And.right (And.right (And.right (by assumption)))))))).mono ?_; rintro e x3 ⟨rfl, hx3⟩; subst hx3))
              all_goals
                rename_i hHeld
                have HZ := hide (And.intro ((unhide HT4).after hHeld.2.2.2.2.2.2) (unhide HL1))
                clear hHeld
                go_wp2_with fail
                go_roundw
                case rel => exact ⟨k + 1, (SB, SE), by omega, by go_num, HZ⟩
                case measure => simp [intOf]; omega
            · obtain rfl : k = 8 := by omega
              go_wp2_with fail
              refine (awake_any _).mono ?_
              rintro e w11 ⟨rfl, hb⟩
              have HB11 := hide (below_grow (unhide HT).1.below (Nat.le_refl _) hb)
              clear hb
              go_wp2_with fail
              go_ret
              exact ⟨rfl, unhide HB11⟩
end Go.Proofs.YtklkacmeopfmhaaGreat
