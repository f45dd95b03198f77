/-
  What the document puts: vectors and leaves. Conditions: those that each theorem names.
-/
import Derived.Test.YthchcjjpplcfnaaDoorMathR
import Derived.Test.YthchcjjpplcfnaaDoorSib
namespace Go.Proofs.YthchcjjpplcfnaaDoor
open Go.RowKit

/-- What a call has come to at the document's writer or reader so far. -/
def DS (q T : Nat) (w : World) (st : St) (wr : World) : Prop := Doc wr q T st ∧ Beside (· = q) w wr
def zero61 : List Value := [.int .i64 0, .int .i64 0]
theorem size61 : (Tryd.prog.info? 61).map (·.size) = some 2 := by kernel_rfl
section
variable {q T : Nat} {w w1 wr wr' : World} {st st' : St}
theorem DS.start (h : Doc w q T st) : DS q T w st w := ⟨h, Beside.refl _ _⟩
theorem DS.after (h : DS q T w st wr) (hb : Below wr.heap.size wr wr') : DS q T w st wr' :=
  ⟨h.1.after hb, h.2.trans (beside_of hb)⟩
theorem DS.below (h : DS q T w st wr) {B : Nat} (hB : B ≤ w.heap.size) (hq : B ≤ q) : Below B w wr := h.2.below hB fun g (e : g = q) => by subst e; exact hq
theorem DS.row (h : DS q T w st wr) {B U : Nat} {vs : List Value} (hr : VRow w B U vs) (hB : B ≠ q) : VRow wr B U vs := hr.beside h.2 hB
theorem DS.of (hb : Below w.heap.size w w1) (h : DS q T w1 st wr) : DS q T w st wr := ⟨h.1, (beside_of hb).trans h.2⟩
theorem DS.lt (h : DS q T w st wr) : q < wr.heap.size := h.1.lt
/-- What a call does to it, said of what was there ahead. -/
theorem DS.call {f : Nat} {args : Array Value} {v : Value} (h : DS q T w st wr) (K : Doc wr q T st → Calls Tryd.prog f args wr (DocMade q T wr st' v)) : Calls Tryd.prog f args wr fun e w' => e = .returned v ∧ DS q T w st' w' :=
  (K h.1).mono fun _ _ hm => ⟨hm.1, hm.2.1, h.2.trans hm.2.2⟩
theorem DS.made (h : DS q T w st wr) (v : Value) : DocMade q T w st v (.returned v) wr := ⟨rfl, h.1, h.2⟩
end

set_option maxRecDepth 100000 in
set_option maxHeartbeats 1000000 in
theorem refPutVec_any {w : World} {q : Nat} {st : St} (h : Doc w q 49 st) (hl : st.1.length ≤ 90000000) (w0 : World) (hb0 : Below w0.heap.size w0 w) (hq0 : w0.heap.size ≤ q)
    (a : Option Addr) (cap : Nat) (ds : List Vc.D) (hd : ds.length ≤ 9223372036854775807) (s : Sl w0 a ds) :
    Calls Tryd.prog 42 #[.pointer (some ⟨q, 0, none⟩), .slice a ds.length cap] w (DocMade q 49 w (wVec st ds) (.tuple #[])) := by
  have HW := hide (DS.start h)
  have HB0 := hide hb0
  have HQ0 := hide hq0
  have S0 := hide s
  have KC := hide fun W h => refCheck_any a cap ds hd W h
  have HL1 := hide (show (fail st (Vc.check ds)).1.length ≤ 90000000 from by rw [fail_len]; exact hl)
  have HPART := hide fun k => Nat.le_trans (wVec_part st ds k) (by omega : st.1.length + 645 ≤ 90001000)
  have HFULL : Hid (wDots (wNumber (fail st (Vc.check ds)) ds.length) (ds.take ds.length) = wVec st ds) := hide (by rw [List.take_length]; rfl)
  generalize Vc.check ds = C at KC HL1 HPART HFULL
  obtain ⟨F, hF⟩ : ∃ F, fail st C = F := ⟨_, rfl⟩
  rw [hF] at HL1 HPART HFULL
  obtain ⟨S1, hS1⟩ : ∃ S1, wNumber F ds.length = S1 := ⟨_, rfl⟩
  rw [hS1] at HPART HFULL
  clear h s hb0 hq0 hl
  go_enter Tryd.func42, Tryd.ntmps42
  go_wp2_with fail
  refine (unhide KC _ ((unhide S0).after (unhide HB0))).mono ?_
  rintro e w1 ⟨rfl, hb1⟩
  have HW1 := hide ((unhide HW).after hb1)
  clear hb1
  go_wp2_with fail
  refine ((unhide HW1).call fun hx => refFailW_any q st C _ hx).mono ?_
  rw [hF]
  rintro e w2 ⟨rfl, hs⟩
  have HS2 := hide hs
  clear hs
  go_wp2_with fail
  refine ((unhide HS2).call fun hx => refNumberW_any q F ds.length (by have := unhide HL1; omega) _ hx).mono ?_
  rw [hS1]
  rintro e w3 ⟨rfl, hs⟩
  have HS3 := hide hs
  clear hs hF hS1
  go_wp2_with fail
  go_loopw [4] (fun i wr => ∃ k : Nat, k ≤ ds.length ∧ i = .int .i64 k ∧ DS q 49 w (wDots S1 (ds.take k)) wr) (fun i _ => ds.length - (intOf i).toNat)
  case atStart => exact ⟨0, Nat.zero_le _, rfl, unhide HS3⟩
  case round =>
    obtain ⟨k, hk, rfl, hs⟩ := hrel
    have HR := hide hs
    clear hs
    by_cases hlt : k < ds.length
    · obtain ⟨d, hx⟩ : ∃ d, ds[k]? = some d := ⟨_, List.getElem?_eq_getElem hlt⟩
      have HSL := hide ((unhide S0).after ((unhide HB0).trans ((unhide HR).below (unhide HB0).size (unhide HQ0))))
      obtain ⟨g, o, rfl, hg, hcell⟩ := unhide HSL (by omega)
      have x0 := (hcell k d hx).1
      have HX := hide hx
      have HST := hide (wDots_snoc S1 ds k d hx)
      clear hcell hx hg
      go_wp2_with fail
      refine ((unhide HR).call fun hx => refNumberW_any q _ d.1 (by have := unhide HPART k; omega) _ hx).mono ?_
      rintro e w4 ⟨rfl, hs⟩
      have HS4 := hide hs
      have x1 : w4.cell? ⟨g, o + k * 2 + 1, none⟩ = some (.int .i64 d.2) := by
        obtain ⟨g', o', e', _, hc'⟩ := (unhide S0).after ((unhide HB0).trans (hs.below (unhide HB0).size (unhide HQ0))) (by omega)
        injection e' with e'
        injection e' with e1 e2
        subst e1
        subst e2
        exact (hc' k d (unhide HX)).2
      clear hs x0
      go_wp2_with fail
      refine ((unhide HS4).call fun hx => refNumberW_any q _ d.2 (by have := unhide HPART k; have := wNumber_len (wDots S1 (ds.take k)) d.1; omega) _ hx).mono ?_
      rintro e w5 ⟨rfl, hs⟩
      have HS5 := hide hs
      clear hs x1
      go_wp2_with fail
      go_roundw
      case rel => exact ⟨k + 1, by omega, by go_num, by rw [unhide HST]; exact unhide HS5⟩
      case measure => simp [intOf]; omega
    · obtain rfl : k = ds.length := by omega
      have HE := unhide HR
      rw [unhide HFULL] at HE
      have HE2 := hide HE
      clear HE
      go_wp2_with fail
      go_end0
      exact (unhide HE2).made _

set_option maxRecDepth 100000 in
set_option maxHeartbeats 2000000 in
theorem refPutLeaf_any {w : World} {q : Nat} {st : St} (h : Doc w q 49 st) (hl : st.1.length ≤ 40000000) (w0 : World) (hb0 : Below w0.heap.size w0 w) (hq0 : w0.heap.size ≤ q)
    (a : Option Addr) (cap : Nat) (vs : List Vc.V) (hf : Few vs) (hdata : ∀ v ∈ vs, v.data.size ≤ 9223372036854775807) (s : SV w0 a vs) :
    Calls Tryd.prog 20 #[.pointer (some ⟨q, 0, none⟩), .slice a vs.length cap] w (DocMade q 49 w (wLeaf st vs) (.tuple #[])) := by
  have HW := hide (DS.start h)
  have HB0 := hide hb0
  have HQ0 := hide hq0
  have S0 := hide s
  have HF := hide hf
  have HDT := hide hdata
  have hd : vs.length ≤ 100000 := hf.1
  have KC := hide fun W h => refCheckLeaf_any a cap vs hf W h
  have HL1 := hide (show (fail st (Vc.checkLeaf vs)).1.length ≤ 40000000 from by rw [fail_len]; exact hl)
  have HPART := hide fun k => Nat.le_trans (wLeaf_part st vs k) (by omega : st.1.length + 4300000 ≤ 44400000)
  have HFULL : Hid (wVers (wNumber (fail st (Vc.checkLeaf vs)) vs.length) (vs.take vs.length) = wLeaf st vs) := hide (by rw [List.take_length]; rfl)
  generalize Vc.checkLeaf vs = C at KC HL1 HPART HFULL
  obtain ⟨F, hF⟩ : ∃ F, fail st C = F := ⟨_, rfl⟩
  rw [hF] at HL1 HPART HFULL
  obtain ⟨S1, hS1⟩ : ∃ S1, wNumber F vs.length = S1 := ⟨_, rfl⟩
  rw [hS1] at HPART HFULL
  clear h s hb0 hq0 hl hf hdata
  go_enter Tryd.func20, Tryd.ntmps20
  go_wp2_with fail
  refine (unhide KC _ ((unhide S0).after (unhide HB0))).mono ?_
  rintro e w1 ⟨rfl, hb1⟩
  have HW1 := hide ((unhide HW).after hb1)
  clear hb1
  go_wp2_with fail
  refine ((unhide HW1).call fun hx => refFailW_any q st C _ hx).mono ?_
  rw [hF]
  rintro e w2 ⟨rfl, hs⟩
  have HS2 := hide hs
  clear hs
  go_wp2_with fail
  refine ((unhide HS2).call fun hx => refNumberW_any q F vs.length (by have := unhide HL1; omega) _ hx).mono ?_
  rw [hS1]
  rintro e w3 ⟨rfl, hs⟩
  have HS3 := hide hs
  clear hs hF hS1
  go_wp2_with fail
  go_loopw [4] (fun i wr => ∃ k : Nat, k ≤ vs.length ∧ i = .int .i64 k ∧ DS q 49 w (wVers S1 (vs.take k)) wr) (fun i _ => vs.length - (intOf i).toNat)
  case atStart => exact ⟨0, Nat.zero_le _, rfl, unhide HS3⟩
  case round =>
    obtain ⟨k, hk, rfl, hs⟩ := hrel
    have HR := hide hs
    clear hs
    by_cases hlt : k < vs.length
    · obtain ⟨v, hx⟩ : ∃ d, vs[k]? = some d := ⟨_, List.getElem?_eq_getElem hlt⟩
      obtain ⟨g, o, rfl, hg, hcell⟩ := unhide S0 (by omega)
      obtain ⟨r, c, y0, y1, y2, y3, y4, y5, y6⟩ := hcell k v hx
      have HY : Hid (∀ W, DS q 49 w st W ∨ (∃ S, DS q 49 w S W) → W.cell? ⟨g, o + k * 5, none⟩ = some (.int .i64 v.dot.1) ∧ W.cell? ⟨g, o + k * 5 + 1, none⟩ = some (.int .i64 v.dot.2) ∧ W.cell? ⟨g, o + k * 5 + 2, none⟩ = some (.slice r v.past.length c) ∧ W.cell? ⟨g, o + k * 5 + 3, none⟩ = some (.bool v.dead) ∧ W.cell? ⟨g, o + k * 5 + 4, none⟩ = some (.string v.data)) := hide fun W hW => by
        have hb : Below w0.heap.size w0 W := by
          rcases hW with hW | ⟨S, hW⟩
          · exact (unhide HB0).trans (hW.below (unhide HB0).size (unhide HQ0))
          · exact (unhide HB0).trans (hW.below (unhide HB0).size (unhide HQ0))
        refine ⟨?_, ?_, ?_, ?_, ?_⟩
        all_goals rw [hb.cell (by exact hg)]
        all_goals assumption
      have HST := hide (wVers_snoc S1 vs k v hx)
      have H6 := hide y6
      have HD := hide ((unhide HF).at hx)
      have HDV := hide ((unhide HDT) v (List.mem_of_getElem? hx))
      have hP := unhide HPART k
      obtain ⟨S2, hS2⟩ : ∃ S2, wVers S1 (vs.take k) = S2 := ⟨_, rfl⟩
      rw [hS2] at hP HR HST
      have HP := hide hP
      have L1 := hide (wNumber_len S2 v.dot.1)
      have L2 := hide (wDot_len S2 v.dot)
      have L3 := hide (wVec_len (wDot S2 v.dot) v.past)
      have L4 := hide (wFlag_len (wVec (wDot S2 v.dot) v.past) v.dead)
      have x0 := (unhide HY wr (.inr ⟨_, unhide HR⟩)).1
      clear hcell hx hg hP hS2 y0 y1 y2 y3 y4 y5 y6
      go_wp2_with fail
      refine ((unhide HR).call fun hx => refNumberW_any q S2 v.dot.1 (by have := unhide HP; omega) _ hx).mono ?_
      rintro e w4 ⟨rfl, hs⟩
      have HS4 := hide hs
      have x1 := (unhide HY w4 (.inr ⟨_, hs⟩)).2.1
      clear hs x0
      go_wp2_with fail
      refine ((unhide HS4).call fun hx => refNumberW_any q _ v.dot.2 (by have := unhide HP; have := unhide L1; omega) _ hx).mono ?_
      rw [show wNumber (wNumber S2 v.dot.1) v.dot.2 = wDot S2 v.dot from rfl]
      rintro e w5 ⟨rfl, hs⟩
      have HS5 := hide hs
      have x2 := (unhide HY w5 (.inr ⟨_, hs⟩)).2.2.1
      clear hs x1
      go_wp2_with fail
      refine ((unhide HS5).call fun hx => refPutVec_any hx (by have := unhide HP; have := unhide L2; omega) w0 ((unhide HB0).trans ((unhide HS5).below (unhide HB0).size (unhide HQ0))) (unhide HQ0) r c v.past (unhide HD) (unhide H6)).mono ?_
      rintro e w6 ⟨rfl, hs⟩
      have HS6 := hide hs
      have x3 := (unhide HY w6 (.inr ⟨_, hs⟩)).2.2.2.1
      clear hs x2
      go_wp2_with fail
      refine ((unhide HS6).call fun hx => refFlagW_any q _ v.dead (by have := unhide HP; have := unhide L2; have := unhide L3; omega) _ hx).mono ?_
      rintro e w7 ⟨rfl, hs⟩
      have HS7 := hide hs
      have x4 := (unhide HY w7 (.inr ⟨_, hs⟩)).2.2.2.2
      clear hs x3
      go_wp2_with fail
      refine ((unhide HS7).call fun hx => refTextW_any q _ v.data (unhide HDV) (by have := unhide HP; have := unhide L2; have := unhide L3; have := unhide L4; omega) _ hx).mono ?_
      rw [show wText (wFlag (wVec (wDot S2 v.dot) v.past) v.dead) v.data = wVer S2 v from rfl]
      rintro e w8 ⟨rfl, hs⟩
      have HS8 := hide hs
      clear hs x4
      go_wp2_with fail
      go_roundw
      case rel => exact ⟨k + 1, by omega, by go_num, by rw [unhide HST]; exact unhide HS8⟩
      case measure => simp [intOf]; omega
    · obtain rfl : k = vs.length := by omega
      have HE := unhide HR
      rw [unhide HFULL] at HE
      have HE2 := hide HE
      clear HE
      go_wp2_with fail
      go_end0
      exact (unhide HE2).made _

theorem doc_zero (w : World) : Doc (w.alloc (.cells #[.string ⟨#[]⟩, .int .i64 0] 49)) w.heap.size 49 ([], 0) := VRow.new w 49 [.string ⟨#[]⟩, .int .i64 0]
end Go.Proofs.YthchcjjpplcfnaaDoor
