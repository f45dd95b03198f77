/-
  What the document puts: vectors and leaves. Conditions: those that each theorem names.
-/
import Derived.Test.YtebjlmnhpfoglaaGreatDoorB06
import Derived.Test.YtebjlmnhpfoglaaGreatDoorB09
import Derived.Test.YtebjlmnhpfoglaaGreatDoorB07
import Derived.Test.YtebjlmnhpfoglaaGreatDoorB08
import Derived.Great.BuildSlice
import Derived.Test.YtebjlmnhpfoglaaGreatDoorB11
import Derived.Test.YtebjlmnhpfoglaaGreatDoorB12
namespace Go.Proofs.YtebjlmnhpfoglaaGreatDoor
open Go.RowKit

/-- What a call has come to at the document's writer or reader so far. -/
def DS (q T : Nat) (w : World) (st : St) (wr : World) : Prop := Doc wr q T st ∧ Beside (· = q) w wr
def zero61 : List Value := [.int .i64 0, .int .i64 0]
theorem size61 : (Tryz.prog.info? 61).map (·.size) = some 2 := by kernel_rfl
section
variable {q T : Nat} {w w1 wr wr' : World} {st st' : St}
theorem DS.start (h : Doc w q T st) : DS q T w st w := ⟨h, Beside.refl _ _⟩
theorem DS.after (h : DS q T w st wr) (hb : Below wr.heap.size wr wr') : DS q T w st wr' :=
  ⟨h.1.after hb, h.2.trans (beside_of hb)⟩
theorem DS.below (h : DS q T w st wr) {B : Nat} (hB : B ≤ w.heap.size) (hq : B ≤ q) : Below B w wr := h.2.below hB fun g (e : g = q) => by subst e; exact hq
theorem DS.row (h : DS q T w st wr) {B U : Nat} {vs : List Value} (hr : VRow w B U vs) (hB : B ≠ q) : VRow wr B U vs := hr.beside h.2 hB
theorem DS.of (hb : Below w.heap.size w w1) (h : DS q T w1 st wr) : DS q T w st wr := ⟨h.1, (beside_of hb).trans h.2⟩
theorem DS.lt (h : DS q T w st wr) : q < wr.heap.size := h.1.lt
/-- What a call does to it, said of what was there ahead. -/
theorem DS.call {f : Nat} {args : Array Value} {v : Value} (h : DS q T w st wr) (K : Doc wr q T st → Calls Tryz.prog f args wr (DocMade q T wr st' v)) : Calls Tryz.prog f args wr fun e w' => e = .returned v ∧ DS q T w st' w' :=
  (K h.1).mono fun _ _ hm => ⟨hm.1, hm.2.1, h.2.trans hm.2.2⟩
theorem DS.made (h : DS q T w st wr) (v : Value) : DocMade q T w st v (.returned v) wr := ⟨rfl, h.1, h.2⟩
end

set_option maxRecDepth 100000 in
set_option maxHeartbeats 1000000 in
theorem refPutVec_any {w : World} {q : Nat} {st : St} (h : Doc w q 122 st) (hl : st.1.length ≤ 90000000) (w0 : World) (hb0 : Below w0.heap.size w0 w) (hq0 : w0.heap.size ≤ q)
    (a : Option Addr) (cap : Nat) (ds : List Vc.D) (hd : ds.length ≤ 9223372036854775807) (s : Sl w0 a ds) :
    Calls Tryz.prog 115 #[.pointer (some ⟨q, 0, none⟩), .slice a ds.length cap] w (DocMade q 122 w (wVec st ds) (.tuple #[])) := by
  have HW := hide (DS.start h)
  have HB0 := hide hb0
  have HQ0 := hide hq0
  have S0 := hide s
  have KC := hide fun W h => refCheck_any a cap ds hd W h
  have HL1 := hide (show (fail st (Vc.check ds)).1.length ≤ 90000000 from by rw [fail_len]; exact hl)
  have HPART := hide fun k => Nat.le_trans (wVec_part st ds k) (by omega : st.1.length + 645 ≤ 90001000)
  have HFULL : Hid (wDots (wNumber (fail st (Vc.check ds)) ds.length) (ds.take ds.length) = wVec st ds) := hide (by rw [List.take_length]; rfl)
  generalize Vc.check ds = C at KC HL1 HPART HFULL
  obtain ⟨F, hF⟩ : ∃ F, fail st C = F := ⟨_, rfl⟩
  rw [hF] at HL1 HPART HFULL
  obtain ⟨S1, hS1⟩ : ∃ S1, wNumber F ds.length = S1 := ⟨_, rfl⟩
  rw [hS1] at HPART HFULL
  clear h s hb0 hq0 hl
  go_enter Tryz.func115, Tryz.ntmps115
  go_wp2_with fail
  refine (unhide KC _ ((unhide S0).after (unhide HB0))).mono ?_
  rintro e w1 ⟨rfl, hb1⟩
  have HW1 := hide ((unhide HW).after hb1)
  clear hb1
  go_wp2_with fail
  refine ((unhide HW1).call fun hx => refFailW_any q st C _ hx).mono ?_
  rw [hF]
  rintro e w2 ⟨rfl, hs⟩
  have HS2 := hide hs
  clear hs
  go_wp2_with fail
  refine ((unhide HS2).call fun hx => refNumberW_any q F ds.length (by have := unhide HL1; omega) _ hx).mono ?_
  rw [hS1]
  rintro e w3 ⟨rfl, hs⟩
  have HS3 := hide hs
  clear hs hF hS1
  go_wp2_with fail
  go_loopw [4] (fun i wr => ∃ k : Nat, k ≤ ds.length ∧ i = .int .i64 k ∧ DS q 122 w (wDots S1 (ds.take k)) wr) (fun i _ => ds.length - (intOf i).toNat)
  case atStart => exact ⟨0, Nat.zero_le _, rfl, unhide HS3⟩
  case round =>
    obtain ⟨k, hk, rfl, hs⟩ := hrel
    have HR := hide hs
    clear hs
    by_cases hlt : k < ds.length
    · obtain ⟨d, hx⟩ : ∃ d, ds[k]? = some d := ⟨_, List.getElem?_eq_getElem hlt⟩
      have HSL := hide ((unhide S0).after ((unhide HB0).trans ((unhide HR).below (unhide HB0).size (unhide HQ0))))
      obtain ⟨g, o, rfl, hg, hcell⟩ := unhide HSL (by omega)
      have x0 := (hcell k d hx).1
      have HX := hide hx
      have HST := hide (wDots_snoc S1 ds k d hx)
      clear hcell hx hg
      go_wp2_with fail
      refine ((unhide HR).call fun hx => refNumberW_any q _ d.1 (by have := unhide HPART k; omega) _ hx).mono ?_
      rintro e w4 ⟨rfl, hs⟩
      have HS4 := hide hs
      have x1 : w4.cell? ⟨g, o + k * 2 + 1, none⟩ = some (.int .i64 d.2) := by
        obtain ⟨g', o', e', _, hc'⟩ := (unhide S0).after ((unhide HB0).trans (hs.below (unhide HB0).size (unhide HQ0))) (by omega)
        injection e' with e'
        injection e' with e1 e2
        subst e1
        subst e2
        exact (hc' k d (unhide HX)).2
      clear hs x0
      go_wp2_with fail
      refine ((unhide HS4).call fun hx => refNumberW_any q _ d.2 (by have := unhide HPART k; have := wNumber_len (wDots S1 (ds.take k)) d.1; omega) _ hx).mono ?_
      rintro e w5 ⟨rfl, hs⟩
      have HS5 := hide hs
      clear hs x1
      go_wp2_with fail
      go_roundw
      case rel => exact ⟨k + 1, by omega, by go_num, by rw [unhide HST]; exact unhide HS5⟩
      case measure => simp [intOf]; omega
    · obtain rfl : k = ds.length := by omega
      have HE := unhide HR
      rw [unhide HFULL] at HE
      have HE2 := hide HE
      clear HE
      go_wp2_with fail
      go_end0
      exact (unhide HE2).made _

set_option maxRecDepth 100000 in
set_option maxHeartbeats 2000000 in
theorem refPutLeaf_any {w : World} {q : Nat} {st : St} (h : Doc w q 122 st) (hl : st.1.length ≤ 40000000) (w0 : World) (hb0 : Below w0.heap.size w0 w) (hq0 : w0.heap.size ≤ q)
    (a : Option Addr) (cap : Nat) (vs : List Vc.V) (hf : Few vs) (hdata : ∀ v ∈ vs, v.data.size ≤ 9223372036854775807) (s : SV w0 a vs) :
    Calls Tryz.prog 89 #[.pointer (some ⟨q, 0, none⟩), .slice a vs.length cap] w (DocMade q 122 w (wLeaf st vs) (.tuple #[])) := by
  have HW := hide (DS.start h)
  have HB0 := hide hb0
  have HQ0 := hide hq0
  have S0 := hide s
  have HF := hide hf
  have HDT := hide hdata
  have hd : vs.length ≤ 100000 := hf.1
  have KC := hide fun W h => refCheckLeaf_any a cap vs hf W h
  have HL1 := hide (show (fail st (Vc.checkLeaf vs)).1.length ≤ 40000000 from by rw [fail_len]; exact hl)
  have HPART := hide fun k => Nat.le_trans (wLeaf_part st vs k) (by omega : st.1.length + 4300000 ≤ 44400000)
  have HFULL : Hid (wVers (wNumber (fail st (Vc.checkLeaf vs)) vs.length) (vs.take vs.length) = wLeaf st vs) := hide (by rw [List.take_length]; rfl)
  generalize Vc.checkLeaf vs = C at KC HL1 HPART HFULL
  obtain ⟨F, hF⟩ : ∃ F, fail st C = F := ⟨_, rfl⟩
  rw [hF] at HL1 HPART HFULL
  obtain ⟨S1, hS1⟩ : ∃ S1, wNumber F vs.length = S1 := ⟨_, rfl⟩
  rw [hS1] at HPART HFULL
  clear h s hb0 hq0 hl hf hdata
  go_enter Tryz.func89, Tryz.ntmps89
  go_wp2_with fail
  refine (unhide KC _ ((unhide S0).after (unhide HB0))).mono ?_
  rintro e w1 ⟨rfl, hb1⟩
  have HW1 := hide ((unhide HW).after hb1)
  clear hb1
  go_wp2_with fail
  refine ((unhide HW1).call fun hx => refFailW_any q st C _ hx).mono ?_
  rw [hF]
  rintro e w2 ⟨rfl, hs⟩
  have HS2 := hide hs
  clear hs
  go_wp2_with fail
  refine ((unhide HS2).call fun hx => refNumberW_any q F vs.length (by have := unhide HL1; omega) _ hx).mono ?_
  rw [hS1]
  rintro e w3 ⟨rfl, hs⟩
  have HS3 := hide hs
  clear hs hF hS1
  go_wp2_with fail
  go_loopw [4] (fun i wr => ∃ k : Nat, k ≤ vs.length ∧ i = .int .i64 k ∧ DS q 122 w (wVers S1 (vs.take k)) wr) (fun i _ => vs.length - (intOf i).toNat)
  case atStart => exact ⟨0, Nat.zero_le _, rfl, unhide HS3⟩
  case round =>
    obtain ⟨k, hk, rfl, hs⟩ := hrel
    have HR := hide hs
    clear hs
    by_cases hlt : k < vs.length
    · obtain ⟨v, hx⟩ : ∃ d, vs[k]? = some d := ⟨_, List.getElem?_eq_getElem hlt⟩
      obtain ⟨g, o, rfl, hg, hcell⟩ := unhide S0 (by omega)
      obtain ⟨r, c, y0, y1, y2, y3, y4, y5, y6⟩ := hcell k v hx
      have HY : Hid (∀ W, DS q 122 w st W ∨ (∃ S, DS q 122 w S W) → W.cell? ⟨g, o + k * 5, none⟩ = some (.int .i64 v.dot.1) ∧ W.cell? ⟨g, o + k * 5 + 1, none⟩ = some (.int .i64 v.dot.2) ∧ W.cell? ⟨g, o + k * 5 + 2, none⟩ = some (.slice r v.past.length c) ∧ W.cell? ⟨g, o + k * 5 + 3, none⟩ = some (.bool v.dead) ∧ W.cell? ⟨g, o + k * 5 + 4, none⟩ = some (.string v.data)) := hide fun W hW => by
        have hb : Below w0.heap.size w0 W := by
          rcases hW with hW | ⟨S, hW⟩
          · exact (unhide HB0).trans (hW.below (unhide HB0).size (unhide HQ0))
          · exact (unhide HB0).trans (hW.below (unhide HB0).size (unhide HQ0))
        refine ⟨?_, ?_, ?_, ?_, ?_⟩
        all_goals rw [hb.cell (by exact hg)]
        all_goals assumption
      have HST := hide (wVers_snoc S1 vs k v hx)
      have H6 := hide y6
      have HD := hide ((unhide HF).at hx)
      have HDV := hide ((unhide HDT) v (List.mem_of_getElem? hx))
      have hP := unhide HPART k
      obtain ⟨S2, hS2⟩ : ∃ S2, wVers S1 (vs.take k) = S2 := ⟨_, rfl⟩
      rw [hS2] at hP HR HST
      have HP := hide hP
      have L1 := hide (wNumber_len S2 v.dot.1)
      have L2 := hide (wDot_len S2 v.dot)
      have L3 := hide (wVec_len (wDot S2 v.dot) v.past)
      have L4 := hide (wFlag_len (wVec (wDot S2 v.dot) v.past) v.dead)
      have x0 := (unhide HY wr (.inr ⟨_, unhide HR⟩)).1
      clear hcell hx hg hP hS2 y0 y1 y2 y3 y4 y5 y6
      go_wp2_with fail
      refine ((unhide HR).call fun hx => refNumberW_any q S2 v.dot.1 (by have := unhide HP; omega) _ hx).mono ?_
      rintro e w4 ⟨rfl, hs⟩
      have HS4 := hide hs
      have x1 := (unhide HY w4 (.inr ⟨_, hs⟩)).2.1
      clear hs x0
      go_wp2_with fail
      refine ((unhide HS4).call fun hx => refNumberW_any q _ v.dot.2 (by have := unhide HP; have := unhide L1; omega) _ hx).mono ?_
      rw [show wNumber (wNumber S2 v.dot.1) v.dot.2 = wDot S2 v.dot from rfl]
      rintro e w5 ⟨rfl, hs⟩
      have HS5 := hide hs
      have x2 := (unhide HY w5 (.inr ⟨_, hs⟩)).2.2.1
      clear hs x1
      go_wp2_with fail
      refine ((unhide HS5).call fun hx => refPutVec_any hx (by have := unhide HP; have := unhide L2; omega) w0 ((unhide HB0).trans ((unhide HS5).below (unhide HB0).size (unhide HQ0))) (unhide HQ0) r c v.past (unhide HD) (unhide H6)).mono ?_
      rintro e w6 ⟨rfl, hs⟩
      have HS6 := hide hs
      have x3 := (unhide HY w6 (.inr ⟨_, hs⟩)).2.2.2.1
      clear hs x2
      go_wp2_with fail
      refine ((unhide HS6).call fun hx => refFlagW_any q _ v.dead (by have := unhide HP; have := unhide L2; have := unhide L3; omega) _ hx).mono ?_
      rintro e w7 ⟨rfl, hs⟩
      have HS7 := hide hs
      have x4 := (unhide HY w7 (.inr ⟨_, hs⟩)).2.2.2.2
      clear hs x3
      go_wp2_with fail
      refine ((unhide HS7).call fun hx => refTextW_any q _ v.data (unhide HDV) (by have := unhide HP; have := unhide L2; have := unhide L3; have := unhide L4; omega) _ hx).mono ?_
      rw [show wText (wFlag (wVec (wDot S2 v.dot) v.past) v.dead) v.data = wVer S2 v from rfl]
      rintro e w8 ⟨rfl, hs⟩
      have HS8 := hide hs
      clear hs x4
      go_wp2_with fail
      go_roundw
      case rel => exact ⟨k + 1, by omega, by go_num, by rw [unhide HST]; exact unhide HS8⟩
      case measure => simp [intOf]; omega
    · obtain rfl : k = vs.length := by omega
      have HE := unhide HR
      rw [unhide HFULL] at HE
      have HE2 := hide HE
      clear HE
      go_wp2_with fail
      go_end0
      exact (unhide HE2).made _

theorem doc_zero (w : World) : Doc (w.alloc (.cells #[.string ⟨#[]⟩, .int .i64 0] 122)) w.heap.size 122 ([], 0) := VRow.new w 122 [.string ⟨#[]⟩, .int .i64 0]
end Go.Proofs.YtebjlmnhpfoglaaGreatDoor

/-
  Kids in memory: one by value, a slice of them wherever it lies, a row of the call's own; a node by value. Conditions: those that each theorem names.
-/

namespace Go.Proofs.YtebjlmnhpfoglaaGreatDoor
open Go.RowKit

/-- A kid's cells. -/
def kL (k : Kd) : List Value := .string k.1 :: k.2.map byteVal
theorem kL_len {k : Kd} (h : k.2.length = 32) : (kL k).length = 33 := by simp [kL, h]
theorem kL_one (k : Kd) : ∀ v ∈ kL k, v.oneCell' = true := by
  intro v hv
  simp only [kL, List.mem_cons] at hv
  rcases hv with rfl | hv
  · rfl
  · exact one_bytes _ v hv
def zeroK : Kd := (⟨#[]⟩, zero32)
theorem sizeK : (Tryz.prog.info? 86).map (·.size) = some 33 := by kernel_rfl
theorem sizeNd : (Tryz.prog.info? 52).map (·.size) = some 2 := by kernel_rfl
/-- A slice of kids, wherever it lies. -/
def SK (W : World) (a : Option Addr) (l : List Kd) : Prop :=
  0 < l.length → ∃ g o, a = some ⟨g, o, none⟩ ∧ g < W.heap.size ∧ ∀ (j : Nat) (k : Kd), l[j]? = some k → W.rangeAt g (o + j * 33) (kL k)
theorem SK.after {W W' : World} {a : Option Addr} {l : List Kd} (h : SK W a l) (hb : Below W.heap.size W W') : SK W' a l := fun h0 => by
  obtain ⟨g, o, e, hg, hc⟩ := h h0
  exact ⟨g, o, e, Nat.lt_of_lt_of_le hg hb.size, fun j x hj => range_after (hc j x hj) hg hb⟩
theorem SK.none (W : World) (a : Option Addr) : SK W a [] := fun h => absurd h (Nat.lt_irrefl _)
def FreshK (n : Nat) (a : Option Addr) (l : List Kd) : Prop := ∀ ad, a = some ad → 0 < l.length → n ≤ ad.block
theorem FreshK.nil (n : Nat) (l : List Kd) : FreshK n none l := fun _ e => by cases e
theorem FreshK.weak {n m : Nat} {a : Option Addr} {l : List Kd} (h : FreshK n a l) (hm : m ≤ n) : FreshK m a l := fun ad e h0 => Nat.le_trans hm (h ad e h0)
theorem SK.beside {q : Nat} {w w' : World} {a : Option Addr} {l : List Kd} (h : SK w a l) (hb : Beside (· = q) w w') (hne : ∀ ad, a = some ad → 0 < l.length → ad.block ≠ q) : SK w' a l := fun h0 => by
  obtain ⟨g, o, e, hg, hc⟩ := h h0
  have hn : g ≠ q := hne _ e h0
  refine ⟨g, o, e, Nat.lt_of_lt_of_le hg hb.size, fun j k hj i u hu => ?_⟩
  exact (World.cell?_of_block (hb.block g hg hn)).trans (hc j k hj i u hu)
theorem SK.only {D : Nat} {w w' : World} {a : Option Addr} {l : List Kd} (h : SK w a l) (ho : Only D w w') (hne : ∀ ad, a = some ad → 0 < l.length → ad.block ≠ D) : SK w' a l := fun h0 => by
  obtain ⟨g, o, e, hg, hc⟩ := h h0
  have hn : g ≠ D := hne _ e h0
  refine ⟨g, o, e, by rw [ho.size]; exact hg, fun j k hj i u hu => ?_⟩
  exact (World.cell?_of_block (w := w) (ho.block g hn)).trans (hc j k hj i u hu)
theorem range_dig {W : World} {g o : Nat} {k : Kd} (h : W.rangeAt g o (kL k)) : W.rangeAt g (o + 1) (k.2.map byteVal) := fun j v hv => by
  have := h (j + 1) v hv
  rw [show o + (j + 1) = o + 1 + j by omega] at this
  exact this
theorem range_name {W : World} {g o : Nat} {k : Kd} (h : W.rangeAt g o (kL k)) : W.cell? ⟨g, o, none⟩ = some (.string k.1) := by
  have := h 0 _ rfl
  rwa [Nat.add_zero] at this
theorem load_kid {ops : Array Oper} {rest : List Oper} {o : Oper} {a : Act} {w : World} {Q : Exit → Act → World → Prop} (hgd : o.guard = none) (x : Operand) (ho : o.op = .load 86 x)
    (B i : Nat) (hx : a.eval x = .pointer (some ⟨B, i, none⟩)) (k : Kd) (hr : w.rangeAt B i (kL k)) (hn : k.2.length = 32)
    (h : wpList Tryz.prog ops Q rest (a.put o.dst (.agg (kL k).toArray)) w) : wpList Tryz.prog ops Q (o :: rest) a w :=
  wpList_load_mid hgd 86 x ho B i hx _ _ hr Tryz.underlying86 rfl (by rw [sizeK, kL_len hn]) h
theorem load_dig {ops : Array Oper} {rest : List Oper} {o : Oper} {a : Act} {w : World} {Q : Exit → Act → World → Prop} (hgd : o.guard = none) (x : Operand) (ho : o.op = .load 46 x)
    (B i : Nat) (hx : a.eval x = .pointer (some ⟨B, i, none⟩)) (d : List UInt8) (hr : w.rangeAt B i (d.map byteVal)) (hn : d.length = 32)
    (h : wpList Tryz.prog ops Q rest (a.put o.dst (.agg (d.map byteVal).toArray)) w) : wpList Tryz.prog ops Q (o :: rest) a w :=
  wpList_load_mid hgd 46 x ho B i hx _ _ hr Tryz.underlying46 rfl (by rw [sizeDg, List.length_map, hn]) h

/-! A row of kids of the call's own. -/
def flatK : List Kd → List Value
  | [] => []
  | k :: l => kL k ++ flatK l
theorem flatK_len : ∀ {l : List Kd}, Digs l → (flatK l).length = l.length * 33
  | [], _ => rfl
  | k :: l, h => by
    rw [flatK, List.length_append, kL_len (h k (List.mem_cons_self ..)), flatK_len fun x hx => h x (List.mem_cons_of_mem _ hx), List.length_cons]
    omega
theorem flatK_append : ∀ l m : List Kd, flatK (l ++ m) = flatK l ++ flatK m
  | [], _ => rfl
  | k :: l, m => by simp [flatK, flatK_append l m]
theorem flatK_one : ∀ (l : List Kd), ∀ v ∈ flatK l, v.oneCell' = true
  | [], _, h => by cases h
  | k :: l, v, h => by
    rcases List.mem_append.1 h with h | h
    · exact kL_one k v h
    · exact flatK_one l v h
theorem flatK_get : ∀ {l : List Kd}, Digs l → ∀ (j : Nat) (k : Kd), l[j]? = some k → ∀ i u, (kL k)[i]? = some u → (flatK l)[j * 33 + i]? = some u
  | [], _, j, k, h, _, _, _ => by simp at h
  | y :: l, _, 0, k, h, i, u, hu => by
    simp at h
    subst h
    have hi : i < (kL y).length := (List.getElem?_eq_some_iff.1 hu).1
    rw [flatK, Nat.zero_mul, Nat.zero_add, List.getElem?_append_left hi]
    exact hu
  | y :: l, hd, j + 1, k, h, i, u, hu => by
    have hl := kL_len (hd y (List.mem_cons_self ..))
    rw [flatK, List.getElem?_append_right (by omega)]
    rw [show (j + 1) * 33 + i - (kL y).length = j * 33 + i by omega]
    exact flatK_get (fun x hx => hd x (List.mem_cons_of_mem _ hx)) j k (by simpa using h) i u hu
theorem flatK_cells {W : World} {g : Nat} : ∀ {l : List Kd}, Digs l → ∀ o, (∀ (j : Nat) (k : Kd), l[j]? = some k → W.rangeAt g (o + j * 33) (kL k)) → ∀ j u, (flatK l)[j]? = some u → W.cell? ⟨g, o + j, none⟩ = some u
  | [], _, _, _, j, u, hu => by simp [flatK] at hu
  | k :: l, hd, o, hc, j, u, hu => by
    have hl := kL_len (hd k (List.mem_cons_self ..))
    by_cases hj : j < 33
    · rw [flatK, List.getElem?_append_left (by omega)] at hu
      have := hc 0 k rfl j u hu
      rwa [Nat.zero_mul, Nat.add_zero] at this
    · rw [flatK, List.getElem?_append_right (by omega), hl] at hu
      have := flatK_cells (W := W) (g := g) (fun x hx => hd x (List.mem_cons_of_mem _ hx)) (o + 33) (fun i x hi => by
        have := hc (i + 1) x (by simpa using hi)
        rw [show o + (i + 1) * 33 = o + 33 + i * 33 by omega] at this
        exact this) (j - 33) u hu
      rwa [show o + 33 + (j - 33) = o + j by omega] at this
theorem own_sk {W : World} {base : Nat} {v : Value} {l : List Kd} (hd : Digs l) (h : W.ownsRow base 86 33 v l.length (flatK l)) : ∃ a cap, v = .slice a l.length cap ∧ l.length ≤ cap ∧ SK W a l ∧ FreshK base a l := by
  rcases h.2 with ⟨rfl, h0⟩ | ⟨g, cap, cur, rfl, hg, hh, c1, c2, c3, c4⟩
  · have : l = [] := List.eq_nil_of_length_eq_zero h0
    subst this
    exact ⟨none, 0, rfl, Nat.le_refl _, SK.none _ _, FreshK.nil _ _⟩
  · refine ⟨_, cap, rfl, c1, fun _ => ⟨g, 0, rfl, (Array.getElem?_eq_some_iff.1 hh).1, fun j k hj i u hu => ?_⟩, fun ad e _ => ?_⟩
    · have hjl : j < l.length := (List.getElem?_eq_some_iff.1 hj).1
      have hi : i < (kL k).length := (List.getElem?_eq_some_iff.1 hu).1
      rw [kL_len (hd k (List.mem_of_getElem? hj))] at hi
      rw [cell_of_row W g _ cur 86 (0, 0) hh]
      have h5 : (cur.toList.take (l.length * 33))[j * 33 + i]? = (flatK l)[j * 33 + i]? := by rw [c4]
      rw [List.getElem?_take_of_lt (by omega), flatK_get hd j k hj i u hu] at h5
      rw [show 0 + j * 33 + i = j * 33 + i by omega]
      simpa using h5
    · injection e with e
      subst e
      exact hg
def zeroKA : Array Value := #[.string ⟨#[]⟩, .int .u8 0, .int .u8 0, .int .u8 0, .int .u8 0, .int .u8 0, .int .u8 0, .int .u8 0, .int .u8 0, .int .u8 0, .int .u8 0, .int .u8 0, .int .u8 0, .int .u8 0, .int .u8 0, .int .u8 0, .int .u8 0, .int .u8 0, .int .u8 0, .int .u8 0, .int .u8 0, .int .u8 0, .int .u8 0, .int .u8 0, .int .u8 0, .int .u8 0, .int .u8 0, .int .u8 0, .int .u8 0, .int .u8 0, .int .u8 0, .int .u8 0, .int .u8 0]
theorem infoK : (Tryz.prog.info? 86).map (fun i => (i.zero, i.size, i.bytes)) = some (some (.agg zeroKA), 33, 48) := by kernel_rfl
/-- Kids appended to a row of the call's own. -/
theorem append_kids {w : World} {ops : Array Oper} {rest : List Oper} {o : Oper} {a : Act} {Q : Exit → Act → World → Prop} (hgd : o.guard = none) (s x : Operand)
    (ho : o.op = .call { callee := .builtin .append, args := #[s, x], argTypes := #[50, 50] }) (base : Nat) (v : Value) (l : List Kd) (hs : a.eval s = v) (hown : w.ownsRow base 86 33 v l.length (flatK l))
    (g c : Nat) (xs : List Kd) (hdx : Digs xs) (off : Nat) (hx : a.eval x = .slice (some ⟨g, off, none⟩) xs.length c) (hsl : ∀ (j : Nat) (k : Kd), xs[j]? = some k → w.rangeAt g (off + j * 33) (kL k)) (hn : l.length + xs.length ≤ 200000) (hbase : base ≤ w.heap.size)
    (h : ∀ v' w', w'.ownsRow base 86 33 v' (l ++ xs).length (flatK (l ++ xs)) → Below base w w' → w.grownBy w' v.ownBlock → wpList Tryz.prog ops Q rest (a.put o.dst v') w') : wpList Tryz.prog ops Q (o :: rest) a w := by
  obtain ⟨i0, hi, hz0, hz1, hz2⟩ := info_parts infoK
  refine wpList_append_own_at w hgd s x 50 ho base 86 i0 _ 33 48 Tryz.underlying50 hi hz0 hz1 hz2 rfl (by decide) v l.length (flatK l) hs hown ⟨g, off, none⟩ xs.length c (flatK xs) hx (flatK_len hdx) (fun j u hu => ?_) (flatK_one xs) (by unfold maxLen; omega) (by omega) hbase ?_
  · rw [show (⟨g, off, none⟩ : Addr).add j = ⟨g, off + j, none⟩ by unfold Addr.add; split <;> simp_all]
    exact flatK_cells hdx off hsl j u hu
  · intro v' w' g1 g2 _ _
    refine h v' w' ?_ (grown_below hown g2 hbase) g2
    rw [List.length_append, flatK_append]
    exact g1
theorem kid_row {W : World} {D T : Nat} {k : Kd} (h : VRow W D T (kL k)) : ∀ (j : Nat) (x : Kd), [k][j]? = some x → W.rangeAt D (0 + j * 33) (kL x) := fun j x hj => by
  have hj0 : j = 0 := by have := (List.getElem?_eq_some_iff.1 hj).1; simp at this; omega
  subst hj0
  simp at hj
  subst hj
  exact h.range

/-- A node's cells: where its lists lie. -/
def ndL (n : Nd) (a : Option Addr) (c : Nat) (b : Option Addr) (d : Nat) : List Value := [.slice a n.vs.length c, .slice b n.ks.length d]
theorem ndL_one (n : Nd) (a : Option Addr) (c : Nat) (b : Option Addr) (d : Nat) : ∀ v ∈ ndL n a c b d, v.oneCell' = true := by simp [ndL, Value.oneCell']
/-- What a node's lists are, wherever they lie. -/
structure NdAt (W : World) (n : Nd) (a : Option Addr) (c : Nat) (b : Option Addr) (d : Nat) : Prop where
  vc : n.vs.length ≤ c
  kc : n.ks.length ≤ d
  sv : SV W a n.vs
  sk : SK W b n.ks
theorem NdAt.after {W W' : World} {n : Nd} {a : Option Addr} {c : Nat} {b : Option Addr} {d : Nat} (h : NdAt W n a c b d) (hb : Below W.heap.size W W') : NdAt W' n a c b d := ⟨h.vc, h.kc, h.sv.after hb, h.sk.after hb⟩
/-- A node that may be gone through. -/
structure Nok (n : Nd) : Prop where
  few : Few n.vs
  kids : n.ks.length ≤ 100000
  digs : Digs n.ks
  names : ∀ k ∈ n.ks, k.1.size ≤ 50000
def zeroN : List Value := [.slice none 0 0, .slice none 0 0]
theorem load_node {ops : Array Oper} {rest : List Oper} {o : Oper} {a : Act} {w : World} {Q : Exit → Act → World → Prop} (hgd : o.guard = none) (x : Operand) (ho : o.op = .load 52 x)
    (B : Nat) (hx : a.eval x = .pointer (some ⟨B, 0, none⟩)) (vs : List Value) (hr : VRow w B 52 vs) (hn : vs.length = 2)
    (h : wpList Tryz.prog ops Q rest (a.put o.dst (.agg vs.toArray)) w) : wpList Tryz.prog ops Q (o :: rest) a w :=
  wpList_load_row hgd 52 x ho B hx 52 vs.toArray (0, 0) _ hr Tryz.underlying52 rfl (by rw [sizeNd]; simp [hn]) h
end Go.Proofs.YtebjlmnhpfoglaaGreatDoor

/-
  A kid built of its parts, and a slice of one kid. Conditions: a digest has 32 bytes.
-/

namespace Go.Proofs.YtebjlmnhpfoglaaGreatDoor
open Go.RowKit
theorem run_buildK (s : ByteArray) (d : List UInt8) (hd : d.length = 32) (w : World) : (Instr.build 86 #[(0, .string s), (1, .agg (d.map byteVal).toArray)]).run Tryz.prog w = .ok (.agg (kL (s, d)).toArray) w := by
  match d, hd with
  | [a0, a1, a2, a3, a4, a5, a6, a7, a8, a9, b0, b1, b2, b3, b4, b5, b6, b7, b8, b9, c0, c1, c2, c3, c4, c5, c6, c7, c8, c9, d0, d1], _ => exact run_build w _ _ _ (by kernel_rfl)
theorem fillK0 (s : ByteArray) (a0 a1 a2 a3 a4 a5 a6 a7 a8 a9 b0 b1 b2 b3 b4 b5 b6 b7 b8 b9 c0 c1 c2 c3 c4 c5 c6 c7 c8 c9 d0 d1 : UInt8) : Instr.fill (fun i => some (i * 33, 33)) ((Array.range (1 * 33)).map ((Value.agg zeroKA).cells[· % (Value.agg zeroKA).cells.size]!)) #[(0, Value.agg (kL (s, [a0, a1, a2, a3, a4, a5, a6, a7, a8, a9, b0, b1, b2, b3, b4, b5, b6, b7, b8, b9, c0, c1, c2, c3, c4, c5, c6, c7, c8, c9, d0, d1])).toArray)].toList = some (kL (s, [a0, a1, a2, a3, a4, a5, a6, a7, a8, a9, b0, b1, b2, b3, b4, b5, b6, b7, b8, b9, c0, c1, c2, c3, c4, c5, c6, c7, c8, c9, d0, d1])).toArray := by kernel_rfl
theorem fillK (s : ByteArray) (d : List UInt8) (hd : d.length = 32) : Instr.fill (fun i => some (i * 33, 33)) ((Array.range (1 * 33)).map ((Value.agg zeroKA).cells[· % (Value.agg zeroKA).cells.size]!)) #[(0, Value.agg (kL (s, d)).toArray)].toList = some (kL (s, d)).toArray := by
  match d, hd with
  | [a0, a1, a2, a3, a4, a5, a6, a7, a8, a9, b0, b1, b2, b3, b4, b5, b6, b7, b8, b9, c0, c1, c2, c3, c4, c5, c6, c7, c8, c9, d0, d1], _ => exact fillK0 s a0 a1 a2 a3 a4 a5 a6 a7 a8 a9 b0 b1 b2 b3 b4 b5 b6 b7 b8 b9 c0 c1 c2 c3 c4 c5 c6 c7 c8 c9 d0 d1
theorem run_sliceK (k : Kd) (hd : k.2.length = 32) (w : World) : (Instr.buildSlice 50 1 #[(0, .agg (kL k).toArray)]).run Tryz.prog w = .ok (.slice (some ⟨w.heap.size, 0, none⟩) 1 1) (w.alloc (.cells (kL k).toArray 86)) := by
  obtain ⟨i0, hi, hz0, hz1, hz2⟩ := info_parts infoK
  refine run_buildSlice w 50 86 1 _ _ i0 _ Tryz.underlying50 hi hz0 (by rw [hz1]; decide) (by rw [hz1]; decide) ?_
  rw [hz1]
  exact fillK k.1 k.2 hd
theorem step_buildK {ops : Array Oper} {rest : List Oper} {o : Oper} {a : Act} {w : World} {Q : Exit → Act → World → Prop} (hgd : o.guard = none) (x y : Operand) (ho : o.op = .build 86 #[(0, x), (1, y)])
    (s : ByteArray) (d : List UInt8) (hx : a.eval x = .string s) (hy : a.eval y = .agg (d.map byteVal).toArray) (hd : d.length = 32)
    (h : wpList Tryz.prog ops Q rest (a.put o.dst (.agg (kL (s, d)).toArray)) w) : wpList Tryz.prog ops Q (o :: rest) a w :=
  wpList_plain hgd fun K hK => by
    have hr := run_buildK s d hd w
    rw [← hx, ← hy] at hr
    unfold Oper.wp execOp
    simp only [ho]
    have e : (#[(0, x), (1, y)] : Array (Nat × Operand)).map (fun (i, x) => (i, a.eval x)) = #[(0, a.eval x), (1, a.eval y)] := by simp
    rw [e]
    simp only [Sem.run_bind, hr, Result.andThen_ok]
    exact hK _ _ h
theorem step_sliceK {ops : Array Oper} {rest : List Oper} {o : Oper} {a : Act} {w : World} {Q : Exit → Act → World → Prop} (hgd : o.guard = none) (x : Operand) (ho : o.op = .buildSlice 50 1 #[(0, x)])
    (k : Kd) (hx : a.eval x = .agg (kL k).toArray) (hd : k.2.length = 32)
    (h : wpList Tryz.prog ops Q rest (a.put o.dst (.slice (some ⟨w.heap.size, 0, none⟩) 1 1)) (w.alloc (.cells (kL k).toArray 86))) : wpList Tryz.prog ops Q (o :: rest) a w :=
  wpList_plain hgd fun K hK => by
    have hr := run_sliceK k hd w
    rw [← hx] at hr
    unfold Oper.wp execOp
    simp only [ho]
    have e : (#[(0, x)] : Array (Nat × Operand)).map (fun (i, x) => (i, a.eval x)) = #[(0, a.eval x)] := by simp
    rw [e]
    simp only [Sem.run_bind, hr, Result.andThen_ok]
    exact hK _ _ h
/-- An operation of this head stands there: nothing is turned. -/
theorem at_buildK {ops : Array Oper} {rest : List Oper} {o : Option Tmp} {x y : Nat × Operand} {ty : TypeId} {pos : String} {after : Array Edge} {gd : Option (Nat × Bool)} {a : Act} {w : World} {Q : Exit → Act → World → Prop}
    (h : wpList Tryz.prog ops Q ({ dst := o, op := .build 86 #[x, y], type := ty, pos := pos, after := after, guard := gd } :: rest) a w) : wpList Tryz.prog ops Q ({ dst := o, op := .build 86 #[x, y], type := ty, pos := pos, after := after, guard := gd } :: rest) a w := h
theorem at_sliceK {ops : Array Oper} {rest : List Oper} {o : Option Tmp} {x : Nat × Operand} {ty : TypeId} {pos : String} {after : Array Edge} {gd : Option (Nat × Bool)} {a : Act} {w : World} {Q : Exit → Act → World → Prop}
    (h : wpList Tryz.prog ops Q ({ dst := o, op := .buildSlice 50 1 #[x], type := ty, pos := pos, after := after, guard := gd } :: rest) a w) : wpList Tryz.prog ops Q ({ dst := o, op := .buildSlice 50 1 #[x], type := ty, pos := pos, after := after, guard := gd } :: rest) a w := h
end Go.Proofs.YtebjlmnhpfoglaaGreatDoor

/-
  Whether a node may be: the program's first, unless, checkKids and Check. Conditions: those that each theorem names.
-/

namespace Go.Proofs.YtebjlmnhpfoglaaGreatDoor
open Go.RowKit

/-- An error, unless something is so. -/
def unl (is : Bool) (e : Int) : Int := if is = true then 0 else e
theorem unless_any (is : Bool) (e : Int) (w : World) : Calls Tryz.prog 145 #[.bool is, .int .i64 e] w fun x w' => x = .returned (.int .i64 (unl is e)) ∧ w' = w := by
  go_enter Tryz.func145, Tryz.ntmps145
  cases is with
  | true =>
    go_wp2_with fail
    go_ret
    exact ⟨rfl, rfl⟩
  | false =>
    go_wp2_with fail
    go_ret
    exact ⟨rfl, rfl⟩

/-- What the first error of a row of checks is. -/
def IsFirst (E : Nat → Int) (n : Nat) (R : Int) : Prop := (∃ j, j < n ∧ E j = R ∧ R ≠ 0 ∧ ∀ i, i < j → E i = 0) ∨ (R = 0 ∧ ∀ i, i < n → E i = 0)
theorem IsFirst.at {E : Nat → Int} {n : Nat} {R : Int} (h : IsFirst E n R) {j : Nat} (hj : j < n) (he : E j ≠ 0) (ha : ∀ i, i < j → E i = 0) : E j = R := by
  rcases h with ⟨k, hk, e, hR, hz⟩ | ⟨_, hz⟩
  · rcases Nat.lt_trichotomy k j with h1 | h1 | h1
    · exact absurd ((e.symm).trans (ha k h1)) hR
    · rw [← h1]; exact e
    · exact absurd (hz j h1) he
  · exact absurd (hz j hj) he
theorem IsFirst.none {E : Nat → Int} {n : Nat} {R : Int} (h : IsFirst E n R) (ha : ∀ i, i < n → E i = 0) : R = 0 := by
  rcases h with ⟨k, hk, e, hR, _⟩ | ⟨h0, _⟩
  · exact absurd ((e.symm).trans (ha k hk)) hR
  · exact h0
set_option maxRecDepth 100000 in
set_option maxHeartbeats 1000000 in
theorem firstN_any (g n c : Nat) (hn : n ≤ 10) (F : Nat → Nat) (A C : Nat → Array Value) (E : Nat → Int) (R : Int) (hR : IsFirst E n R) (w : World)
    (hc : ∀ j, j < n → w.cell? ⟨g, j, none⟩ = some (.func (.func (F j)) (A j) (C j))) (hg : g < w.heap.size)
    (hcf : ∀ j, j < n → ∀ args w, (callFunc (F j) args).run Tryz.prog w = .ok (.enter (F j) args) w)
    (KF : ∀ j, j < n → (∀ i, i < j → E i = 0) → ∀ W, Below w.heap.size w W → Calls Tryz.prog (F j) (A j ++ C j) W fun e w' => e = .returned (.int .i64 (E j)) ∧ Below W.heap.size W w') :
    Calls Tryz.prog 142 #[.slice (some ⟨g, 0, none⟩) n c] w fun e w' => e = .returned (.int .i64 R) ∧ Below w.heap.size w w' := by
  have HC := hide hc
  have HCF := hide hcf
  have HKF := hide KF
  have HR := hide hR
  clear hc hcf KF hR
  go_enter Tryz.func142, Tryz.ntmps142
  go_wp2_with fail
  go_loopw [8] (fun i wr => ∃ j : Nat, j ≤ n ∧ i = .int .i64 j ∧ (∀ i, i < j → E i = 0) ∧ Below w.heap.size w wr) (fun i _ => n - (intOf i).toNat)
  case atStart => exact ⟨0, Nat.zero_le _, rfl, fun i h => absurd h (Nat.not_lt_zero _), Below.refl _ _⟩
  case round =>
    obtain ⟨j, hj, rfl, hz, hb⟩ := hrel
    have HZ := hide hz
    have HB := hide hb
    clear hz hb
    by_cases hlt : j < n
    · have x0 : wr.cell? ⟨g, j, none⟩ = some (.func (.func (F j)) (A j) (C j)) := ((unhide HB).cell (p := ⟨g, j, none⟩) hg).trans (unhide HC j hlt)
      have hcf := unhide HCF j hlt
      have KN := hide (unhide HKF j hlt (unhide HZ) wr (unhide HB))
      have HA := hide fun he => (unhide HR).at hlt he (unhide HZ)
      have HZ2 : Hid (E j = 0 → ∀ i, i < j + 1 → E i = 0) := hide fun h0 i hi => by
        rcases Nat.lt_succ_iff_lt_or_eq.1 hi with h | h
        · exact unhide HZ i h
        · rw [h]; exact h0
      generalize F j = f at x0 KN hcf
      generalize A j = fa at x0 KN
      generalize C j = ca at x0 KN
      generalize E j = r at KN HA HZ2
      go_wp2_with fail
      refine (unhide KN).mono ?_
      rintro e w2 ⟨rfl, hb⟩
      have HB2 := hide (below_grow (unhide HB) (Nat.le_refl _) hb)
      clear hb x0 KN
      by_cases hr : r = 0
      · subst hr
        have HZ3 := hide (unhide HZ2 rfl)
        go_wp2_with fail
        go_roundw
        case rel => exact ⟨j + 1, by omega, by go_num, unhide HZ3, unhide HB2⟩
        case measure => simp [intOf]; omega
      · have hne : (r != 0) = true := bne_iff_ne.2 hr
        have HA2 := hide (unhide HA hr)
        go_wp2_with fail
        go_ret
        exact ⟨ret_int (unhide HA2), unhide HB2⟩
    · obtain rfl : j = n := by omega
      have HA2 := hide ((unhide HR).none (unhide HZ))
      go_wp2_with fail
      go_ret
      exact ⟨ret_int (unhide HA2).symm, unhide HB⟩
end Go.Proofs.YtebjlmnhpfoglaaGreatDoor

/-
  Whether a node may be: the program's checkKids and Check. Conditions: those that each theorem names.
-/

namespace Go.Proofs.YtebjlmnhpfoglaaGreatDoor
open Go.RowKit

theorem calls_k1 : ∀ (args : Array Value) (w : World), (callFunc 165 args).run Tryz.prog w = .ok (.enter 165 args) w := fun _ _ => by kernel_rfl
theorem calls_k2 : ∀ (args : Array Value) (w : World), (callFunc 167 args).run Tryz.prog w = .ok (.enter 167 args) w := fun _ _ => by kernel_rfl
theorem calls_c1 : ∀ (args : Array Value) (w : World), (callFunc 143 args).run Tryz.prog w = .ok (.enter 143 args) w := fun _ _ => by kernel_rfl
theorem calls_c2 : ∀ (args : Array Value) (w : World), (callFunc 144 args).run Tryz.prog w = .ok (.enter 144 args) w := fun _ _ => by kernel_rfl
theorem calls_c3 : ∀ (args : Array Value) (w : World), (callFunc 146 args).run Tryz.prog w = .ok (.enter 146 args) w := fun _ _ => by kernel_rfl

set_option maxRecDepth 100000 in
set_option maxHeartbeats 400000 in
theorem kid1_any (B : Nat) (s : ByteArray) (hs : s.size ≤ 50000) (w : World) (x0 : w.cell? ⟨B, 0, none⟩ = some (.string s)) :
    Calls Tryz.prog 165 #[.pointer (some ⟨B, 0, none⟩)] w fun e w' => e = .returned (.int .i64 (unl (isN s) 1)) ∧ Below w.heap.size w w' := by
  have KN := hide fun W => Pth.name_any s (by omega) W
  rw [show Pth.Pt.isName s.data.toList = isN s from rfl] at KN
  generalize isN s = N at KN ⊢
  clear hs
  go_enter Tryz.func165, Tryz.ntmps165
  go_wp2_with fail
  refine (unhide KN _).mono ?_
  rintro e w1 ⟨rfl, hb⟩
  have HB := hide hb
  clear hb x0
  go_wp2_with fail
  refine (unless_any N 1 w1).mono ?_
  rintro e w2 ⟨rfl, rfl⟩
  go_wp2_with fail
  go_ret
  exact ⟨rfl, unhide HB⟩

set_option maxRecDepth 100000 in
set_option maxHeartbeats 400000 in
theorem kid2_any (B A : Nat) (s p : ByteArray) (w : World) (x0 : w.cell? ⟨B, 0, none⟩ = some (.string s)) (y0 : w.cell? ⟨A, 0, none⟩ = some (.string p)) :
    Calls Tryz.prog 167 #[.pointer (some ⟨B, 0, none⟩), .pointer (some ⟨A, 0, none⟩)] w fun e w' => e = .returned (.int .i64 (unl (!leqB s p) 8)) ∧ Below w.heap.size w w' := by
  have HL : Hid ((Go.Op.bytesLess s.toList p.toList || (s.toList == p.toList)) = leqB s p) := hide rfl
  generalize leqB s p = L at HL ⊢
  go_enter Tryz.func167, Tryz.ntmps167
  go_wp2_with fail
  refine (unless_any _ 8 w).mono ?_
  rintro e w2 ⟨rfl, rfl⟩
  go_wp2_with fail
  go_ret
  exact ⟨ret_int (by rw [← unhide HL, Bool.not_or]), Below.refl _ _⟩

theorem kids_first (p : ByteArray) (k : Kd) : IsFirst (fun j => if j = 0 then unl (isN k.1) 1 else unl (!leqB k.1 p) 8) 2 (kidErr p k) := by
  unfold kidErr
  cases hN : isN k.1 with
  | false => exact .inl ⟨0, by omega, rfl, by simp, fun i h => absurd h (Nat.not_lt_zero _)⟩
  | true =>
    cases hL : leqB k.1 p with
    | true =>
      refine .inl ⟨1, by omega, rfl, by simp, fun i h => ?_⟩
      rw [show i = 0 by omega]
      rfl
    | false =>
      refine .inr ⟨by simp, fun i h => ?_⟩
      rcases (show i = 0 ∨ i = 1 by omega) with rfl | rfl <;> rfl

theorem kidsF_any (B A : Nat) (x : Kd) (hx : x.1.size ≤ 50000) (p : ByteArray) (r : Int) (hF : IsFirst (fun j => if j = 0 then unl (isN x.1) 1 else unl (!leqB x.1 p) 8) 2 r) (w : World) (hr : VRow w B 86 (kL x)) (ha : VRow w A 9 [.string p]) :
    Calls Tryz.prog 142 #[.slice (some ⟨w.heap.size, 0, none⟩) 2 2] (w.alloc (.cells #[.func (.func 165) #[] #[.pointer (some ⟨B, 0, none⟩)], .func (.func 167) #[] #[.pointer (some ⟨B, 0, none⟩), .pointer (some ⟨A, 0, none⟩)]] 162)) fun e w' => e = .returned (.int .i64 r) ∧ Below w.heap.size w w' := by
  have hb := below_alloc' (w := w) (.cells #[.func (.func 165) #[] #[.pointer (some ⟨B, 0, none⟩)], .func (.func 167) #[] #[.pointer (some ⟨B, 0, none⟩), .pointer (some ⟨A, 0, none⟩)]] 162)
  have hv := VRow.new w 162 [.func (.func 165) #[] #[.pointer (some ⟨B, 0, none⟩)], .func (.func 167) #[] #[.pointer (some ⟨B, 0, none⟩), .pointer (some ⟨A, 0, none⟩)]]
  refine (firstN_any w.heap.size 2 2 (by omega) (fun j => if j = 0 then 165 else 167) (fun _ => #[]) (fun j => if j = 0 then #[.pointer (some ⟨B, 0, none⟩)] else #[.pointer (some ⟨B, 0, none⟩), .pointer (some ⟨A, 0, none⟩)]) _ r hF _ (fun j hj => ?_) (by simp) (fun j hj => ?_) (fun j hj _ W hW => ?_)).mono ?_
  · rcases (show j = 0 ∨ j = 1 by omega) with rfl | rfl
    · exact hv.cell 0 _ rfl
    · exact hv.cell 1 _ rfl
  · rcases (show j = 0 ∨ j = 1 by omega) with rfl | rfl
    · exact calls_k1
    · exact calls_k2
  · rcases (show j = 0 ∨ j = 1 by omega) with rfl | rfl
    · exact kid1_any B x.1 hx W (((hr.after hb).after hW).cell 0 _ rfl)
    · exact kid2_any B A x.1 p W (((hr.after hb).after hW).cell 0 _ rfl) (((ha.after hb).after hW).cell 0 _ rfl)
  · rintro e w' ⟨rfl, h⟩
    exact ⟨rfl, below_grow hb (Nat.le_refl _) h⟩

set_option maxRecDepth 100000 in
set_option maxHeartbeats 2000000 in
theorem checkKids_any (a : Option Addr) (c : Nat) (l : List Kd) (hl : l.length ≤ 100000) (hd : Digs l) (hs : ∀ k ∈ l, k.1.size ≤ 50000) (w : World) (h : SK w a l) :
    Calls Tryz.prog 147 #[.slice a l.length c] w fun e w' => e = .returned (.int .i64 (chkK ⟨#[]⟩ l)) ∧ Below w.heap.size w w' := by
  have hmf : ∀ (fn : Fn) (first cap : Array Value) (w : World), (Instr.makeFunc fn first cap).run Tryz.prog w = .ok (.func fn first cap) w := fun _ _ _ _ => rfl
  have HB0 := hide (below_alloc' (w := w) (.cells #[.string ⟨#[]⟩] 9))
  have HA0 := hide (VRow.new w 9 [.string ⟨#[]⟩])
  have HSK := hide h
  have HD := hide hd
  have HS := hide hs
  have HV : Hid (chkK ⟨#[]⟩ l = chkK (prevK l 0) (l.drop 0)) := hide rfl
  have HST := hide (chkK_step l)
  have HEN := hide (chkK_end l)
  obtain ⟨R, hR⟩ : ∃ R, chkK ⟨#[]⟩ l = R := ⟨_, rfl⟩
  rw [hR] at HV ⊢
  clear h hd hs hR
  go_enter Tryz.func147, Tryz.ntmps147
  go_wp2_with fail
  go_loopw [9] (fun i wr => ∃ k : Nat, k ≤ l.length ∧ i = .int .i64 k ∧ R = chkK (prevK l k) (l.drop k) ∧ VRow wr w.heap.size 9 [.string (prevK l k)] ∧ Below w.heap.size w wr) (fun i _ => l.length - (intOf i).toNat)
  case atStart => exact ⟨0, Nat.zero_le _, rfl, unhide HV, unhide HA0, unhide HB0⟩
  case round =>
    obtain ⟨k, hk, rfl, hv, hr, hb⟩ := hrel
    have HV1 := hide hv
    have HA := hide hr
    have HB := hide hb
    have hwlt := hr.lt
    clear hv hr hb
    by_cases hlt : k < l.length
    · obtain ⟨x, hx⟩ : ∃ x, l[k]? = some x := ⟨_, List.getElem?_eq_getElem hlt⟩
      have hm := List.mem_of_getElem? hx
      have hdx := unhide HD x hm
      have HLEN := hide (kL_len hdx)
      have HDX := hide hdx
      obtain ⟨g, o, rfl, hg, hc⟩ := (unhide HSK).after (unhide HB) (by omega)
      have HC := hide (hc k x hx)
      have HSX := hide (unhide HS x hm)
      have HV2 : Hid (R = if kidErr (prevK l k) x ≠ 0 then kidErr (prevK l k) x else chkK (prevK l (k + 1)) (l.drop (k + 1))) := hide ((unhide HV1).trans (unhide HST k x hx))
      have HPK := hide (prevK_at l k x hx)
      obtain ⟨p, hp⟩ : ∃ p, prevK l k = p := ⟨_, rfl⟩
      rw [hp] at HV2 HA
      obtain ⟨r, hr⟩ : ∃ r, kidErr p x = r := ⟨_, rfl⟩
      have HF := hide (hr ▸ kids_first p x)
      rw [hr] at HV2
      clear hdx hm hc hx hg HV1 hp hr
      go_wp2_with (first
        | (refine load_kid (by rfl) (.tmp 11) (by rfl) g (o + k * 33) (by rfl) x (unhide HC) (unhide HDX) ?_)
        | (refine store_row (by rfl) 86 (.tmp 5) (.tmp 12) (by rfl) wr.heap.size (kL x) (by rfl) (by rfl) 86 (kL zeroK) (VRow.newAt rfl) 33 sizeK (unhide HLEN) rfl (kL_one x) ?_; intro w1 ho1 hr1; have HB1 := hide (below_grow (unhide HB) (Nat.le_refl _) ((below_alloc' (w := wr) (.cells (kL zeroK).toArray 86)).trans (ho1.below (Nat.le_refl _)))); have HR1 := hide hr1; have HA1 := hide (((unhide HA).alloc (.cells (kL zeroK).toArray 86)).only ho1 (by omega)); clear ho1 hr1))
      refine (kidsF_any wr.heap.size w.heap.size x (unhide HSX) p r (unhide HF) w1 (unhide HR1) (unhide HA1)).mono ?_
      rintro e w2 ⟨rfl, hb⟩
      have HR2 := (unhide HR1).after hb
      have HA2 := hide ((unhide HA1).after hb)
      have HB2 := hide (below_grow (unhide HB1) (Nat.le_refl _) hb)
      have x0 := HR2.cell 0 _ rfl
      have y0 := (unhide HA2).cell 0 _ rfl
      have f0 := (unhide HA2).frozen 0
      clear hb HR2 HC
      by_cases hr : r = 0
      · subst hr
        have HV3 := hide (unhide HV2)
        rw [if_neg (by simp)] at HV3
        have HA3 := hide (show VRow (w2.setCell ⟨w.heap.size, 0, none⟩ (.string x.1)) w.heap.size 9 [.string x.1] from (unhide HA2).set 0 (.string x.1))
        have HB3 := hide (below_set (unhide HB2) (Nat.le_refl _) 0 (.string x.1))
        clear HV2
        go_wp2_with fail
        go_roundw
        case rel => exact ⟨k + 1, by omega, by go_num, unhide HV3, by rw [unhide HPK]; exact unhide HA3, unhide HB3⟩
        case measure => simp [intOf]; omega
      · have hne : (r != 0) = true := bne_iff_ne.2 hr
        have HV3 := hide (unhide HV2)
        rw [if_pos hr] at HV3
        go_wp2_with fail
        go_ret
        exact ⟨ret_int (unhide HV3).symm, unhide HB2⟩
    · obtain rfl : k = l.length := by omega
      have HV2 := hide ((unhide HV1).trans (unhide HEN _))
      go_wp2_with fail
      go_ret
      exact ⟨ret_int (unhide HV2).symm, unhide HB⟩

/-! Check. -/
def leq128 (n : Nat) : Bool := decide ((n : Int) ≤ 128)
set_option maxRecDepth 100000 in
set_option maxHeartbeats 400000 in
theorem c1_any (B : Nat) (a : Option Addr) (c : Nat) (b : Option Addr) (d : Nat) (n : Nd) (hn : Nok n) (w : World) (h : NdAt w n a c b d) (hr : VRow w B 52 (ndL n a c b d)) :
    Calls Tryz.prog 143 #[.pointer (some ⟨B, 0, none⟩)] w fun e w' => e = .returned (.int .i64 (Vc.checkLeaf n.vs)) ∧ Below w.heap.size w w' := by
  have K := hide (checkLeaf_any a c n.vs hn.few w h.sv)
  have x0 : w.cell? ⟨B, 0, none⟩ = some (.slice a n.vs.length c) := hr.cell 0 _ rfl
  clear hr h hn
  generalize Vc.checkLeaf n.vs = R at K ⊢
  go_enter Tryz.func143, Tryz.ntmps143
  go_wp2_with fail
  refine (unhide K).mono ?_
  rintro e w1 ⟨rfl, hb⟩
  have HB := hide hb
  clear hb x0
  go_wp2_with fail
  go_ret
  exact ⟨rfl, unhide HB⟩
set_option maxRecDepth 100000 in
set_option maxHeartbeats 400000 in
theorem c2_any (B : Nat) (a : Option Addr) (c : Nat) (b : Option Addr) (d : Nat) (n : Nd) (w : World) (hr : VRow w B 52 (ndL n a c b d)) :
    Calls Tryz.prog 144 #[.pointer (some ⟨B, 0, none⟩)] w fun e w' => e = .returned (.int .i64 (unl (leq128 n.ks.length) 2)) ∧ Below w.heap.size w w' := by
  have x1 : w.cell? ⟨B, 1, none⟩ = some (.slice b n.ks.length d) := hr.cell 1 _ rfl
  clear hr
  go_enter Tryz.func144, Tryz.ntmps144
  go_wp2_with fail
  refine (unless_any _ 2 w).mono ?_
  rintro e w2 ⟨rfl, rfl⟩
  go_wp2_with fail
  go_ret
  exact ⟨rfl, Below.refl _ _⟩
set_option maxRecDepth 100000 in
set_option maxHeartbeats 400000 in
theorem c3_any (B : Nat) (a : Option Addr) (c : Nat) (b : Option Addr) (d : Nat) (n : Nd) (hn : Nok n) (w : World) (h : NdAt w n a c b d) (hr : VRow w B 52 (ndL n a c b d)) :
    Calls Tryz.prog 146 #[.pointer (some ⟨B, 0, none⟩)] w fun e w' => e = .returned (.int .i64 (chkK ⟨#[]⟩ n.ks)) ∧ Below w.heap.size w w' := by
  have K := hide (checkKids_any b d n.ks hn.kids hn.digs hn.names w h.sk)
  have x1 : w.cell? ⟨B, 1, none⟩ = some (.slice b n.ks.length d) := hr.cell 1 _ rfl
  clear hr h hn
  generalize chkK ⟨#[]⟩ n.ks = R at K ⊢
  go_enter Tryz.func146, Tryz.ntmps146
  go_wp2_with fail
  refine (unhide K).mono ?_
  rintro e w1 ⟨rfl, hb⟩
  have HB := hide hb
  clear hb x1
  go_wp2_with fail
  go_ret
  exact ⟨rfl, unhide HB⟩
theorem node_first (n : Nd) : IsFirst (fun j => if j = 0 then Vc.checkLeaf n.vs else if j = 1 then unl (leq128 n.ks.length) 2 else chkK ⟨#[]⟩ n.ks) 3 (chkN n) := by
  unfold chkN
  by_cases h1 : Vc.checkLeaf n.vs ≠ 0
  · rw [if_pos h1]
    exact .inl ⟨0, by omega, rfl, h1, fun i h => absurd h (Nat.not_lt_zero _)⟩
  · rw [if_neg h1]
    have h1' := Classical.not_not.1 h1
    by_cases h2 : 128 < n.ks.length
    · rw [if_pos h2]
      have e : leq128 n.ks.length = false := decide_eq_false (by omega)
      refine .inl ⟨1, by omega, by show unl (leq128 n.ks.length) 2 = 2; rw [e]; rfl, by omega, fun i h => ?_⟩
      rw [show i = 0 by omega]
      exact h1'
    · rw [if_neg h2]
      have e : unl (leq128 n.ks.length) 2 = 0 := by rw [show leq128 n.ks.length = true from decide_eq_true (by omega)]; rfl
      by_cases h3 : chkK ⟨#[]⟩ n.ks ≠ 0
      · refine .inl ⟨2, by omega, rfl, h3, fun i h => ?_⟩
        rcases (show i = 0 ∨ i = 1 by omega) with rfl | rfl
        · exact h1'
        · exact e
      · have h3' := Classical.not_not.1 h3
        refine .inr ⟨h3', fun i h => ?_⟩
        rcases (show i = 0 ∨ i = 1 ∨ i = 2 by omega) with rfl | rfl | rfl
        · exact h1'
        · exact e
        · exact h3'
theorem nodeF_any (B G : Nat) (a : Option Addr) (c : Nat) (b : Option Addr) (d : Nat) (n : Nd) (hn : Nok n) (w : World) (hG : G = w.heap.size) (h : NdAt w n a c b d) (hr : VRow w B 52 (ndL n a c b d)) :
    Calls Tryz.prog 142 #[.slice (some ⟨G, 0, none⟩) 3 3] (w.alloc (.cells #[.func (.func 143) #[] #[.pointer (some ⟨B, 0, none⟩)], .func (.func 144) #[] #[.pointer (some ⟨B, 0, none⟩)], .func (.func 146) #[] #[.pointer (some ⟨B, 0, none⟩)]] 162)) fun e w' => e = .returned (.int .i64 (chkN n)) ∧ Below w.heap.size w w' := by
  subst hG
  have hb := below_alloc' (w := w) (.cells #[.func (.func 143) #[] #[.pointer (some ⟨B, 0, none⟩)], .func (.func 144) #[] #[.pointer (some ⟨B, 0, none⟩)], .func (.func 146) #[] #[.pointer (some ⟨B, 0, none⟩)]] 162)
  have hv := VRow.new w 162 [.func (.func 143) #[] #[.pointer (some ⟨B, 0, none⟩)], .func (.func 144) #[] #[.pointer (some ⟨B, 0, none⟩)], .func (.func 146) #[] #[.pointer (some ⟨B, 0, none⟩)]]
  refine (firstN_any w.heap.size 3 3 (by omega) (fun j => if j = 0 then 143 else if j = 1 then 144 else 146) (fun _ => #[]) (fun _ => #[.pointer (some ⟨B, 0, none⟩)]) _ _ (node_first n) _ (fun j hj => ?_) (by simp) (fun j hj => ?_) (fun j hj _ W hW => ?_)).mono ?_
  · rcases (show j = 0 ∨ j = 1 ∨ j = 2 by omega) with rfl | rfl | rfl
    · exact hv.cell 0 _ rfl
    · exact hv.cell 1 _ rfl
    · exact hv.cell 2 _ rfl
  · rcases (show j = 0 ∨ j = 1 ∨ j = 2 by omega) with rfl | rfl | rfl
    · exact calls_c1
    · exact calls_c2
    · exact calls_c3
  · have hr2 := (hr.after hb).after hW
    have h2 := (h.after hb).after hW
    rcases (show j = 0 ∨ j = 1 ∨ j = 2 by omega) with rfl | rfl | rfl
    · exact c1_any B a c b d n hn W h2 hr2
    · exact c2_any B a c b d n W hr2
    · exact c3_any B a c b d n hn W h2 hr2
  · rintro e w' ⟨rfl, h⟩
    exact ⟨rfl, below_grow hb (Nat.le_refl _) h⟩
set_option maxRecDepth 100000 in
set_option maxHeartbeats 400000 in
theorem checkN_any (a : Option Addr) (c : Nat) (b : Option Addr) (d : Nat) (n : Nd) (hn : Nok n) (w : World) (h : NdAt w n a c b d) :
    Calls Tryz.prog 126 #[.agg (ndL n a c b d).toArray] w fun e w' => e = .returned (.int .i64 (chkN n)) ∧ Below w.heap.size w w' := by
  have hmf : ∀ (fn : Fn) (first cap : Array Value) (w : World), (Instr.makeFunc fn first cap).run Tryz.prog w = .ok (.func fn first cap) w := fun _ _ _ _ => rfl
  have HB0 := hide (below_alloc' (w := w) (.cells (ndL n a c b d).toArray 52))
  have K := hide (nodeF_any w.heap.size (w.heap.size + 1) a c b d n hn (w.alloc (.cells (ndL n a c b d).toArray 52)) (by simp) (h.after (unhide HB0)) (VRow.new w 52 (ndL n a c b d)))
  generalize chkN n = R at K ⊢
  clear h hn
  unfold ndL at *
  go_enter Tryz.func126, Tryz.ntmps126
  go_wp2_with fail
  refine (unhide K).mono ?_
  rintro e w1 ⟨rfl, hb⟩
  have HB := hide (below_grow (unhide HB0) (Nat.le_refl _) hb)
  clear hb
  go_wp2_with fail
  go_ret
  exact ⟨rfl, unhide HB⟩
end Go.Proofs.YtebjlmnhpfoglaaGreatDoor
