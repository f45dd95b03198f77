/-
  The walks of the statements on which bytes a vector and a leaf have, and on what bytes are. Conditions: those that each theorem names.
-/
import Derived.Test.YtklkacmeopfmhaaR6
import Derived.Test.YtklkacmeopfmhaaR1
import Derived.Test.YtklkacmeopfmhaaGreat
import Derived.Test.YtklkacmeopfmhaaShort
import Derived.Test.YtklkacmeopfmhaaRefSame
namespace Go.Proofs.Ytklkacmeopfmhaa
open Go.RowKit

theorem sl_two {W : World} {D T : Nat} {a b c d : Int} (h : VRow W D T [.int .i64 a, .int .i64 b, .int .i64 c, .int .i64 d]) : Sl W (some ⟨D, 0, none⟩) [(a, b), (c, d)] := fun _ => by
  refine ⟨D, 0, rfl, h.lt, fun j x hj => ?_⟩
  have hj0 : j = 0 ∨ j = 1 := by have := (List.getElem?_eq_some_iff.1 hj).1; simp at this; omega
  rcases hj0 with rfl | rfl
  · simp at hj
    subst hj
    exact ⟨h.cell 0 _ rfl, h.cell 1 _ rfl⟩
  · simp at hj
    subst hj
    exact ⟨h.cell 2 _ rfl, h.cell 3 _ rfl⟩
theorem example_bytes : wVec ([], 0) [(0, 2), (3, 1)] = ([2, 0, 2, 3, 1], 0) := by decide +kernel

set_option maxRecDepth 100000 in
set_option maxHeartbeats 400000 in
theorem awake_any (w : World) : Calls Try.prog 8 #[] w fun e w' => e = .returned (.bool true) ∧ Below w.heap.size w w' := by
  have HB := hide (below_alloc' (w := w) (.cells #[.int .i64 0, .int .i64 2, .int .i64 3, .int .i64 1] 64))
  have K := hide (vec_any (some ⟨w.heap.size, 0, none⟩) 2 [(0, 2), (3, 1)] (by simp) _ (sl_two (VRow.new w 64 [.int .i64 0, .int .i64 2, .int .i64 3, .int .i64 1])))
  rw [example_bytes] at K
  rw [show str (told ([2, 0, 2, 3, 1], 0)) = ⟨#[2, 0, 2, 3, 1]⟩ from rfl] at K
  go_enter Try.func8, Try.ntmps8
  go_wp2_with fail
  refine (unhide K).mono ?_
  rintro e w1 ⟨rfl, hb⟩
  have HB1 := hide (below_grow (unhide HB) (Nat.le_refl _) hb)
  clear hb
  go_wp2_with fail
  go_ret
  exact ⟨rfl, unhide HB1⟩

set_option maxRecDepth 100000 in
set_option maxHeartbeats 400000 in
theorem vecs_walk (a : Option Addr) (cap : Nat) (ds : List Vc.D) (_ : ds.length ≤ cap) (w : World) (s : Sl w a ds) :
    Calls Try.prog 3 #[.slice a ds.length cap] w fun e w' => e = .returned (.bool true) ∧ Below w.heap.size w w' := by
  have S := hide s
  clear s
  by_cases h90 : 90 < ds.length
  · have hd : decide ((90 : Int) < (ds.length : Int)) = true := decide_eq_true (by omega)
    go_enter Try.func3, Try.ntmps3
    go_wp2_with fail
    refine (awake_any _).mono ?_
    rintro e w1 ⟨rfl, hb⟩
    have HB := hide hb
    clear hb
    go_wp2_with fail
    go_ret
    exact ⟨rfl, unhide HB⟩
  · have hd : decide ((90 : Int) < (ds.length : Int)) = false := decide_eq_false (by omega)
    have K1 := hide fun W h => vec_any a cap ds (by omega) W h
    have K2 := hide fun W h => refVec_any a cap ds (by omega) W h
    generalize str (told (wVec ([], 0) ds)) = X at K1 K2
    generalize (wVec ([], 0) ds).2 = Y at K1 K2
    go_enter Try.func3, Try.ntmps3
    go_wp2_with fail
    refine (unhide K1 _ (unhide S)).mono ?_
    rintro e w1 ⟨rfl, hb⟩
    have HB := hide hb
    have S1 := hide ((unhide S).after hb)
    clear hb
    go_wp2_with fail
    refine (unhide K2 _ (unhide S1)).mono ?_
    rintro e w2 ⟨rfl, hb⟩
    have HB2 := hide (below_grow (unhide HB) (Nat.le_refl _) hb)
    clear hb
    go_wp2_with fail
    refine (awake_any _).mono ?_
    rintro e w3 ⟨rfl, hb⟩
    have HB3 := hide (below_grow (unhide HB2) (Nat.le_refl _) hb)
    clear hb
    go_wp2_with fail
    go_ret
    exact ⟨rfl, unhide HB3⟩

/-- Whether one leaf is too much. -/
def Great1 (a : List Vc.V) (w : World) (e : Ending) (w' : World) : Prop := ∃ B : Bool, e = .returned (.bool B) ∧ w' = w ∧ (B = false → a.length ≤ 70)
theorem great1 (w : World) (ra : Option Addr) (ca : Nat) (a : List Vc.V) (ha : SV w ra a) :
    Calls Try.prog 11 #[.slice (some ⟨w.heap.size, 0, none⟩) 1 1] (w.alloc (.cells #[.slice ra a.length ca] 28)) (Great1 a (w.alloc (.cells #[.slice ra a.length ca] 28))) := by
  have hr := VRow.new w 28 [.slice ra a.length ca]
  refine (great_any w.heap.size 1 (by decide) (fun _ => ra) (fun _ => ca) (fun _ => a) _ (fun j hj => ?_) (fun j hj => ?_)).mono ?_
  · obtain rfl : j = 0 := by omega
    exact hr.cell 0 _ rfl
  · exact ha.after (below_alloc' _)
  · rintro e w' ⟨B, h1, h2, h3⟩
    exact ⟨B, h1, h2, fun h => (h3 h 0 (by decide)).1⟩

set_option maxRecDepth 100000 in
set_option maxHeartbeats 400000 in
theorem leaves_walk (a : Option Addr) (cap : Nat) (vs : List Vc.V) (_ : vs.length ≤ cap) (hm : Short vs) (hdata : ∀ v ∈ vs, v.data.size ≤ 9223372036854775807) (w : World) (s : SV w a vs) :
    Calls Try.prog 4 #[.slice a vs.length cap] w fun e w' => e = .returned (.bool true) ∧ Below w.heap.size w w' := by
  have KG := hide (great1 w a cap vs s)
  have HB := hide (below_alloc' (w := w) (.cells #[.slice a vs.length cap] 28))
  have S := hide (s.after (unhide HB))
  have HM := hide hm
  have HD := hide hdata
  clear s hm hdata
  go_enter Try.func4, Try.ntmps4
  go_wp2_with fail
  refine (unhide KG).mono ?_
  rintro e w0 ⟨B, rfl, hw, hG⟩
  rw [← hw] at HB S
  clear hw KG
  cases B with
  | true =>
    go_wp2_with fail
    refine (awake_any _).mono ?_
    rintro e w1 ⟨rfl, hb⟩
    have HB1 := hide (below_grow (unhide HB) (Nat.le_refl _) hb)
    clear hb
    go_wp2_with fail
    go_ret
    exact ⟨rfl, unhide HB1⟩
  | false =>
    have hf := (unhide HM).few (hG rfl)
    have K1 := hide fun W h => leafB_any a cap vs hf W h
    have K2 := hide fun W h => refLeafB_any a cap vs hf (unhide HD) W h
    generalize str (told (wLeaf ([], 0) vs)) = X at K1 K2
    generalize (wLeaf ([], 0) vs).2 = Y at K1 K2
    clear hG hf
    go_wp2_with fail
    refine (unhide K1 _ (unhide S)).mono ?_
    rintro e w1 ⟨rfl, hb⟩
    have HB1 := hide (below_grow (unhide HB) (Nat.le_refl _) hb)
    have S1 := hide ((unhide S).after hb)
    clear hb
    go_wp2_with fail
    refine (unhide K2 _ (unhide S1)).mono ?_
    rintro e w2 ⟨rfl, hb⟩
    have HB2 := hide (below_grow (unhide HB1) (Nat.le_refl _) hb)
    clear hb
    go_wp2_with fail
    refine (awake_any _).mono ?_
    rintro e w3 ⟨rfl, hb⟩
    have HB3 := hide (below_grow (unhide HB2) (Nat.le_refl _) hb)
    clear hb
    go_wp2_with fail
    go_ret
    exact ⟨rfl, unhide HB3⟩

theorem ofVec_len (s : List UInt8) : (ofVec s).1.length ≤ 64 := by
  unfold ofVec
  dsimp only
  split
  · simp
  · exact rVec_len _
theorem ofLeaf_few (s : List UInt8) : Few (ofLeaf s).1 := by
  unfold ofLeaf
  dsimp only
  split
  · exact ⟨by simp, fun v hv => by cases hv⟩
  · exact ⟨by have := rLeaf_len (s, 0); omega, fun v hv => by have := rLeaf_past (s, 0) v hv; omega⟩

set_option maxRecDepth 100000 in
set_option maxHeartbeats 1000000 in
theorem reads_walk (s : ByteArray) (_ : s.size ≤ 9223372036854775807) (w : World) :
    Calls Try.prog 5 #[.string s] w fun e w' => e = .returned (.bool true) ∧ Below w.heap.size w w' := by
  by_cases h5 : 5000 < s.size
  · have hd : decide ((5000 : Int) < (s.size : Int)) = true := decide_eq_true (by omega)
    go_enter Try.func5, Try.ntmps5
    go_wp2_with fail
    refine (awake_any _).mono ?_
    rintro e w1 ⟨rfl, hb⟩
    have HB := hide hb
    clear hb
    go_wp2_with fail
    go_ret
    exact ⟨rfl, unhide HB⟩
  · have hd : decide ((5000 : Int) < (s.size : Int)) = false := decide_eq_false (by omega)
    have K1 := hide fun W => vecOf_any s (by omega) W
    have K2 := hide fun W => refVecOf_any s (by omega) W
    have K3 := hide fun W => leafOf_any s (by omega) W
    have K4 := hide fun W => refLeafOf_any s (by omega) W
    have HL := hide (ofVec_len s.data.toList)
    have HF := hide (ofLeaf_few s.data.toList)
    generalize ofVec s.data.toList = X at K1 K2 HL
    generalize ofLeaf s.data.toList = Y at K3 K4 HF
    obtain ⟨X, x⟩ := X
    obtain ⟨Y, y⟩ := Y
    dsimp only at HL HF
    go_enter Try.func5, Try.ntmps5
    go_wp2_with fail
    refine (unhide K1 _).mono ?_
    rintro e w1 ⟨a1, c1, rfl, _, hs1, hb⟩
    have HB1 := hide hb
    have S1 := hide hs1
    clear hs1 hb
    dsimp only
    go_wp2_with fail
    refine (unhide K2 _).mono ?_
    rintro e w2 ⟨a2, c2, rfl, _, hs2, hb⟩
    have HB2 := hide (below_grow (unhide HB1) (Nat.le_refl _) hb)
    replace S1 := hide ((unhide S1).after hb)
    have S2 := hide hs2
    clear hs2 hb
    dsimp only
    go_wp2_with fail
    refine (unhide K3 _).mono ?_
    rintro e w3 ⟨a3, c3, rfl, _, hs3, hb⟩
    have HB3 := hide (below_grow (unhide HB2) (Nat.le_refl _) hb)
    replace S1 := hide ((unhide S1).after hb)
    replace S2 := hide ((unhide S2).after hb)
    have S3 := hide hs3
    clear hs3 hb
    dsimp only
    go_wp2_with fail
    refine (unhide K4 _).mono ?_
    rintro e w4 ⟨a4, c4, rfl, _, hs4, hb⟩
    have HB4 := hide (below_grow (unhide HB3) (Nat.le_refl _) hb)
    replace S1 := hide ((unhide S1).after hb)
    replace S2 := hide ((unhide S2).after hb)
    replace S3 := hide ((unhide S3).after hb)
    have S4 := hide hs4
    clear hs4 hb
    dsimp only
    go_wp2_with fail
    refine (refSame_any a1 a2 c1 c2 X X (by have := unhide HL; omega) _ (unhide S1) (unhide S2) true (by simp)).mono ?_
    rintro e w5 ⟨rfl, hb⟩
    have HB5 := hide (below_grow (unhide HB4) (Nat.le_refl _) hb)
    replace S3 := hide ((unhide S3).after hb)
    replace S4 := hide ((unhide S4).after hb)
    clear hb
    go_wp2_with fail
    refine (refSameVs_any a3 a4 c3 c4 Y Y (unhide HF) (unhide HF) _ (unhide S3) (unhide S4) true (by simp)).mono ?_
    rintro e w6 ⟨rfl, hb⟩
    have HB6 := hide (below_grow (unhide HB5) (Nat.le_refl _) hb)
    clear hb
    go_wp2_with fail
    refine (awake_any _).mono ?_
    rintro e w7 ⟨rfl, hb⟩
    have HB7 := hide (below_grow (unhide HB6) (Nat.le_refl _) hb)
    clear hb
    go_wp2_with fail
    go_ret
    exact ⟨rfl, unhide HB7⟩
end Go.Proofs.Ytklkacmeopfmhaa
