/-
  What is written and what is deleted: the program's.
-/
import Derived.Test.YtbghekolfcakeaaP3
import Derived.Test.YtbghekolfcakeaaRefWrites
namespace Go.Proofs.Ytbghekolfcakeaa
open Go.RowKit

theorem prov_one {O : Nat → Prop} {W : World} {D T : Nat} {v : Vc.V} {r : Option Addr} {c : Nat} (h : VRow W D T (verL v r c)) (hD : O D) (hr : ∀ ad, r = some ad → 0 < v.past.length → O ad.block) : Prov O W (some ⟨D, 0, none⟩) [v] := fun _ g o e => by
  injection e with e
  injection e with e1 e2
  subst e1
  subst e2
  refine ⟨hD, fun j u q d hj hc ad ead h0 => ?_⟩
  have hj0 : j = 0 := by have := (List.getElem?_eq_some_iff.1 hj).1; simp at this; omega
  subst hj0
  simp at hj
  subst hj
  have h2 := h.cell 2 _ rfl
  rw [show (0 : Nat) + 0 * 5 + 2 = 2 from rfl, h2] at hc
  injection hc with hc
  injection hc with hc _ _
  subst hc
  exact hr ad ead h0
def chgE (vs : List Vc.V) (d : Vc.D) : Int := if Vc.checkLeaf vs ≠ 0 then Vc.checkLeaf vs else Vc.dotErr d

set_option maxRecDepth 100000 in
set_option maxHeartbeats 600000 in
theorem checkChange_any (a : Option Addr) (cap : Nat) (vs : List Vc.V) (hf : Few vs) (p n : Int) (w : World) (h : SV w a vs) :
    Calls Try.prog 49 #[.slice a vs.length cap, .agg #[.int .i64 p, .int .i64 n]] w fun e w' => e = .returned (.int .i64 (chgE vs (p, n))) ∧ Below w.heap.size w w' := by
  have HB := hide (below_alloc' (w := w) (.cells #[.int .i64 p, .int .i64 n] 24))
  have RD := hide (VRow.new w 24 [.int .i64 p, .int .i64 n])
  have S := hide (h.after (unhide HB))
  have KC := hide fun W h => checkLeaf_any a cap vs hf W h
  have KD := hide fun W => checkDot_any p n W
  obtain ⟨R, hR⟩ : ∃ R, chgE vs (p, n) = R := ⟨_, rfl⟩
  rw [hR]
  unfold chgE at hR
  have hl := hf.1
  generalize Vc.checkLeaf vs = X at KC hR
  generalize Vc.dotErr (p, n) = Y at KD hR
  clear h hf
  go_enter Try.func49, Try.ntmps49
  go_wp2_with fail
  generalize w.alloc (.cells #[.int .i64 p, .int .i64 n] 24) = w0 at HB RD S ⊢
  refine (unhide KC _ (unhide S)).mono ?_
  rintro e w1 ⟨rfl, hb⟩
  replace HB := hide (below_grow (unhide HB) (Nat.le_refl _) hb)
  replace RD := hide ((unhide RD).after hb)
  clear hb S
  by_cases hX : X = 0
  · subst hX
    rw [if_neg (by simp)] at hR
    subst hR
    have d0 := (unhide RD).cell 0 _ rfl
    have d1 := (unhide RD).cell 1 _ rfl
    go_wp2_with fail
    refine (unhide KD _).mono ?_
    rintro e w2 ⟨rfl, hb⟩
    replace HB := hide (below_grow (unhide HB) (Nat.le_refl _) hb)
    clear hb d0 d1
    go_wp2_with fail
    go_ret
    exact ⟨rfl, unhide HB⟩
  · rw [if_pos hX] at hR
    subst hR
    have hXb : (X != 0) = true := bne_iff_ne.2 hX
    clear hX
    go_wp2_with fail
    go_ret
    exact ⟨rfl, unhide HB⟩

set_option maxRecDepth 100000 in
set_option maxHeartbeats 1000000 in
theorem over_any (O : Nat → Prop) (a : Option Addr) (cap : Nat) (vs : List Vc.V) (hf : Few vs) (p n : Int) (dead : Bool) (data : ByteArray) (w : World) (hO : ∀ g, w.heap.size ≤ g → O g) (h : SV w a vs) :
    Calls Try.prog 50 #[.slice a vs.length cap, .agg #[.int .i64 p, .int .i64 n, .slice none 0 0, .bool dead, .string data]] w (MadeVE O w (Vc.overF vs (p, n) dead data)) := by
  have HOO := hide hO
  have HB := hide (below_alloc' (w := w) (.cells #[.int .i64 p, .int .i64 n, .slice none 0 0, .bool dead, .string data] 27))
  have RD := hide (VRow.new w 27 [.int .i64 p, .int .i64 n, .slice none 0 0, .bool dead, .string data])
  have S := hide (h.after (unhide HB))
  have KC := hide fun W h => cover_any a cap vs hf W h
  have h64 := Vc.coverL_len vs
  have KH := hide fun r c W h => has_any r c (Vc.coverL vs) (by omega) p n W h
  rw [show has (Vc.coverL vs) (p, n) = Vc.hasV (Vc.coverL vs) (p, n) from rfl] at KH
  obtain ⟨R, hR⟩ : ∃ R, Vc.overF vs (p, n) dead data = R := ⟨_, rfl⟩
  rw [hR]
  unfold Vc.overF at hR
  have hl := hf.1
  generalize Vc.coverL vs = C at KC KH hR h64
  generalize Vc.hasV C (p, n) = X at KH hR
  clear h hf hO
  go_enter Try.func50, Try.ntmps50
  go_wp2_with fail
  have HLT : Hid (w.heap.size < (w.alloc (.cells #[.int .i64 p, .int .i64 n, .slice none 0 0, .bool dead, .string data] 27)).heap.size) := hide (lt_new _ _)
  generalize w.alloc (.cells #[.int .i64 p, .int .i64 n, .slice none 0 0, .bool dead, .string data] 27) = w0 at HB RD S HLT ⊢
  refine (unhide KC _ (unhide S)).mono ?_
  rintro e w1 ⟨r1, c1, rfl, hc1, hs1, hb, hf1⟩
  replace HB := hide (below_grow (unhide HB) (Nat.le_refl _) hb)
  replace RD := hide ((unhide RD).after hb)
  have HNE : Hid (∀ ad, r1 = some ad → 0 < C.length → w.heap.size < ad.block) := hide (fun ad e h0 => Nat.lt_of_lt_of_le (unhide HLT) (hf1 ad e h0))
  have RW := hide ((unhide RD).set 2 (.slice r1 C.length c1))
  have HBW := hide (below_set (unhide HB) (Nat.le_refl _) 2 (.slice r1 C.length c1))
  have SW := hide (hs1.onlyNe (only_set w1 w.heap.size 2 (.slice r1 C.length c1)) (fun ad e h0 => by have := unhide HNE ad e h0; omega))
  have HC1 := hide hc1
  have y2 := (unhide RD).cell 2 _ rfl
  have f2 := (unhide RD).frozen 2
  have t0 := (unhide RW).cell 0 _ rfl
  have t1 := (unhide RW).cell 1 _ rfl
  have t2 := (unhide RW).cell 2 _ rfl
  clear hb hs1 S hf1 hc1
  go_wp2_with fail
  clear y2 f2 t0 t1 t2
  rw [show ([Value.int .i64 p, .int .i64 n, .slice none 0 0, .bool dead, .string data].set 2 (.slice r1 C.length c1)) = [.int .i64 p, .int .i64 n, .slice r1 C.length c1, .bool dead, .string data] from rfl] at RW
  generalize w1.setCell ⟨w.heap.size, 2, none⟩ (.slice r1 C.length c1) = wd at RW HBW SW ⊢
  refine (unhide KH r1 c1 _ (unhide SW)).mono ?_
  rintro e w2 ⟨rfl, hb⟩
  replace HBW := hide (below_grow (unhide HBW) (Nat.le_refl _) hb)
  replace RW := hide ((unhide RW).after hb)
  replace SW := hide ((unhide SW).after hb)
  clear hb
  have d0 := (unhide RW).cell 0 _ rfl
  have d1 := (unhide RW).cell 1 _ rfl
  have d2 := (unhide RW).cell 2 _ rfl
  have d3 := (unhide RW).cell 3 _ rfl
  have d4 := (unhide RW).cell 4 _ rfl
  cases X with
  | true =>
    rw [if_pos rfl] at hR
    subst hR
    go_wp2_with fail
    go_ret2
    exact ⟨none, 0, rfl, Nat.le_refl _, SV.none _ _, Prov.none _ _ _, unhide HBW⟩
  | false =>
    rw [if_neg (by simp)] at hR
    subst hR
    go_wp2_with fail
    go_ret2
    have hr := VRow.new w2 27 (verL ⟨(p, n), C, dead, data⟩ r1 c1)
    exact ⟨some ⟨w2.heap.size, 0, none⟩, 1, rfl, Nat.le_refl _, one_sv hr (unhide HC1) ((unhide SW).after (below_alloc' _)), prov_one hr (unhide HOO _ (unhide HBW).size) (fun ad e h0 => unhide HOO _ (Nat.le_of_lt (unhide HNE ad e h0))), (unhide HBW).alloc (unhide HBW).size _⟩

theorem write_ce (vs : List Vc.V) (d : Vc.D) (data : ByteArray) : Vc.writeF vs d data = if chgE vs d ≠ 0 then ([], chgE vs d) else if 48 < data.size then ([], 2) else Vc.overF vs d false data := by
  unfold Vc.writeF chgE
  by_cases h : Vc.checkLeaf vs = 0
  · simp [h]
  · simp [h]
theorem erase_ce (vs : List Vc.V) (d : Vc.D) : Vc.eraseF vs d = if chgE vs d ≠ 0 then ([], chgE vs d) else if (Vc.live vs).length = 0 then ([], 3) else Vc.overF vs d true ⟨#[]⟩ := by
  unfold Vc.eraseF chgE
  by_cases h : Vc.checkLeaf vs = 0
  · simp [h]
  · simp [h]
theorem chg_leaf {vs : List Vc.V} {d : Vc.D} (h : chgE vs d = 0) : Vc.LeafOk vs := by
  unfold chgE at h
  by_cases h1 : Vc.checkLeaf vs = 0
  · exact (Vc.checkLeaf_zero vs).1 h1
  · rw [if_pos h1] at h; exact absurd h h1
theorem leaf_small {vs : List Vc.V} (h : Vc.LeafOk vs) : ∀ v ∈ vs, v.past.length ≤ 100000 := fun v hv => by have := Vc.vec_len (h.up.mem hv).1.past; omega

set_option maxRecDepth 100000 in
set_option maxHeartbeats 1000000 in
theorem write_any (O : Nat → Prop) (a : Option Addr) (cap : Nat) (vs : List Vc.V) (hf : Few vs) (p n : Int) (data : ByteArray) (w : World) (hO : ∀ g, w.heap.size ≤ g → O g) (h : SV w a vs) :
    Calls Try.prog 20 #[.slice a vs.length cap, .agg #[.int .i64 p, .int .i64 n], .string data] w (MadeVE O w (Vc.writeF vs (p, n) data)) := by
  have HOO := hide hO
  have HB := hide (below_alloc' (w := w) (.cells #[.int .i64 p, .int .i64 n] 24))
  have RD := hide (VRow.new w 24 [.int .i64 p, .int .i64 n])
  have S := hide (h.after (unhide HB))
  have KC := hide fun W h => checkChange_any a cap vs hf p n W h
  have KO := hide fun W hW h => over_any O a cap vs hf p n false data W hW h
  obtain ⟨R, hR⟩ : ∃ R, Vc.writeF vs (p, n) data = R := ⟨_, rfl⟩
  rw [hR]
  rw [write_ce] at hR
  have hl := hf.1
  generalize chgE vs (p, n) = X at KC hR
  generalize Vc.overF vs (p, n) false data = Z at KO hR
  clear h hf hO
  have d0 := (unhide RD).cell 0 _ rfl
  have d1 := (unhide RD).cell 1 _ rfl
  go_enter Try.func20, Try.ntmps20
  go_wp2_with fail
  clear d0 d1
  generalize w.alloc (.cells #[.int .i64 p, .int .i64 n] 24) = w0 at HB RD S ⊢
  refine (unhide KC _ (unhide S)).mono ?_
  rintro e w1 ⟨rfl, hb⟩
  replace HB := hide (below_grow (unhide HB) (Nat.le_refl _) hb)
  replace RD := hide ((unhide RD).after hb)
  replace S := hide ((unhide S).after hb)
  clear hb
  by_cases hX : X = 0
  · subst hX
    rw [if_neg (by simp)] at hR
    obtain ⟨m, hm⟩ : ∃ m, data.size = m := ⟨_, rfl⟩
    rw [hm] at hR
    by_cases h48 : 48 < m
    · have hd : decide ((48 : Int) < (m : Int)) = true := decide_eq_true (by omega)
      rw [if_pos h48] at hR
      subst hR
      go_wp2_with fail
      go_ret2
      exact ⟨none, 0, rfl, Nat.le_refl _, SV.none _ _, Prov.none _ _ _, unhide HB⟩
    · have hd : decide ((48 : Int) < (m : Int)) = false := decide_eq_false (by omega)
      rw [if_neg h48] at hR
      subst hR
      have d0 := (unhide RD).cell 0 _ rfl
      have d1 := (unhide RD).cell 1 _ rfl
      go_wp2_with fail
      refine (unhide KO _ (fun g hg => unhide HOO g (Nat.le_trans (unhide HB).size hg)) (unhide S)).mono ?_
      rintro e w2 ⟨r, c, rfl, h1, h2, h3, h4⟩
      replace HB := hide (below_grow (unhide HB) (Nat.le_refl _) h4)
      have H1 := hide h1
      have H2 := hide h2
      have H3 := hide h3
      clear h1 h2 h3 h4 d0 d1
      go_wp2_with fail
      go_ret2
      exact ⟨r, c, rfl, unhide H1, unhide H2, unhide H3, unhide HB⟩
  · rw [if_pos hX] at hR
    subst hR
    have hXb : (X != 0) = true := bne_iff_ne.2 hX
    clear hX
    go_wp2_with fail
    go_ret2
    exact ⟨none, 0, rfl, Nat.le_refl _, SV.none _ _, Prov.none _ _ _, unhide HB⟩

set_option maxRecDepth 100000 in
set_option maxHeartbeats 1000000 in
theorem erase_any (O : Nat → Prop) (a : Option Addr) (cap : Nat) (vs : List Vc.V) (hf : Few vs) (p n : Int) (w : World) (hO : ∀ g, w.heap.size ≤ g → O g) (h : SV w a vs) :
    Calls Try.prog 22 #[.slice a vs.length cap, .agg #[.int .i64 p, .int .i64 n]] w (MadeVE O w (Vc.eraseF vs (p, n))) := by
  have HOO := hide hO
  have HB := hide (below_alloc' (w := w) (.cells #[.int .i64 p, .int .i64 n] 24))
  have RD := hide (VRow.new w 24 [.int .i64 p, .int .i64 n])
  have S := hide (h.after (unhide HB))
  have KC := hide fun W h => checkChange_any a cap vs hf p n W h
  have KO := hide fun W hW h => over_any O a cap vs hf p n true ⟨#[]⟩ W hW h
  have hl := hf.1
  have KL := hide fun hz W h => live_any All a cap vs hl (leaf_small (chg_leaf (d := (p, n)) hz)) W (fun _ _ => trivial) h
  obtain ⟨R, hR⟩ : ∃ R, Vc.eraseF vs (p, n) = R := ⟨_, rfl⟩
  rw [hR]
  rw [erase_ce] at hR
  generalize chgE vs (p, n) = X at KC hR KL
  generalize Vc.overF vs (p, n) true ⟨#[]⟩ = Z at KO hR
  generalize Vc.live vs = LV at KL hR
  clear h hf hO
  have d0 := (unhide RD).cell 0 _ rfl
  have d1 := (unhide RD).cell 1 _ rfl
  go_enter Try.func22, Try.ntmps22
  go_wp2_with fail
  clear d0 d1
  generalize w.alloc (.cells #[.int .i64 p, .int .i64 n] 24) = w0 at HB RD S ⊢
  refine (unhide KC _ (unhide S)).mono ?_
  rintro e w1 ⟨rfl, hb⟩
  replace HB := hide (below_grow (unhide HB) (Nat.le_refl _) hb)
  replace RD := hide ((unhide RD).after hb)
  replace S := hide ((unhide S).after hb)
  clear hb
  by_cases hX : X = 0
  · subst hX
    rw [if_neg (by simp)] at hR
    go_wp2_with fail
    refine (unhide KL (by simp) _ (unhide S)).mono ?_
    rintro e w2 ⟨r0, c0, rfl, _, _, _, hb⟩
    replace HB := hide (below_grow (unhide HB) (Nat.le_refl _) hb)
    replace RD := hide ((unhide RD).after hb)
    replace S := hide ((unhide S).after hb)
    clear hb KL
    by_cases h0 : LV.length = 0
    · rw [if_pos h0] at hR
      subst hR
      rw [h0]
      go_wp2_with fail
      go_ret2
      exact ⟨none, 0, rfl, Nat.le_refl _, SV.none _ _, Prov.none _ _ _, unhide HB⟩
    · rw [if_neg h0] at hR
      subst hR
      generalize LV.length = m at h0 ⊢
      have hd : ((m : Int) == 0) = false := by simp; omega
      have d0 := (unhide RD).cell 0 _ rfl
      have d1 := (unhide RD).cell 1 _ rfl
      go_wp2_with fail
      refine (unhide KO _ (fun g hg => unhide HOO g (Nat.le_trans (unhide HB).size hg)) (unhide S)).mono ?_
      rintro e w3 ⟨r, c, rfl, h1, h2, h3, h4⟩
      replace HB := hide (below_grow (unhide HB) (Nat.le_refl _) h4)
      have H1 := hide h1
      have H2 := hide h2
      have H3 := hide h3
      clear h1 h2 h3 h4 d0 d1
      go_wp2_with fail
      go_ret2
      exact ⟨r, c, rfl, unhide H1, unhide H2, unhide H3, unhide HB⟩
  · rw [if_pos hX] at hR
    subst hR
    have hXb : (X != 0) = true := bne_iff_ne.2 hX
    clear hX
    go_wp2_with fail
    go_ret2
    exact ⟨none, 0, rfl, Nat.le_refl _, SV.none _ _, Prov.none _ _ _, unhide HB⟩
end Go.Proofs.Ytbghekolfcakeaa
