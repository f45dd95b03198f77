/-
  The program's matrix: checkRows, Merge.
-/
import Derived.Test.YtbgpdiinkkgieaaP2
namespace Go.Proofs.Ytbgpdiinkkgieaa
open Go.RowKit

/-- Why the first rows can't be learnt. -/
def crE (n : Nat) (more : List (List Vc.D)) : Nat → Int
  | 0 => 0
  | i + 1 => if crE n more i ≠ 0 then crE n more i else mayE n i (more[i]?.getD [])
theorem crE_stuck (n : Nat) (more : List (List Vc.D)) {i : Nat} (h : crE n more i ≠ 0) : ∀ j, i ≤ j → crE n more j = crE n more i
  | 0, hj => by rw [show i = 0 by omega]
  | j + 1, hj => by
    by_cases e : i = j + 1
    · rw [e]
    · have ih := crE_stuck n more h j (by omega)
      rw [crE, ih, if_pos h]
theorem crE_ok {n : Nat} {more : List (List Vc.D)} {m : Nat} (h : crE n more m = 0) {i : Nat} (hi : i ≤ m) : crE n more i = 0 := by
  by_cases h0 : crE n more i = 0
  · exact h0
  · exact absurd ((crE_stuck n more h0 m hi).symm.trans h) h0
theorem learnL_err (rows : List (List Vc.D)) (peer : Int) (v : List Vc.D) : (learnL rows peer v).2 = mayE rows.length peer v := by
  unfold learnL
  split
  · rfl
  · rename_i h
    simpa using (Classical.not_not.1 h).symm
theorem mgN_err (rows more : List (List Vc.D)) : ∀ i, (mgN rows more i).2 = crE rows.length more i
  | 0 => rfl
  | i + 1 => by
    have ih := mgN_err rows more i
    have e : (learnL (mgN rows more i).1 (i : Int) (more[i]?.getD [])).2 = mayE rows.length i (more[i]?.getD []) := by rw [learnL_err, mgN_len]
    rw [mgN, crE, ih]
    split
    · exact ih
    · split
      · exact e
      · exact e
theorem mgN_same (rows more : List (List Vc.D)) : ∀ i, crE rows.length more i ≠ 0 → mgN rows more i = (rows, crE rows.length more i)
  | 0, h => absurd rfl h
  | i + 1, h => by
    have e : (learnL (mgN rows more i).1 (i : Int) (more[i]?.getD [])).2 = mayE rows.length i (more[i]?.getD []) := by rw [learnL_err, mgN_len]
    by_cases h0 : crE rows.length more i = 0
    · rw [crE, if_neg (by simpa using h0)] at h ⊢
      rw [mgN, if_neg (by rw [mgN_err]; simpa using h0), e, if_pos h]
    · have ih := mgN_same rows more i h0
      rw [mgN, crE, if_pos h0, mgN_err, if_pos h0, ih]
theorem mgN_next (rows more : List (List Vc.D)) {i : Nat} (h : crE rows.length more (i + 1) = 0) : mgN rows more (i + 1) = learnL (mgN rows more i).1 (i : Int) (more[i]?.getD []) := by
  have e : (learnL (mgN rows more i).1 (i : Int) (more[i]?.getD [])).2 = mayE rows.length i (more[i]?.getD []) := by rw [learnL_err, mgN_len]
  have h0 := crE_ok h (Nat.le_succ i)
  rw [crE, if_neg (by simpa using h0)] at h
  rw [mgN, if_neg (by rw [mgN_err]; simpa using h0), if_neg (by rw [e]; simpa using h)]
theorem beside_trans {own own' : Nat → Prop} {w w1 w2 : World} (h : Beside own w w1) (ho : ∀ g, own' g → own g ∨ w.heap.size ≤ g) (hb : Beside own' w1 w2) : Beside own w w2 :=
  ⟨hb.os.trans h.os, hb.tape.trans h.tape, hb.output.trans h.output, Nat.le_trans h.size hb.size, fun k hk hk2 => (hb.block k (Nat.lt_of_lt_of_le hk h.size) (fun h1 => (ho k h1).elim hk2 (fun h2 => by omega))).trans (h.block k hk hk2)⟩
theorem MatR.after {w W : World} {p : Addr} {rows : List (List Vc.D)} {own : Nat → Prop} (h : MatR w p rows own) (hW : Below w.heap.size w W) : MatR W p rows own := by
  obtain ⟨b, g, cap, ps, h⟩ := h
  exact ⟨b, g, cap, ps, h.keep hW.size fun x hx => hW.block x (h.lt x hx)⟩
def chkRows (rows more : List (List Vc.D)) : Int := if rows.length ≠ more.length then 2 else crE rows.length more rows.length

set_option maxRecDepth 100000 in
set_option maxHeartbeats 1000000 in
theorem checkRows_any {w : World} {p : Addr} {rows : List (List Vc.D)} {own : Nat → Prop} (h : MatR w p rows own) (r : Option Addr) (c : Nat) (more : List (List Vc.D)) (hf : FewR more) (hs : RL w r more) :
    Calls Try.prog 23 #[.pointer (some p), .slice r more.length c] w fun e w' => e = .returned (.int .i64 (chkRows rows more)) ∧ Below w.heap.size w w' := by
  have KP := hide fun W (hW : Below w.heap.size w W) => peers_still (h.after hW)
  have KC := hide fun W (hW : Below w.heap.size w W) (k : Nat) (q : Option Addr) (d : Nat) (v : List Vc.D) (hv : v.length ≤ 9223372036854775807) (hs : Sl W q v) => checkM_any (h.after hW) (k : Int) q d v hv hs
  have HS := hide hs
  have HF := hide hf
  have hl := hf.1
  have hlen : rows.length ≤ 64 := by obtain ⟨b, g, cap, ps, h⟩ := h; exact h.vecs.2.2
  obtain ⟨R, hR⟩ : ∃ R, chkRows rows more = R := ⟨_, rfl⟩
  rw [hR]
  unfold chkRows at hR
  clear h hs hf
  by_cases he : rows.length = more.length
  · rw [if_neg (by simpa using he)] at hR
    have hbe : ((more.length : Int) != (rows.length : Int)) = false := by simp [he]
    have HR := hide hR
    have HE := hide he
    clear hR he
    go_enter Try.func23, Try.ntmps23
    go_wp2_with fail
    refine (unhide KP _ (Below.refl _ _)).mono ?_
    rintro e w0 ⟨rfl, rfl⟩
    go_wp2_with fail
    refine (unhide KP _ (Below.refl _ _)).mono ?_
    rintro e w1 ⟨rfl, rfl⟩
    clear KP
    go_wp2_with fail
    go_loopw [5, 6, 16] (fun _ _ i wr => ∃ (k : Nat), k ≤ rows.length ∧ i = .int .i64 k ∧ Hid (crE rows.length more k = 0) ∧ Below w1.heap.size w1 wr) (fun _ _ i _ => rows.length - (intOf i).toNat)
    case atStart => exact ⟨0, Nat.zero_le _, rfl, hide rfl, Below.refl _ _⟩
    case round =>
      obtain ⟨k, hk, rfl, HK, hb⟩ := hrel
      have HB := hide hb
      have SM := (unhide HS).after hb
      clear hb
      by_cases hlt : k < rows.length
      · have hkz : decide ((k : Int) < (rows.length : Int)) = true := decide_eq_true (by omega)
        have hlt2 : k < more.length := by have := unhide HE; omega
        have hkm : (k : Int) < (more.length : Int) := by omega
        obtain ⟨v, hv⟩ : ∃ d, more[k]? = some d := ⟨_, List.getElem?_eq_getElem hlt2⟩
        obtain ⟨g, o, rfl, hg, hcell⟩ := SM (by omega)
        obtain ⟨q, d, x0, h5, h6⟩ := hcell k v hv
        have K := hide (unhide KC wr (unhide HB) k q d v ((unhide HF).at hv) h6)
        have HST : Hid (crE rows.length more (k + 1) = mayE rows.length k v) := hide (by rw [crE, if_neg (by simpa using unhide HK), hv]; rfl)
        generalize mayE rows.length (k : Int) v = X at K HST
        clear hcell hv hg h5 h6
        go_wp2_with fail
        refine (unhide K).mono ?_
        rintro e w2 ⟨rfl, hb2⟩
        have HB2 := hide (below_grow (unhide HB) (Nat.le_refl _) hb2)
        clear hb2 x0 K
        by_cases hX : X = 0
        · subst hX
          go_wp2_with fail
          go_roundw
          case rel => exact ⟨k + 1, by omega, by go_num, HST, unhide HB2⟩
          case measure => simp [intOf]; omega
        · have hXb : (X != 0) = true := bne_iff_ne.2 hX
          have HT : Hid (R = X) := hide (by rw [← unhide HR, crE_stuck rows.length more (i := k + 1) (by rw [unhide HST]; exact hX) rows.length (by omega), unhide HST])
          clear hX
          go_wp2_with fail
          go_ret
          exact ⟨ret_int (unhide HT).symm, unhide HB2⟩
      · obtain rfl : k = rows.length := by omega
        have hkz : decide ((rows.length : Int) < (rows.length : Int)) = false := decide_eq_false (by omega)
        have HT : Hid (R = 0) := hide ((unhide HR).symm.trans (unhide HK))
        go_wp2_with fail
        go_ret
        exact ⟨ret_int (unhide HT).symm, unhide HB⟩
  · rw [if_pos he] at hR
    subst hR
    have hbe : ((more.length : Int) != (rows.length : Int)) = true := by simp; omega
    clear he
    go_enter Try.func23, Try.ntmps23
    go_wp2_with fail
    refine (unhide KP _ (Below.refl _ _)).mono ?_
    rintro e w0 ⟨rfl, rfl⟩
    clear KP
    go_wp2_with fail
    go_ret
    exact ⟨rfl, Below.refl _ _⟩

set_option maxRecDepth 100000 in
theorem nCheckRows_any (r : Option Addr) (n c : Nat) (w : World) : Calls Try.prog 23 #[.pointer none, .slice r n c] w fun e w' => e = .returned (.int .i64 13) ∧ w' = w := by
  go_enter Try.func23, Try.ntmps23
  go_wp2_with fail
  go_ret
  exact ⟨rfl, rfl⟩

set_option maxRecDepth 100000 in
theorem nMerge_any (r : Option Addr) (n c : Nat) (w : World) : Calls Try.prog 10 #[.pointer none, .slice r n c] w fun e w' => e = .returned (.int .i64 13) ∧ Below w.heap.size w w' := by
  go_enter Try.func10, Try.ntmps10
  go_wp2_with fail
  refine (nCheckRows_any _ _ _ _).mono ?_
  rintro e w1 ⟨rfl, rfl⟩
  go_wp2_with fail
  go_ret
  exact ⟨rfl, Below.refl _ _⟩

/-- A matrix on the way, of what was there nothing turned but what it owned. -/
def OnWay (own : Nat → Prop) (w : World) (p : Addr) (R : List (List Vc.D)) (W : World) : Prop := ∃ own', MatR W p R own' ∧ (∀ g, own' g → own g ∨ w.heap.size ≤ g) ∧ Beside own w W

set_option maxRecDepth 100000 in
set_option maxHeartbeats 1000000 in
theorem merge_any {w : World} {p : Addr} {rows : List (List Vc.D)} {own : Nat → Prop} (h : MatR w p rows own) (r : Option Addr) (c : Nat) (more : List (List Vc.D)) (hf : FewR more) (hs : RL w r more) (hp : RProv (fun g => ¬ own g) w r more) :
    Calls Try.prog 10 #[.pointer (some p), .slice r more.length c] w fun e w' => ∃ own', e = .returned (.int .i64 (mergeL rows more).2) ∧ MatR w' p (mergeL rows more).1 own' ∧ (∀ g, own' g → own g ∨ w.heap.size ≤ g) ∧ Beside own w w' := by
  have KC := hide (checkRows_any h r c more hf hs)
  have HW : Hid (∀ W, Below w.heap.size w W → OnWay own w p rows W) := hide (fun W hW => by
    obtain ⟨b, g', cap, ps, h⟩ := h
    exact ⟨own, ⟨b, g', cap, ps, h.keep hW.size fun x hx => hW.block x (h.lt x hx)⟩, fun g hg => .inl hg, beside_of hW⟩)
  have HS := hide hs
  have HP := hide hp
  have HF := hide hf
  have hl := hf.1
  have hlen : rows.length ≤ 64 := by obtain ⟨b, g, cap, ps, h⟩ := h; exact h.vecs.2.2
  obtain ⟨R, hR⟩ : ∃ R, mergeL rows more = R := ⟨_, rfl⟩
  rw [hR]
  unfold mergeL at hR
  obtain ⟨E, hE⟩ : ∃ E, chkRows rows more = E := ⟨_, rfl⟩
  rw [hE] at KC
  unfold chkRows at hE
  clear h hs hf hp
  by_cases hE0 : E = 0
  · have he : rows.length = more.length := by
      by_cases he : rows.length = more.length
      · exact he
      · rw [if_pos he, hE0] at hE; cases hE
    rw [if_neg (by simpa using he)] at hR hE
    subst hE0
    have HR := hide hR
    have HC := hide hE
    have HE := hide he
    clear hR hE he
    go_enter Try.func10, Try.ntmps10
    go_wp2_with fail
    refine (unhide KC).mono ?_
    rintro e w1 ⟨rfl, hb⟩
    have HW1 := hide (unhide HW w1 hb)
    have KP : Hid (Calls Try.prog 9 #[.pointer (some p)] w1 fun e w' => e = .returned (.int .i64 rows.length) ∧ w' = w1) := hide (by
      obtain ⟨own', hm, _⟩ := unhide HW1
      exact peers_still hm)
    clear hb KC HW
    go_wp2_with fail
    refine (unhide KP).mono ?_
    rintro e w2 ⟨rfl, rfl⟩
    clear KP
    go_wp2_with fail
    go_loopw [6, 15] (fun _ i wr => ∃ (k : Nat), k ≤ rows.length ∧ i = .int .i64 k ∧ OnWay own w p (mgN rows more k).1 wr) (fun _ i _ => rows.length - (intOf i).toNat)
    case atStart => exact ⟨0, Nat.zero_le _, rfl, unhide HW1⟩
    case round =>
      obtain ⟨k, hk, rfl, hw⟩ := hrel
      have HO := hide hw
      clear hw
      by_cases hlt : k < rows.length
      · have hkz : decide ((k : Int) < (rows.length : Int)) = true := decide_eq_true (by omega)
        have hlt2 : k < more.length := by have := unhide HE; omega
        have hkm : (k : Int) < (more.length : Int) := by omega
        obtain ⟨v, hv⟩ : ∃ d, more[k]? = some d := ⟨_, List.getElem?_eq_getElem hlt2⟩
        obtain ⟨own1, hm, ho, hbs⟩ := unhide HO
        obtain ⟨g, o, rfl, hg, hcell⟩ := (unhide HS).beside (unhide HP) hbs (by omega)
        obtain ⟨q, d, x0, h5, h6⟩ := hcell k v hv
        have K := hide (learn_any hm (k : Int) q d v ((unhide HF).at hv) h5 h6)
        have HST : Hid (mgN rows more (k + 1) = learnL (mgN rows more k).1 (k : Int) v) := hide (by rw [mgN_next rows more (crE_ok (unhide HC) (by omega)), hv]; rfl)
        have HO1 := hide ho
        have HBS := hide hbs
        generalize learnL (mgN rows more k).1 (k : Int) v = X at K HST
        clear hcell hv hg h5 h6 hm ho hbs
        go_wp2_with fail
        refine (unhide K).mono ?_
        rintro e w3 ⟨own2, rfl, hm2, ho2, hb2⟩
        have HW3 : Hid (OnWay own w p X.1 w3) := hide ⟨own2, hm2, fun g hg => (ho2 g hg).elim (unhide HO1 g) (fun h => .inr (Nat.le_trans (unhide HBS).size h)), beside_trans (unhide HBS) (unhide HO1) hb2⟩
        clear hm2 ho2 hb2 x0 K
        go_wp2_with fail
        go_roundw
        case rel => exact ⟨k + 1, by omega, by go_num, by rw [unhide HST]; exact unhide HW3⟩
        case measure => simp [intOf]; omega
      · obtain rfl : k = rows.length := by omega
        have hkz : decide ((rows.length : Int) < (rows.length : Int)) = false := decide_eq_false (by omega)
        have HT : Hid (R.2 = 0 ∧ R.1 = (mgN rows more rows.length).1) := hide ⟨by rw [← unhide HR, mgN_err]; exact unhide HC, by rw [← unhide HR]⟩
        go_wp2_with fail
        go_ret
        obtain ⟨own1, hm, ho, hbs⟩ := unhide HO
        exact ⟨own1, ret_int (unhide HT).1.symm, by rw [(unhide HT).2]; exact hm, ho, hbs⟩
  · have hEb : (E != 0) = true := bne_iff_ne.2 hE0
    have HT : Hid (R = (rows, E)) := hide (by
      by_cases he : rows.length = more.length
      · rw [if_neg (by simpa using he)] at hR hE
        rw [← hR, mgN_same rows more rows.length (by rw [hE]; exact hE0), hE]
      · rw [if_pos he] at hR hE
        rw [← hR, ← hE])
    clear hR hE hE0
    go_enter Try.func10, Try.ntmps10
    go_wp2_with fail
    refine (unhide KC).mono ?_
    rintro e w1 ⟨rfl, hb⟩
    have HW1 := hide (unhide HW w1 hb)
    clear hb KC HW
    go_wp2_with fail
    go_ret
    obtain ⟨own1, hm, ho, hbs⟩ := unhide HW1
    rw [unhide HT]
    exact ⟨own1, rfl, hm, ho, hbs⟩
end Go.Proofs.Ytbgpdiinkkgieaa
