/-
  Whether a version is covered by one of a list, and why a leaf may not be: the document's.
-/
import Derived.Test.YtebjlmnhpfoglaaGreatDoorB08
import Derived.Lib.Strings
import Derived.Test.YtebjlmnhpfoglaaGreatDoorB05
import Derived.Test.YtebjlmnhpfoglaaGreatDoorB03
import Derived.ProofKit
import Derived.OpenShut
import Derived.Deep.SlicePairs
import Derived.Lib.SmallJoins
namespace Go.Proofs.YtebjlmnhpfoglaaGreatDoor
open Go.RowKit

theorem covered_snoc {vs : List Vc.V} {k : Nat} {u : Vc.V} (h : vs[k]? = some u) {v : Vc.V} (hall : ∀ x ∈ vs.take k, Vc.covers x v = false) (hu : Vc.covers u v = false) : ∀ x ∈ vs.take (k + 1), Vc.covers x v = false := fun x hx => by
  rw [take_snocA h] at hx
  rcases List.mem_append.1 hx with hx | hx
  · exact hall x hx
  · rw [List.mem_singleton.1 hx]; exact hu

set_option maxRecDepth 100000 in
set_option maxHeartbeats 1000000 in
theorem refCovered_any (a : Option Addr) (cap : Nat) (vs : List Vc.V) (hf : Few vs) (v : Vc.V) (r : Option Addr) (c : Nat) (w : World) (h : SV w a vs) :
    Calls Tryz.prog 74 #[.slice a vs.length cap, .agg (verL v r c).toArray] w fun e w' => e = .returned (.bool (Vc.covered vs v)) ∧ Below w.heap.size w w' := by
  have HB := hide (below_alloc' (w := w) (.cells (verL v r c).toArray 64))
  have RS := hide (VRow.new w 64 (verL v r c))
  have S := hide (h.after (unhide HB))
  have HF := hide hf
  have hl := hf.1
  obtain ⟨R, hR⟩ : ∃ R, Vc.covered vs v = R := ⟨_, rfl⟩
  rw [hR]
  have HR := hide hR
  clear h hf hR
  unfold verL at RS ⊢
  go_enter Tryz.func74, Tryz.ntmps74
  go_wp2_with fail
  unfold verL at *
  generalize w.alloc (.cells _ 64) = w0 at HB RS S ⊢
  go_loopw [5] (fun i wr => ∃ k : Nat, k ≤ vs.length ∧ i = .int .i64 k ∧ (∀ x ∈ vs.take k, Vc.covers x v = false) ∧ Below w0.heap.size w0 wr) (fun i _ => vs.length - (intOf i).toNat)
  case atStart => exact ⟨0, Nat.zero_le _, rfl, fun x hx => (by simp at hx), Below.refl _ _⟩
  case round =>
    obtain ⟨k, hk, rfl, hall, hb⟩ := hrel
    have HALL := hide hall
    have HB2 := hide (below_grow (unhide HB) (Nat.le_refl _) hb)
    have RS2 := (unhide RS).after hb
    have S2 := (unhide S).after hb
    have HBL := hide hb
    have b0 := cell_regrown (RS2.cell 0 _ rfl)
    have b1 := cell_regrown (RS2.cell 1 _ rfl)
    have b2 := cell_regrown (RS2.cell 2 _ rfl)
    have b3 := cell_regrown (RS2.cell 3 _ rfl)
    have b4 := cell_regrown (RS2.cell 4 _ rfl)
    clear hall hb RS2
    by_cases hlt : k < vs.length
    · obtain ⟨u, hx⟩ : ∃ d, vs[k]? = some d := ⟨_, List.getElem?_eq_getElem hlt⟩
      obtain ⟨g, o, rfl, hg, hcell⟩ := S2 (by omega)
      obtain ⟨q, d, h0, h1, h2, h3, h4, h5, h6⟩ := hcell k u hx
      have x0 := cell_regrown h0
      have x1 := cell_regrown h1
      have x2 := cell_regrown h2
      have x3 := cell_regrown h3
      have x4 := cell_regrown h4
      have H6 := hide h6
      have K := hide fun W h => refCovers_any u v q r d c ((unhide HF).at hx) W h
      unfold verL at K
      by_cases hc : Vc.covers u v = true
      · have HT : R = true := by
          rw [← unhide HR]
          exact List.any_eq_true.2 ⟨u, List.mem_of_getElem? hx, hc⟩
        subst HT
        rw [hc] at K
        clear hcell hx hc h0 h1 h2 h3 h4 h5 h6 HR
        go_wp2_with fail
        refine wp_region_quiet_below (by kernel_rfl) (by kernel_rfl) ?_
        repeat (quiet_step (first | (go_at_call 106; exact Calls.regrown_of (unhide K _ ((unhide H6).after (below_regrown _ _ _))))))
        refine wpQuiet_nil ?_
        intro _ hw'
        obtain ⟨⟨dq, osq⟩, hw''⟩ := hw'
        subst hw''
        go_wp2_with fail
        go_ret
        exact ⟨rfl, below_grow (unhide HB2) (Nat.le_refl _) (below_regrown _ _ _)⟩
      · rw [Bool.not_eq_true] at hc
        rw [hc] at K
        have HALL2 := hide (covered_snoc hx (unhide HALL) hc)
        clear hcell hx hc h0 h1 h2 h3 h4 h5 h6
        go_wp2_with fail
        refine wp_region_quiet_below (by kernel_rfl) (by kernel_rfl) ?_
        repeat (quiet_step (first | (go_at_call 106; exact Calls.regrown_of (unhide K _ ((unhide H6).after (below_regrown _ _ _))))))
        refine wpQuiet_nil ?_
        intro _ hw'
        obtain ⟨⟨dq, osq⟩, hw''⟩ := hw'
        subst hw''
        go_wp2_with fail
        go_roundw
        case rel => exact ⟨k + 1, by omega, by go_num, unhide HALL2, below_grow (unhide HBL) (Nat.le_refl _) (below_regrown _ _ _)⟩
        case measure => simp [intOf]; omega
    · obtain rfl : k = vs.length := by omega
      have HT : R = false := by
        rw [← unhide HR]
        exact (Vc.covered_no vs v).2 fun x hx => unhide HALL x (by rw [List.take_length]; exact hx)
      subst HT
      go_wp2_with fail
      go_ret
      exact ⟨rfl, unhide HB2⟩
end Go.Proofs.YtebjlmnhpfoglaaGreatDoor

/-
  Why a leaf may not be: the document's.
-/

namespace Go.Proofs.YtebjlmnhpfoglaaGreatDoor
open Go.RowKit

def prevQ (vs : List Vc.V) : Nat → Int
  | 0 => -1
  | k + 1 => ((vs[k]?).map fun v => v.dot.1).getD (-1)
theorem prevQ_at (vs : List Vc.V) (k : Nat) (v : Vc.V) (h : vs[k]? = some v) : prevQ vs (k + 1) = v.dot.1 := by simp [prevQ, h]
theorem chkL_step (vs : List Vc.V) (k : Nat) (v : Vc.V) (h : vs[k]? = some v) : Vc.chkL (prevQ vs k) (vs.drop k) = if Vc.chkV v ≠ 0 then Vc.chkV v else if v.dot.1 ≤ prevQ vs k then 8 else Vc.chkL (prevQ vs (k + 1)) (vs.drop (k + 1)) := by
  have hk := (List.getElem?_eq_some_iff.1 h).1
  rw [prevQ_at vs k v h, List.drop_eq_getElem_cons hk, (List.getElem?_eq_some_iff.1 h).2]
  rfl
theorem chkL_end (vs : List Vc.V) (q : Int) : Vc.chkL q (vs.drop vs.length) = 0 := by rw [List.drop_length]; rfl
theorem leaf_long {vs : List Vc.V} (h : 64 < vs.length) : Vc.checkLeaf vs = 2 := if_pos h
theorem leaf_bad {vs : List Vc.V} (h : ¬ 64 < vs.length) (h2 : Vc.chkL (-1) vs ≠ 0) : Vc.checkLeaf vs = Vc.chkL (-1) vs := by unfold Vc.checkLeaf; rw [if_neg h, if_pos h2]
theorem leaf_cov {vs : List Vc.V} (h : ¬ 64 < vs.length) (h2 : Vc.chkL (-1) vs = 0) {v : Vc.V} (hv : v ∈ vs) (hc : Vc.covered vs v = true) : Vc.checkLeaf vs = 7 := by
  unfold Vc.checkLeaf
  rw [if_neg h, if_neg (by simpa using h2), if_pos (List.any_eq_true.2 ⟨v, hv, hc⟩)]
theorem leaf_fine {vs : List Vc.V} (h : ¬ 64 < vs.length) (h2 : Vc.chkL (-1) vs = 0) (hc : ∀ v ∈ vs, Vc.covered vs v = false) : Vc.checkLeaf vs = 0 := by
  unfold Vc.checkLeaf
  rw [if_neg h, if_neg (by simpa using h2), if_neg]
  intro ha
  obtain ⟨v, hv, h3⟩ := List.any_eq_true.1 ha
  rw [hc v hv] at h3
  cases h3
theorem free_snoc {vs : List Vc.V} {k : Nat} {u : Vc.V} (h : vs[k]? = some u) (hall : ∀ x ∈ vs.take k, Vc.covered vs x = false) (hu : Vc.covered vs u = false) : ∀ x ∈ vs.take (k + 1), Vc.covered vs x = false := fun x hx => by
  rw [take_snocA h] at hx
  rcases List.mem_append.1 hx with hx | hx
  · exact hall x hx
  · rw [List.mem_singleton.1 hx]; exact hu

set_option maxRecDepth 100000 in
set_option maxHeartbeats 2000000 in
theorem refCheckLeaf_any (a : Option Addr) (cap : Nat) (vs : List Vc.V) (hf : Few vs) (w : World) (h : SV w a vs) :
    Calls Tryz.prog 42 #[.slice a vs.length cap] w fun e w' => e = .returned (.int .i64 (Vc.checkLeaf vs)) ∧ Below w.heap.size w w' := by
  have HS := hide h
  have HF := hide hf
  have hl := hf.1
  clear h hf
  by_cases h64 : 64 < vs.length
  · rw [leaf_long h64]
    have hd : decide ((64 : Int) < (vs.length : Int)) = true := decide_eq_true (by omega)
    go_enter Tryz.func42, Tryz.ntmps42
    go_wp2_with fail
    go_ret
    exact ⟨rfl, Below.refl _ _⟩
  · have hd : decide ((64 : Int) < (vs.length : Int)) = false := decide_eq_false (by omega)
    have HBAD := hide fun h2 => leaf_bad h64 h2
    have HCOV := hide fun h2 v hv hc => leaf_cov h64 h2 (v := v) hv hc
    have HFINE := hide fun h2 hc => leaf_fine h64 h2 hc
    have HC := hide (show Vc.chkL (-1) vs = Vc.chkL (prevQ vs 0) (vs.drop 0) from rfl)
    obtain ⟨C, hC⟩ : ∃ C, Vc.chkL (-1) vs = C := ⟨_, rfl⟩
    obtain ⟨R, hR⟩ : ∃ R, Vc.checkLeaf vs = R := ⟨_, rfl⟩
    rw [hC] at HC HBAD HCOV HFINE
    rw [hR] at HBAD HCOV HFINE ⊢
    have KC := hide fun v r c W h => refCovered_any a cap vs (unhide HF) v r c W h
    clear hC hR
    go_enter Tryz.func42, Tryz.ntmps42
    go_wp2_with fail
    go_loopw [3] (fun i wr => ∃ k : Nat, k ≤ vs.length ∧ i = .int .i64 k ∧ C = Vc.chkL (prevQ vs k) (vs.drop k) ∧ Below w.heap.size w wr) (fun i _ => vs.length - (intOf i).toNat)
    case atStart => exact ⟨0, Nat.zero_le _, rfl, unhide HC, Below.refl _ _⟩
    case round =>
      obtain ⟨k, hk, rfl, hc, hb⟩ := hrel
      have HC1 := hide hc
      have HB := hide hb
      have S := hide ((unhide HS).after hb)
      clear hc hb HC
      by_cases hlt : k < vs.length
      · obtain ⟨v, hx⟩ : ∃ d, vs[k]? = some d := ⟨_, List.getElem?_eq_getElem hlt⟩
        obtain ⟨g, o, rfl, hg, hcell⟩ := unhide S (by omega)
        obtain ⟨q, d, x0, x1, x2, x3, x4, h5, h6⟩ := hcell k v hx
        have HG := hide hg
        have HCell := hide hcell
        have HX := hide hx
        have KV := hide fun W h => refCheckV_any v q d ((unhide HF).at hx) W h
        have HST := hide (chkL_step vs k v hx)
        have H6 := hide h6
        unfold verL at KV
        clear hx hg hcell h5 h6
        by_cases he : Vc.chkV v = 0
        · have hok := ((Vc.chkV_zero v).1 he).dot
          rw [he] at KV
          rw [if_neg (by simpa using he)] at HST
          have hp0 : 0 ≤ v.dot.1 := hok.1
          clear he hok
          by_cases hk0 : 0 < k
          · obtain ⟨m, hm⟩ : ∃ m, k = m + 1 := ⟨k - 1, by omega⟩
            obtain ⟨u, hu⟩ : ∃ d, vs[m]? = some d := ⟨_, List.getElem?_eq_getElem (by omega)⟩
            have e' : prevQ vs k = u.dot.1 := by rw [hm]; exact prevQ_at vs m _ hu
            rw [e'] at HST HC1
            obtain ⟨q', d', y0, _, _, _, _, _, _⟩ := unhide HCell m u hu
            have HM := hide y0
            have HK := hide x0
            have hmi : (k : Int) - 1 = (m : Int) := by omega
            have hmw : IntKind.i64.wrap ((k : Int) - 1) = (m : Int) := by rw [hmi]; exact wrap_small (by omega) (by omega)
            have hml : m < vs.length := by omega
            have hgi : (0 : Int) < (k : Int) := by omega
            have HMK : Hid (k = m + 1) := hm
            clear hu hm e' y0
            generalize u.dot.1 = p' at HST HC1 HM
            generalize hvp : v.dot.1 = p at *
            clear hvp
            by_cases hle : p ≤ p'
            · have HNX : Hid (R = 8) := by
                have h := unhide HST
                rw [if_pos hle] at h
                have h8 : C = 8 := (unhide HC1).trans h
                exact hide ((unhide HBAD (by rw [h8]; decide)).trans h8)
              go_wp2_with (go_at_call 73; refine (unhide KV _ (unhide H6)).mono ?_; rintro e w2 ⟨rfl, hb2⟩; have HB2 := hide (below_grow (unhide HB) (Nat.le_refl _) hb2); have c2 := (hb2.cell (p := ⟨g, o + k * 5, none⟩) (unhide HG)).trans (unhide HK); have c3 := (hb2.cell (p := ⟨g, o + m * 5, none⟩) (unhide HG)).trans (unhide HM); clear hb2 x0 x1 x2 x3 x4)
              go_quiet (fail)
              go_wp2_with fail
              go_ret
              exact ⟨ret_int (unhide HNX).symm, below_drewN (unhide HB2) _⟩
            · have HNX : Hid (C = Vc.chkL (prevQ vs (k + 1)) (vs.drop (k + 1))) := by
                have h := unhide HST
                rw [if_neg hle] at h
                exact hide ((unhide HC1).trans h)
              go_wp2_with (go_at_call 73; refine (unhide KV _ (unhide H6)).mono ?_; rintro e w2 ⟨rfl, hb2⟩; have HB2 := hide (below_grow (unhide HB) (Nat.le_refl _) hb2); have c2 := (hb2.cell (p := ⟨g, o + k * 5, none⟩) (unhide HG)).trans (unhide HK); have c3 := (hb2.cell (p := ⟨g, o + m * 5, none⟩) (unhide HG)).trans (unhide HM); clear hb2 x0 x1 x2 x3 x4)
              go_quiet (fail)
              go_wp2_with fail
              go_roundw
              case rel => exact ⟨k + 1, by omega, by go_num, unhide HNX, below_drewN (unhide HB2) _⟩
              case measure => simp [intOf]; omega
          · have HNX : Hid (C = Vc.chkL (prevQ vs (k + 1)) (vs.drop (k + 1))) := by
              have h := unhide HST
              have e : prevQ vs k = -1 := by rw [show k = 0 by omega]; rfl
              rw [e, if_neg (show ¬ v.dot.1 ≤ -1 by omega)] at h
              rw [unhide HC1, e]
              exact h
            have hgd : decide (0 < (k : Int)) = false := decide_eq_false (by omega)
            go_wp2_with (go_at_call 73; refine (unhide KV _ (unhide H6)).mono ?_; rintro e w2 ⟨rfl, hb2⟩; have HB2 := hide (below_grow (unhide HB) (Nat.le_refl _) hb2); clear hb2 x0 x1 x2 x3 x4)
            go_quiet (fail)
            go_wp2_with fail
            go_roundw
            case rel => exact ⟨k + 1, by omega, by go_num, unhide HNX, below_drewN (unhide HB2) _⟩
            case measure => simp [intOf]; omega
        · have HNX : Hid (R = Vc.chkV v) := by
            have h := unhide HST
            rw [if_pos (by simpa using he)] at h
            have h8 : C = Vc.chkV v := (unhide HC1).trans h
            exact hide ((unhide HBAD (by rw [h8]; exact he)).trans h8)
          have heb : (Vc.chkV v != 0) = true := bne_iff_ne.2 he
          clear HST
          generalize Vc.chkV v = X at KV HNX heb he
          clear he
          go_wp2_with (go_at_call 73; refine (unhide KV _ (unhide H6)).mono ?_; rintro e w2 ⟨rfl, hb2⟩; have HB2 := hide (below_grow (unhide HB) (Nat.le_refl _) hb2); clear hb2 x0 x1 x2 x3 x4)
          go_ret
          exact ⟨ret_int (unhide HNX).symm, unhide HB2⟩
      · obtain rfl : k = vs.length := by omega
        have hC0 : C = 0 := (unhide HC1).trans (chkL_end vs _)
        subst hC0
        have HCOV2 := hide fun v hv hc => unhide HCOV rfl v hv hc
        have HFINE2 := hide fun hc => unhide HFINE rfl hc
        clear HC1 HBAD HCOV HFINE
        generalize wr = wa at HB S ⊢
        go_wp2_with fail
        go_loopw [5] (fun i wr => ∃ k : Nat, k ≤ vs.length ∧ i = .int .i64 k ∧ (∀ x ∈ vs.take k, Vc.covered vs x = false) ∧ Below w.heap.size w wr) (fun i _ => vs.length - (intOf i).toNat)
        case atStart => exact ⟨0, Nat.zero_le _, rfl, fun x hx => (by simp at hx), unhide HB⟩
        case round =>
          obtain ⟨k, hk, rfl, hall, hb⟩ := hrel
          have HALL := hide hall
          have HB2 := hide hb
          have S2 := hide ((unhide HS).after hb)
          clear hall hb HB S
          by_cases hlt : k < vs.length
          · obtain ⟨v, hx⟩ : ∃ d, vs[k]? = some d := ⟨_, List.getElem?_eq_getElem hlt⟩
            obtain ⟨g, o, rfl, hg, hcell⟩ := id (unhide S2) (by omega)
            obtain ⟨q, d, x0, x1, x2, x3, x4, h5, h6⟩ := hcell k v hx
            have K := hide fun W h => unhide KC v q d W h
            unfold verL at K
            by_cases hc : Vc.covered vs v = true
            · have HT : R = 7 := unhide HCOV2 v (List.mem_of_getElem? hx) hc
              subst HT
              rw [hc] at K
              clear hcell hx hc h5 h6 hg
              go_wp2_with (go_at_call 74; refine (unhide K _ (unhide S2)).mono ?_; rintro e w2 ⟨rfl, hb2⟩; replace HB2 := hide (below_grow (unhide HB2) (Nat.le_refl _) hb2); clear hb2 x0 x1 x2 x3 x4)
              go_ret
              exact ⟨rfl, unhide HB2⟩
            · rw [Bool.not_eq_true] at hc
              have HALL2 := hide (free_snoc hx (unhide HALL) hc)
              rw [hc] at K
              clear hcell hx hc h5 h6 hg
              go_wp2_with (go_at_call 74; refine (unhide K _ (unhide S2)).mono ?_; rintro e w2 ⟨rfl, hb2⟩; replace HB2 := hide (below_grow (unhide HB2) (Nat.le_refl _) hb2); clear hb2 x0 x1 x2 x3 x4)
              go_roundw
              case rel => exact ⟨k + 1, by omega, by go_num, unhide HALL2, unhide HB2⟩
              case measure => simp [intOf]; omega
          · obtain rfl : k = vs.length := by omega
            have HT : R = 0 := unhide HFINE2 fun x hx => unhide HALL x (by rw [List.take_length]; exact hx)
            subst HT
            go_wp2_with fail
            go_ret
            exact ⟨rfl, unhide HB2⟩
end Go.Proofs.YtebjlmnhpfoglaaGreatDoor

/-
  Which of two versions wins, whether two are the same, and two lists of them: the document's.
-/

namespace Go.Proofs.YtebjlmnhpfoglaaGreatDoor
open Go.RowKit

theorem data_inj (a b : ByteArray) (h : a.data.toList = b.data.toList) : a = b := ByteArray.ext (Array.toList_inj.1 h)
theorem toList_eq (a b : ByteArray) : (a.toList == b.toList) = decide (a = b) := by
  rw [Bool.eq_iff_iff, beq_iff_eq, decide_eq_true_eq, Lib.toList_data, Lib.toList_data]
  exact ⟨data_inj a b, fun h => by rw [h]⟩
theorem ver_eq {v u : Vc.V} : v = u ↔ v.dot = u.dot ∧ v.dead = u.dead ∧ v.data = u.data ∧ v.past = u.past := by
  constructor
  · rintro rfl; exact ⟨rfl, rfl, rfl, rfl⟩
  · rintro ⟨h1, h2, h3, h4⟩
    cases v
    cases u
    simp at *
    exact ⟨h1, h4, h2, h3⟩

set_option maxRecDepth 100000 in
set_option maxHeartbeats 1000000 in
theorem refSameV_any (v u : Vc.V) (r q : Option Addr) (c d : Nat) (hl : v.past.length ≤ 9223372036854775807) (w : World) (sv : Sl w r v.past) (su : Sl w q u.past) (D : Bool) (hD : D = true ↔ v = u) :
    Calls Tryz.prog 45 #[.agg (verL v r c).toArray, .agg (verL u q d).toArray] w fun e w' => e = .returned (.bool D) ∧ Below w.heap.size w w' := by
  rw [ver_eq] at hD
  obtain ⟨⟨p, n⟩, P, x, s⟩ := v
  obtain ⟨⟨p', n'⟩, P', x', s'⟩ := u
  unfold verL
  dsimp only at hD hl sv su ⊢
  by_cases hp : p = p'
  · subst hp
    by_cases hn : n = n'
    · subst hn
      by_cases hx : x = x'
      · subst hx
        have hxx : (x == x) = true := by simp
        by_cases hs : s = s'
        · subst hs
          have hDp : D = true ↔ P = P' := hD.trans ⟨fun h => h.2.2.2, fun h => ⟨rfl, rfl, rfl, h⟩⟩
          clear hD
          have HB := hide ((below_alloc' (w := w) (.cells #[.int .i64 p, .int .i64 n, .slice r P.length c, .bool x, .string s] 64)).alloc (by simp) (.cells #[.int .i64 p, .int .i64 n, .slice q P'.length d, .bool x, .string s] 64))
          have RS := hide ((VRow.new w 64 [.int .i64 p, .int .i64 n, .slice r P.length c, .bool x, .string s]).alloc (.cells #[.int .i64 p, .int .i64 n, .slice q P'.length d, .bool x, .string s] 64))
          have RT := hide (VRow.newAt (W := w.alloc (.cells #[.int .i64 p, .int .i64 n, .slice r P.length c, .bool x, .string s] 64)) (T := 64) (n := w.heap.size + 1) (vs := [.int .i64 p, .int .i64 n, .slice q P'.length d, .bool x, .string s]) (by simp))
          have a0 := (unhide RS).cell 0 _ rfl
          have b0 := (unhide RT).cell 0 _ rfl
          have a1 := (unhide RS).cell 1 _ rfl
          have b1 := (unhide RT).cell 1 _ rfl
          have a2 := (unhide RS).cell 2 _ rfl
          have b2 := (unhide RT).cell 2 _ rfl
          have a3 := (unhide RS).cell 3 _ rfl
          have b3 := (unhide RT).cell 3 _ rfl
          have a4 := (unhide RS).cell 4 _ rfl
          have b4 := (unhide RT).cell 4 _ rfl
          clear RS RT
          have S := hide (sv.after (unhide HB))
          have T := hide (su.after (unhide HB))
          have K := hide fun W h h' => refSame_any r q c d P P' hl W h h' D hDp
          clear sv su hDp
          go_enter Tryz.func45, Tryz.ntmps45
          go_wp2_with fail
          refine (unhide K _ (unhide S) (unhide T)).mono ?_
          rintro e w1 ⟨rfl, hb⟩
          have HB1 := hide (below_grow (unhide HB) (Nat.le_refl _) hb)
          clear hb
          go_wp2_with fail
          go_ret
          exact ⟨rfl, unhide HB1⟩
        · obtain rfl : D = false := by
            cases D with
            | false => rfl
            | true => exact absurd (hD.1 rfl).2.2.1 hs
          clear hD sv su
          have HB := hide ((below_alloc' (w := w) (.cells #[.int .i64 p, .int .i64 n, .slice r P.length c, .bool x, .string s] 64)).alloc (by simp) (.cells #[.int .i64 p, .int .i64 n, .slice q P'.length d, .bool x, .string s'] 64))
          have RS := hide ((VRow.new w 64 [.int .i64 p, .int .i64 n, .slice r P.length c, .bool x, .string s]).alloc (.cells #[.int .i64 p, .int .i64 n, .slice q P'.length d, .bool x, .string s'] 64))
          have RT := hide (VRow.newAt (W := w.alloc (.cells #[.int .i64 p, .int .i64 n, .slice r P.length c, .bool x, .string s] 64)) (T := 64) (n := w.heap.size + 1) (vs := [.int .i64 p, .int .i64 n, .slice q P'.length d, .bool x, .string s']) (by simp))
          have a0 := (unhide RS).cell 0 _ rfl
          have b0 := (unhide RT).cell 0 _ rfl
          have a1 := (unhide RS).cell 1 _ rfl
          have b1 := (unhide RT).cell 1 _ rfl
          have a2 := (unhide RS).cell 2 _ rfl
          have b2 := (unhide RT).cell 2 _ rfl
          have a3 := (unhide RS).cell 3 _ rfl
          have b3 := (unhide RT).cell 3 _ rfl
          have a4 := (unhide RS).cell 4 _ rfl
          have b4 := (unhide RT).cell 4 _ rfl
          clear RS RT
          have hss : (s.toList == s'.toList) = false := (toList_eq s s').trans (decide_eq_false hs)
          go_enter Tryz.func45, Tryz.ntmps45
          go_wp2_with fail
          go_ret
          exact ⟨rfl, unhide HB⟩
      · obtain rfl : D = false := by
          cases D with
          | false => rfl
          | true => exact absurd (hD.1 rfl).2.1 hx
        clear hD sv su
        have HB := hide ((below_alloc' (w := w) (.cells #[.int .i64 p, .int .i64 n, .slice r P.length c, .bool x, .string s] 64)).alloc (by simp) (.cells #[.int .i64 p, .int .i64 n, .slice q P'.length d, .bool x', .string s'] 64))
        have RS := hide ((VRow.new w 64 [.int .i64 p, .int .i64 n, .slice r P.length c, .bool x, .string s]).alloc (.cells #[.int .i64 p, .int .i64 n, .slice q P'.length d, .bool x', .string s'] 64))
        have RT := hide (VRow.newAt (W := w.alloc (.cells #[.int .i64 p, .int .i64 n, .slice r P.length c, .bool x, .string s] 64)) (T := 64) (n := w.heap.size + 1) (vs := [.int .i64 p, .int .i64 n, .slice q P'.length d, .bool x', .string s']) (by simp))
        have a0 := (unhide RS).cell 0 _ rfl
        have b0 := (unhide RT).cell 0 _ rfl
        have a1 := (unhide RS).cell 1 _ rfl
        have b1 := (unhide RT).cell 1 _ rfl
        have a2 := (unhide RS).cell 2 _ rfl
        have b2 := (unhide RT).cell 2 _ rfl
        have a3 := (unhide RS).cell 3 _ rfl
        have b3 := (unhide RT).cell 3 _ rfl
        have a4 := (unhide RS).cell 4 _ rfl
        have b4 := (unhide RT).cell 4 _ rfl
        clear RS RT
        have hxx : (x == x') = false := by simpa using hx
        go_enter Tryz.func45, Tryz.ntmps45
        go_wp2_with fail
        go_ret
        exact ⟨rfl, unhide HB⟩
    · obtain rfl : D = false := by
        cases D with
        | false => rfl
        | true => exact absurd (hD.1 rfl).1 (fun e => hn (by injection e))
      clear hD sv su
      have HB := hide ((below_alloc' (w := w) (.cells #[.int .i64 p, .int .i64 n, .slice r P.length c, .bool x, .string s] 64)).alloc (by simp) (.cells #[.int .i64 p, .int .i64 n', .slice q P'.length d, .bool x', .string s'] 64))
      have RS := hide ((VRow.new w 64 [.int .i64 p, .int .i64 n, .slice r P.length c, .bool x, .string s]).alloc (.cells #[.int .i64 p, .int .i64 n', .slice q P'.length d, .bool x', .string s'] 64))
      have RT := hide (VRow.newAt (W := w.alloc (.cells #[.int .i64 p, .int .i64 n, .slice r P.length c, .bool x, .string s] 64)) (T := 64) (n := w.heap.size + 1) (vs := [.int .i64 p, .int .i64 n', .slice q P'.length d, .bool x', .string s']) (by simp))
      have a0 := (unhide RS).cell 0 _ rfl
      have b0 := (unhide RT).cell 0 _ rfl
      have a1 := (unhide RS).cell 1 _ rfl
      have b1 := (unhide RT).cell 1 _ rfl
      have a2 := (unhide RS).cell 2 _ rfl
      have b2 := (unhide RT).cell 2 _ rfl
      have a3 := (unhide RS).cell 3 _ rfl
      have b3 := (unhide RT).cell 3 _ rfl
      have a4 := (unhide RS).cell 4 _ rfl
      have b4 := (unhide RT).cell 4 _ rfl
      clear RS RT
      go_enter Tryz.func45, Tryz.ntmps45
      go_wp2_with fail
      go_ret
      exact ⟨rfl, unhide HB⟩
  · obtain rfl : D = false := by
      cases D with
      | false => rfl
      | true => exact absurd (hD.1 rfl).1 (fun e => hp (by injection e))
    clear hD sv su
    have HB := hide ((below_alloc' (w := w) (.cells #[.int .i64 p, .int .i64 n, .slice r P.length c, .bool x, .string s] 64)).alloc (by simp) (.cells #[.int .i64 p', .int .i64 n', .slice q P'.length d, .bool x', .string s'] 64))
    have RS := hide ((VRow.new w 64 [.int .i64 p, .int .i64 n, .slice r P.length c, .bool x, .string s]).alloc (.cells #[.int .i64 p', .int .i64 n', .slice q P'.length d, .bool x', .string s'] 64))
    have RT := hide (VRow.newAt (W := w.alloc (.cells #[.int .i64 p, .int .i64 n, .slice r P.length c, .bool x, .string s] 64)) (T := 64) (n := w.heap.size + 1) (vs := [.int .i64 p', .int .i64 n', .slice q P'.length d, .bool x', .string s']) (by simp))
    have a0 := (unhide RS).cell 0 _ rfl
    have b0 := (unhide RT).cell 0 _ rfl
    have a1 := (unhide RS).cell 1 _ rfl
    have b1 := (unhide RT).cell 1 _ rfl
    have a2 := (unhide RS).cell 2 _ rfl
    have b2 := (unhide RT).cell 2 _ rfl
    have a3 := (unhide RS).cell 3 _ rfl
    have b3 := (unhide RT).cell 3 _ rfl
    have a4 := (unhide RS).cell 4 _ rfl
    have b4 := (unhide RT).cell 4 _ rfl
    clear RS RT
    go_enter Tryz.func45, Tryz.ntmps45
    go_wp2_with fail
    go_ret
    exact ⟨rfl, unhide HB⟩

set_option maxRecDepth 100000 in
set_option maxHeartbeats 1000000 in
theorem refSameVs_any (a b : Option Addr) (ca cb : Nat) (us vs : List Vc.V) (hf : Few us) (hg : Few vs) (w : World) (ha : SV w a us) (hb : SV w b vs) (D : Bool) (hD : D = true ↔ us = vs) :
    Calls Tryz.prog 16 #[.slice a us.length ca, .slice b vs.length cb] w fun e w' => e = .returned (.bool D) ∧ Below w.heap.size w w' := by
  have HA := hide ha
  have HB := hide hb
  have HF := hide hf
  have HG := hide hg
  have HD := hide hD
  have hl := hf.1
  have hl2 := hg.1
  clear ha hb hf hg hD
  by_cases hlen : us.length = vs.length
  · have hbe : ((us.length : Int) != (vs.length : Int)) = false := by simp [hlen]
    have HLEN := hide hlen
    clear hlen
    go_enter Tryz.func16, Tryz.ntmps16
    go_wp2_with fail
    go_loopw [5] (fun i wr => ∃ k : Nat, k ≤ us.length ∧ i = .int .i64 k ∧ us.take k = vs.take k ∧ Below w.heap.size w wr) (fun i _ => us.length - (intOf i).toNat)
    case atStart => exact ⟨0, Nat.zero_le _, rfl, rfl, Below.refl _ _⟩
    case round =>
      obtain ⟨k, hk, rfl, heq, hb⟩ := hrel
      have HEQ := hide heq
      have HBr := hide hb
      have S := (unhide HA).after hb
      have T := (unhide HB).after hb
      clear heq hb
      by_cases hlt : k < us.length
      · have hlt2 : k < vs.length := by have := unhide HLEN; omega
        obtain ⟨x, hx⟩ : ∃ d, us[k]? = some d := ⟨_, List.getElem?_eq_getElem hlt⟩
        obtain ⟨y, hy⟩ : ∃ d, vs[k]? = some d := ⟨_, List.getElem?_eq_getElem hlt2⟩
        obtain ⟨g, o, rfl, hg, hcell⟩ := S (by omega)
        obtain ⟨g', o', rfl, hg', hcell'⟩ := T (by omega)
        obtain ⟨q, d, h0, h1, h2, h3, h4, h5, h6⟩ := hcell k x hx
        obtain ⟨q', d', h0', h1', h2', h3', h4', h5', h6'⟩ := hcell' k y hy
        have x0 := cell_regrown h0
        have x1 := cell_regrown h1
        have x2 := cell_regrown h2
        have x3 := cell_regrown h3
        have x4 := cell_regrown h4
        have y0 := cell_regrown h0'
        have y1 := cell_regrown h1'
        have y2 := cell_regrown h2'
        have y3 := cell_regrown h3'
        have y4 := cell_regrown h4'
        have H6 := hide h6
        have H6' := hide h6'
        by_cases hxy : x = y
        · have K := hide fun W h h' => refSameV_any x y q q' d d' ((unhide HF).at hx) W h h' true (by simp [hxy])
          unfold verL at K
          have HEQ2 : Hid (us.take (k + 1) = vs.take (k + 1)) := hide (by rw [take_snocA hx, take_snocA hy, unhide HEQ, hxy])
          clear hcell hcell' hx hy h0 h1 h2 h3 h4 h5 h6 h0' h1' h2' h3' h4' h5' h6' hxy
          go_wp2_with fail
          refine wp_region_quiet_below (by kernel_rfl) (by kernel_rfl) ?_
          repeat (quiet_step (first | (go_at_call 45; exact Calls.regrown_of (unhide K _ ((unhide H6).after (below_regrown _ _ _)) ((unhide H6').after (below_regrown _ _ _))))))
          refine wpQuiet_nil ?_
          intro _ hw'
          obtain ⟨⟨dq, osq⟩, hw''⟩ := hw'
          subst hw''
          go_wp2_with fail
          go_roundw
          case rel => exact ⟨k + 1, by omega, by go_num, unhide HEQ2, below_grow (unhide HBr) (Nat.le_refl _) (below_regrown _ _ _)⟩
          case measure => simp [intOf]; omega
        · have K := hide fun W h h' => refSameV_any x y q q' d d' ((unhide HF).at hx) W h h' false (by simp [hxy])
          unfold verL at K
          obtain rfl : D = false := by
            cases D with
            | false => rfl
            | true =>
              have e := (unhide HD).1 rfl
              rw [e, hy] at hx
              injection hx with hx
              exact absurd hx.symm hxy
          clear hcell hcell' hx hy h0 h1 h2 h3 h4 h5 h6 h0' h1' h2' h3' h4' h5' h6' hxy
          go_wp2_with fail
          refine wp_region_quiet_below (by kernel_rfl) (by kernel_rfl) ?_
          repeat (quiet_step (first | (go_at_call 45; exact Calls.regrown_of (unhide K _ ((unhide H6).after (below_regrown _ _ _)) ((unhide H6').after (below_regrown _ _ _))))))
          refine wpQuiet_nil ?_
          intro _ hw'
          obtain ⟨⟨dq, osq⟩, hw''⟩ := hw'
          subst hw''
          go_wp2_with fail
          go_ret
          exact ⟨rfl, below_grow (unhide HBr) (Nat.le_refl _) (below_regrown _ _ _)⟩
      · obtain rfl : k = us.length := by omega
        obtain rfl : D = true := (unhide HD).2 (by have h := unhide HEQ; rw [List.take_length, unhide HLEN, List.take_length] at h; exact h)
        go_wp2_with fail
        go_ret
        exact ⟨rfl, unhide HBr⟩
  · have hbe : ((us.length : Int) != (vs.length : Int)) = true := by simp; omega
    obtain rfl : D = false := by
      cases D with
      | false => rfl
      | true => exact absurd (by rw [(unhide HD).1 rfl]) hlen
    go_enter Tryz.func16, Tryz.ntmps16
    go_wp2_with fail
    go_ret
    exact ⟨rfl, Below.refl _ _⟩
end Go.Proofs.YtebjlmnhpfoglaaGreatDoor

/-
  What the document's Join, Meet and With answer, and the program's With.
-/

namespace Go.Proofs.YtebjlmnhpfoglaaGreatDoor
open Go.RowKit

theorem one_sl1 (w : World) (p c : Int) : Sl (w.alloc (.cells #[.int .i64 p, .int .i64 c] 61)) (some ⟨w.heap.size, 0, none⟩) [(p, c)] := fun _ => by
  have hr := VRow.new w 61 [.int .i64 p, .int .i64 c]
  refine ⟨w.heap.size, 0, rfl, lt_new _ _, fun j d hj => ?_⟩
  have hj2 : j = 0 := by have := (List.getElem?_eq_some_iff.1 hj).1; simp at this; omega
  subst hj2
  simp at hj
  subst hj
  exact ⟨hr.cell 0 _ rfl, hr.cell 1 _ rfl⟩

end Go.Proofs.YtebjlmnhpfoglaaGreatDoor

/-
  What readers see of versions: the document's.
-/

namespace Go.Proofs.YtebjlmnhpfoglaaGreatDoor
open Go.RowKit

def zeroV : Vc.V := ⟨(0, 0), [], false, ⟨#[]⟩⟩
def zero64 : List Value := [.int .i64 0, .int .i64 0, .slice none 0 0, .bool false, .string ⟨#[]⟩]
theorem size64 : (Tryz.prog.info? 64).map (·.size) = some 5 := by kernel_rfl
theorem Sl.onlyNe {w w' : World} {D : Nat} {r : Option Addr} {ds : List Vc.D} (h : Sl w r ds) (ho : Only D w w') (hne : ∀ ad, r = some ad → 0 < ds.length → ad.block ≠ D) : Sl w' r ds := fun h0 => by
  obtain ⟨g, o, e, hg, hc⟩ := h h0
  have hn : g ≠ D := hne _ e h0
  have e1 : ∀ k, w'.cell? ⟨g, k, Option.none⟩ = w.cell? ⟨g, k, Option.none⟩ := fun k => World.cell?_of_block (w := w) (ho.block g hn)
  refine ⟨g, o, e, by rw [ho.size]; exact hg, fun j d hj => ?_⟩
  rw [e1, e1]
  exact hc j d hj
theorem verL_one (v : Vc.V) (r : Option Addr) (c : Nat) : ∀ x ∈ verL v r c, x.oneCell' = true := by simp [verL, Value.oneCell']

end Go.Proofs.YtebjlmnhpfoglaaGreatDoor

/-
  What the document's reader does with a digest.
-/

namespace Go.Proofs.YtebjlmnhpfoglaaGreatDoor
open Go.RowKit

theorem Beside.only {own : Nat → Prop} {B : Nat} {w a w' : World} (h : Beside own w a) (ho : Only B a w') (hB : w.heap.size ≤ B) : Beside own w w' :=
  ⟨ho.os.trans h.os, ho.tape.trans h.tape, ho.output.trans h.output, by rw [ho.size]; exact h.size, fun k hk hk2 => (ho.block k (by omega)).trans (h.block k hk hk2)⟩
theorem Beside.under {own : Nat → Prop} {n : Nat} {w a w' : World} (h : Beside own w a) (hb : Below n a w') (hn : w.heap.size ≤ n) : Beside own w w' :=
  ⟨hb.os.trans h.os, hb.tape.trans h.tape, hb.output.trans h.output, Nat.le_trans h.size hb.size, fun k hk hk2 => (hb.block k (by omega)).trans (h.block k hk hk2)⟩
theorem at_str {b : List UInt8} {k : Nat} (h : k < (str b).size) : b[k]? = some (str b)[k] := by
  have h1 := at_data (str b) k h
  rw [str_data] at h1
  rw [str_size] at h
  rw [List.getElem?_eq_getElem h] at h1 ⊢
  rw [← h1]
  rfl
theorem Doc.only {W W' : World} {q T B : Nat} {st : St} (h : Doc W q T st) (ho : Only B W W') (hne : q ≠ B) : Doc W' q T st := VRow.only h ho hne

end Go.Proofs.YtebjlmnhpfoglaaGreatDoor

/-
  What the program's writer and reader must answer, as the laws want it; pieces in memory.
-/

namespace Go.Proofs.YtebjlmnhpfoglaaGreatDoor
open Go.RowKit

/-- An int of 64 bits. -/
def I64 (n : Int) : Prop := -9223372036854775808 ≤ n ∧ n ≤ 9223372036854775807
/-- The cells of a Writer that has nothing. -/
abbrev zeroW : Array Value := #[.slice none 0 0, .int .i64 0]
/-- What is turned is owned, or new. -/
def Turned (X : World → Addr → St → (Nat → Prop) → Prop) (own : Nat → Prop) (p : Addr) (w : World) (st : St) (v : Value) (e : Ending) (w' : World) : Prop :=
  ∃ own' : Nat → Prop, e = .returned v ∧ X w' p st own' ∧ (∀ g, own' g → own g ∨ w.heap.size ≤ g) ∧ Beside own w w'
def Told (w : World) (v : Value) (e : Ending) (w' : World) : Prop := e = .returned v ∧ Below w.heap.size w w'
theorem below_beside {own : Nat → Prop} {n : Nat} {a w w' : World} (h : Below n a w) (hn : n ≤ a.heap.size) (ho : ∀ g, own g → n ≤ g) (hb : Beside own w w') : Below n a w' := h.trans (hb.below (Nat.le_trans hn h.size) ho)
theorem own_beside {own own' : Nat → Prop} {n : Nat} {a w : World} (h : Below n a w) (hn : n ≤ a.heap.size) (ho : ∀ g, own g → n ≤ g) (hb : ∀ g, own' g → own g ∨ w.heap.size ≤ g) : ∀ g, own' g → n ≤ g := fun g hg => by
  rcases hb g hg with h1 | h1
  · exact ho g h1
  · have := h.size; omega

theorem range_after {W W' : World} {g o : Nat} {cs : List Value} (h : W.rangeAt g o cs) (hg : g < W.heap.size) (hb : Below W.heap.size W W') : W'.rangeAt g o cs := fun j v hv => (hb.cell (p := ⟨g, o + j, none⟩) hg).trans (h j v hv)
theorem VRow.range {W : World} {B T : Nat} {vs : List Value} (h : VRow W B T vs) : W.rangeAt B 0 vs := fun j v hv => by rw [Nat.zero_add]; exact h.cell j v hv
end Go.Proofs.YtebjlmnhpfoglaaGreatDoor

/-
  Entries in memory: one by value, a slice of them wherever it lies, a row of the call's own. Conditions: those that each theorem names.
-/

namespace Go.Proofs.YtebjlmnhpfoglaaGreatDoor
open Go.RowKit

/-- An entry's cells. -/
def entL (x : En) (r : Option Addr) (c : Nat) : List Value := [.string x.1, .slice r x.2.length c]
def EAt (W : World) (g o : Nat) (x : En) : Prop := ∃ r c, W.cell? ⟨g, o, none⟩ = some (.string x.1) ∧ W.cell? ⟨g, o + 1, none⟩ = some (.slice r x.2.length c) ∧ x.2.length ≤ c ∧ SV W r x.2
theorem EAt.after {W W' : World} {g o : Nat} {x : En} (h : EAt W g o x) (hg : g < W.heap.size) (hb : Below W.heap.size W W') : EAt W' g o x := by
  obtain ⟨r, c, h0, h1, h2, h3⟩ := h
  exact ⟨r, c, (hb.cell (p := ⟨g, o, none⟩) hg).trans h0, (hb.cell (p := ⟨g, o + 1, none⟩) hg).trans h1, h2, h3.after hb⟩
/-- A slice of entries, wherever it lies. -/
def EL (W : World) (a : Option Addr) (es : List En) : Prop := 0 < es.length → ∃ g o, a = some ⟨g, o, none⟩ ∧ g < W.heap.size ∧ ∀ (j : Nat) (x : En), es[j]? = some x → EAt W g (o + j * 2) x
theorem EL.after {W W' : World} {a : Option Addr} {es : List En} (h : EL W a es) (hb : Below W.heap.size W W') : EL W' a es := fun h0 => by
  obtain ⟨g, o, e, hg, hc⟩ := h h0
  exact ⟨g, o, e, Nat.lt_of_lt_of_le hg hb.size, fun j x hj => (hc j x hj).after hg hb⟩
theorem EL.none (W : World) (a : Option Addr) : EL W a [] := fun h => absurd h (Nat.lt_irrefl _)
/-- Few enough entries, their paths and leaves as well. -/
structure Eok (es : List En) : Prop where
  len : es.length ≤ 50000
  path : ∀ x ∈ es, x.1.size ≤ 1000
  few : ∀ x ∈ es, Few x.2
  data : ∀ x ∈ es, ∀ v ∈ x.2, v.data.size ≤ 9223372036854775807
theorem Eok.nil : Eok [] := ⟨by simp, fun _ h => (by cases h), fun _ h => (by cases h), fun _ h => (by cases h)⟩
theorem sizeEn : (Tryz.prog.info? 33).map (·.size) = some 2 := by kernel_rfl
theorem infoEn : (Tryz.prog.info? 33).map (fun i => (i.zero, i.size, i.bytes)) = some (some (.agg #[.string ⟨#[]⟩, .slice none 0 0]), 2, 40) := by kernel_rfl
theorem ent_range {W : World} {g o : Nat} {x : En} {r : Option Addr} {c : Nat} (h0 : W.cell? ⟨g, o, none⟩ = some (.string x.1)) (h1 : W.cell? ⟨g, o + 1, none⟩ = some (.slice r x.2.length c)) : W.rangeAt g o (entL x r c) := fun j u hu => by
  have hj : j < 2 := (List.getElem?_eq_some_iff.1 hu).1
  rcases (show j = 0 ∨ j = 1 by omega) with rfl | rfl <;> (simp [entL] at hu; subst hu; assumption)
theorem load_ent {ops : Array Oper} {rest : List Oper} {o : Oper} {a : Act} {w : World} {Q : Exit → Act → World → Prop} (hgd : o.guard = none) (x : Operand) (ho : o.op = .load 33 x)
    (B i : Nat) (hx : a.eval x = .pointer (some ⟨B, i, none⟩)) (y : En) (r : Option Addr) (c : Nat) (hr : w.rangeAt B i (entL y r c))
    (h : wpList Tryz.prog ops Q rest (a.put o.dst (.agg #[.string y.1, .slice r y.2.length c])) w) : wpList Tryz.prog ops Q (o :: rest) a w :=
  wpList_load_mid hgd 33 x ho B i hx _ _ hr Tryz.underlying33 rfl (by rw [sizeEn]; rfl) (show wpList Tryz.prog ops Q rest (a.put o.dst (.agg (entL y r c).toArray)) w from h)

/-! A row of entries of the call's own. -/
/-- An entry, and where its leaf lies. -/
abbrev EP := En × Option Addr × Nat
def flatE : List EP → List Value
  | [] => []
  | x :: l => entL x.1 x.2.1 x.2.2 ++ flatE l
theorem flatE_len : ∀ l : List EP, (flatE l).length = l.length * 2
  | [] => rfl
  | x :: l => by simp [flatE, entL, flatE_len l]; omega
theorem flatE_append : ∀ l m : List EP, flatE (l ++ m) = flatE l ++ flatE m
  | [], _ => rfl
  | x :: l, m => by simp [flatE, flatE_append l m]
theorem flatE_one : ∀ (l : List EP), ∀ v ∈ flatE l, v.oneCell' = true
  | [], _, h => by cases h
  | x :: l, v, h => by
    rcases List.mem_append.1 h with h | h
    · simp [entL] at h
      rcases h with rfl | rfl <;> rfl
    · exact flatE_one l v h
theorem flatE_get : ∀ (l : List EP) (j : Nat) (x : EP), l[j]? = some x → ∀ i u, (entL x.1 x.2.1 x.2.2)[i]? = some u → (flatE l)[j * 2 + i]? = some u
  | [], j, x, h, _, _, _ => by simp at h
  | y :: l, 0, x, h, i, u, hu => by
    simp at h
    subst h
    have hi : i < (entL y.1 y.2.1 y.2.2).length := (List.getElem?_eq_some_iff.1 hu).1
    rw [flatE, Nat.zero_mul, Nat.zero_add, List.getElem?_append_left hi]
    exact hu
  | y :: l, j + 1, x, h, i, u, hu => by
    rw [flatE, List.getElem?_append_right (by simp [entL]; omega)]
    rw [show (j + 1) * 2 + i - (entL y.1 y.2.1 y.2.2).length = j * 2 + i by simp [entL]; omega]
    exact flatE_get l j x (by simpa using h) i u hu
/-- Not in a row's block. -/
def Off (row : Option Nat) : Nat → Prop := fun g => some g ≠ row
theorem SV.off {W W0 : World} {r : Option Addr} {vs : List Vc.V} (h : SV W0 r vs) {row : Option Nat} (hr : ∀ g, row = some g → W0.heap.size ≤ g) (hb : Below W0.heap.size W0 W) : SV W r vs ∧ Prov (Off row) W r vs :=
  ⟨h.after hb, (h.prov (O := Off row) fun g hg e => by have := hr g e.symm; omega).after h hb⟩
theorem sv_grown {w w' : World} {row : Option Nat} {r : Option Addr} {vs : List Vc.V} (h : SV w r vs) (hp : Prov (Off row) w r vs) (hg : w.grownBy w' row) : SV w' r vs := fun h0 => by
  obtain ⟨g, o, e, hlt, hc⟩ := h h0
  obtain ⟨h1, h2⟩ := hp h0 g o e
  have hk : ∀ k, w'.cell? ⟨g, k, none⟩ = w.cell? ⟨g, k, none⟩ := fun k => World.cell?_of_block (hg.block g hlt h1)
  refine ⟨g, o, e, Nat.lt_of_lt_of_le hlt hg.size, fun j v hj => ?_⟩
  obtain ⟨r', c', x0, x1, x2, x3, x4, x5, x6⟩ := hc j v hj
  refine ⟨r', c', (hk _).trans x0, (hk _).trans x1, (hk _).trans x2, (hk _).trans x3, (hk _).trans x4, x5, fun h3 => ?_⟩
  obtain ⟨g2, o2, e2, hg2, hc2⟩ := x6 h3
  have hk2 : ∀ k, w'.cell? ⟨g2, k, none⟩ = w.cell? ⟨g2, k, none⟩ := fun k => World.cell?_of_block (hg.block g2 hg2 (h2 j v r' c' hj x2 _ e2 h3))
  exact ⟨g2, o2, e2, Nat.lt_of_lt_of_le hg2 hg.size, fun i d hi => by rw [hk2, hk2]; exact hc2 i d hi⟩
theorem prov_grown {O' : Nat → Prop} {w w' : World} {row : Option Nat} {r : Option Addr} {vs : List Vc.V} (h : SV w r vs) (hp : Prov (Off row) w r vs) (hg : w.grownBy w' row) (hO : ∀ g, g < w.heap.size → Off row g → O' g) : Prov O' w' r vs := fun h0 g o e => by
  obtain ⟨g', o', e', hlt, hc⟩ := h h0
  rw [e] at e'
  injection e' with e'
  injection e' with e1 e2
  subst e1
  subst e2
  obtain ⟨h1, h2⟩ := hp h0 g o e
  have hk : ∀ k, w'.cell? ⟨g, k, none⟩ = w.cell? ⟨g, k, none⟩ := fun k => World.cell?_of_block (hg.block g hlt h1)
  refine ⟨hO g hlt h1, fun j v r' c' hj hcell ad ead h3 => ?_⟩
  rw [hk] at hcell
  have h4 := h2 j v r' c' hj hcell ad ead h3
  refine hO _ ?_ h4
  obtain ⟨r2, c2, _, _, x2, _, _, _, x6⟩ := hc j v hj
  rw [hcell] at x2
  injection x2 with x2
  injection x2 with x2 _ _
  subst x2
  obtain ⟨g2, o2, e2, hg2, _⟩ := x6 h3
  rw [ead] at e2
  injection e2 with e2
  subst e2
  exact hg2
structure OE (W : World) (base : Nat) (l : Value) (es : List En) : Prop where
  is : ∃ ps : List EP, ps.map (·.1) = es ∧ W.ownsRow base 33 2 l ps.length (flatE ps) ∧ ∀ x ∈ ps, x.1.2.length ≤ x.2.2 ∧ SV W x.2.1 x.1.2 ∧ Prov (Off l.ownBlock) W x.2.1 x.1.2
theorem OE.nil (W : World) (base : Nat) : OE W base (.slice none 0 0) [] := ⟨[], rfl, World.ownsRow_nil _ _ _ _, fun _ h => by cases h⟩
theorem OE.after {W W' : World} {base : Nat} {l : Value} {es : List En} (h : OE W base l es) (hb : Below W.heap.size W W') : OE W' base l es := by
  obtain ⟨ps, h1, h2, h3⟩ := h.is
  refine ⟨ps, h1, ?_, fun x hx => ⟨(h3 x hx).1, (h3 x hx).2.1.after hb, (h3 x hx).2.2.after (h3 x hx).2.1 hb⟩⟩
  refine ⟨h2.1, ?_⟩
  rcases h2.2 with h2 | ⟨g, cap, cur, e1, e2, e3, e4⟩
  · exact .inl h2
  · exact .inr ⟨g, cap, cur, e1, e2, (hb.block g (Array.getElem?_eq_some_iff.1 e3).1).trans e3, e4⟩
theorem OE.lt {W : World} {base : Nat} {l : Value} {es : List En} (h : OE W base l es) : ∀ g, l.ownBlock = some g → base ≤ g ∧ g < W.heap.size := fun g e => by
  obtain ⟨ps, _, h2, _⟩ := h.is
  rcases h2.2 with ⟨rfl, _⟩ | ⟨g', cap, cur, rfl, e2, e3, _⟩
  · cases e
  · injection e with e
    subst e
    exact ⟨e2, (Array.getElem?_eq_some_iff.1 e3).1⟩
theorem OE.el {W : World} {base : Nat} {l : Value} {es : List En} (h : OE W base l es) : ∃ a cap, l = .slice a es.length cap ∧ es.length ≤ cap ∧ EL W a es := by
  obtain ⟨ps, rfl, h2, h3⟩ := h.is
  rcases h2.2 with ⟨rfl, h0⟩ | ⟨g, cap, cur, rfl, hg, hh, c1, c2, c3, c4⟩
  · have : ps = [] := List.eq_nil_of_length_eq_zero h0
    subst this
    exact ⟨none, 0, rfl, Nat.le_refl _, EL.none _ _⟩
  · have e1 : ∀ j x, ps[j]? = some x → ∀ i u, (entL x.1 x.2.1 x.2.2)[i]? = some u → W.cell? ⟨g, 0 + j * 2 + i, none⟩ = some u := by
      intro j x hx i u hu
      have hjl : j < ps.length := (List.getElem?_eq_some_iff.1 hx).1
      have hi : i < 2 := (List.getElem?_eq_some_iff.1 hu).1
      rw [cell_of_row W g _ cur 33 (0, 0) hh]
      have h5 : (cur.toList.take (ps.length * 2))[j * 2 + i]? = (flatE ps)[j * 2 + i]? := by rw [c4]
      rw [List.getElem?_take_of_lt (by omega), flatE_get ps j x hx i u hu] at h5
      rw [show 0 + j * 2 + i = j * 2 + i by omega]
      simpa using h5
    refine ⟨_, cap, by rw [List.length_map], by rw [List.length_map]; exact c1, fun _ => ⟨g, 0, rfl, (Array.getElem?_eq_some_iff.1 hh).1, fun j v hj => ?_⟩⟩
    rw [List.getElem?_map] at hj
    obtain ⟨x, hx, rfl⟩ := Option.map_eq_some_iff.1 hj
    have hm := h3 x (List.mem_of_getElem? hx)
    exact ⟨x.2.1, x.2.2, e1 j x hx 0 _ rfl, e1 j x hx 1 _ rfl, hm.1, hm.2.1⟩
/-- One entry appended to a row of the call's own. -/
theorem append_ent {w : World} {ops : Array Oper} {rest : List Oper} {o : Oper} {a : Act} {Q : Exit → Act → World → Prop} (hgd : o.guard = none) (s x : Operand)
    (ho : o.op = .call { callee := .builtin .append, args := #[s, x], argTypes := #[22, 22] }) (base : Nat) (v : Value) (es : List En) (hs : a.eval s = v) (hown : OE w base v es)
    (D : Nat) (y : En) (r : Option Addr) (c : Nat) (hx : a.eval x = .slice (some ⟨D, 0, none⟩) 1 1) (hD : w.rangeAt D 0 (entL y r c)) (hc : y.2.length ≤ c) (hv : SV w r y.2) (hp : Prov (Off v.ownBlock) w r y.2) (hn : es.length ≤ 150000) (hbase : base ≤ w.heap.size)
    (h : ∀ v' w', OE w' base v' (es ++ [y]) → Below base w w' → w.grownBy w' v.ownBlock → wpList Tryz.prog ops Q rest (a.put o.dst v') w') : wpList Tryz.prog ops Q (o :: rest) a w := by
  obtain ⟨i0, hi, hz0, hz1, hz2⟩ := info_parts infoEn
  obtain ⟨ps, e1, e2, e3⟩ := hown.is
  subst e1
  rw [List.length_map] at hn
  refine wpList_append_own_at w hgd s x 22 ho base 33 i0 _ 2 40 Tryz.underlying22 hi hz0 hz1 hz2 rfl (by decide) v ps.length (flatE ps) hs e2 ⟨D, 0, none⟩ 1 1 (entL y r c) hx rfl (fun j u hu => ?_) (by simp [entL, Value.oneCell']) (by unfold maxLen; omega) (by omega) hbase ?_
  · rw [show (⟨D, 0, none⟩ : Addr).add j = ⟨D, 0 + j, none⟩ by unfold Addr.add; split <;> simp_all]
    exact hD j u hu
  · intro v' w' g1 g2 _ g4
    have hO : ∀ g, g < w.heap.size → Off v.ownBlock g → Off v'.ownBlock g := fun g hg h1 => by
      rcases g4 with e | e
      · rw [e]; exact h1
      · rw [e]
        intro e2
        injection e2 with e2
        have : g = w.heap.size := e2
        omega
    refine h v' w' ⟨ps ++ [(y, r, c)], by rw [List.map_append]; rfl, ?_, fun z hz => ?_⟩ (grown_below e2 g2 hbase) g2
    · rw [List.length_append, flatE_append]
      have : flatE [(y, r, c)] = entL y r c := by simp [flatE]
      rw [this]
      exact g1
    · rcases List.mem_append.1 hz with hz | hz
      · exact ⟨(e3 z hz).1, sv_grown (e3 z hz).2.1 (e3 z hz).2.2 g2, prov_grown (e3 z hz).2.1 (e3 z hz).2.2 g2 hO⟩
      · rw [List.mem_singleton.1 hz]
        exact ⟨hc, sv_grown hv hp g2, prov_grown hv hp g2 hO⟩
theorem ent_row {W : World} {D T : Nat} {x : En} {r : Option Addr} {c : Nat} (h : VRow W D T (entL x r c)) : W.rangeAt D 0 (entL x r c) := h.range
def MadeE (w : World) (es : List En) (e : Ending) (w' : World) : Prop := ∃ a cap, e = .returned (.slice a es.length cap) ∧ es.length ≤ cap ∧ EL w' a es ∧ Below w.heap.size w w'
def MadeEE (w : World) (x : List En × Int) (e : Ending) (w' : World) : Prop := ∃ a cap, e = .returned (.tuple #[.slice a x.1.length cap, .int .i64 x.2]) ∧ x.1.length ≤ cap ∧ EL w' a x.1 ∧ Below w.heap.size w w'
end Go.Proofs.YtebjlmnhpfoglaaGreatDoor

/-
  What comes in, opened: a list of dots, a dot, a number.
-/

namespace Go.Proofs.YtebjlmnhpfoglaaGreatDoor
open Go.ChangeShapes Go.WideShapes Go.ChangeAt Go.RowKit Go.Deep

theorem cells62 : Tryz.prog.cellsOf 62 = 1 := by kernel_rfl
theorem cells61 : Tryz.prog.cellsOf 61 = 2 := by kernel_rfl
theorem cells3 : Tryz.prog.cellsOf 3 = 1 := by kernel_rfl

def numOf : Value → Int
  | .int _ n => n
  | _ => 0

set_option maxRecDepth 100000 in
theorem open_dots {H : Type} {enc : TypeId × Value → H} {W : World} {r : Reach} {base : Nat} {v0 : Value} {d0 : DataW H} {p0 : List MemPlace}
    (hv : Value.okWide Tryz.prog W r base 62 v0) (h : DataW.Trod enc Tryz.prog W 0 (fun _ => true) true 62 v0 d0 p0) :
    ∃ (a : Option Addr) (cap : Nat) (ds : List Vc.D), v0 = .slice a ds.length cap ∧ ds.length ≤ cap ∧ Sl W a ds := by
  obtain ⟨a0, len0, cap0, rfl⟩ := okWide_slice Tryz.underlying62 hv
  obtain ⟨fuel, hf⟩ := h
  rcases open_slice_pairs Tryz.underlying62 Tryz.underlying61 cells61 rfl rfl cells3 cells3 hf with ⟨hcs, hx⟩ | ⟨a, len, cap, m, n, V0, V1, D0, D1, P0, P1, hcs, _, hl, hm, hmm, hx, hall⟩
  · simp [Value.cells] at hcs
    obtain ⟨rfl, rfl, rfl⟩ := hcs
    exact ⟨none, 0, [], rfl, Nat.le_refl _, Sl.none _ _⟩
  · simp [Value.cells] at hcs
    obtain ⟨rfl, rfl, rfl⟩ := hcs
    simp only [if_true] at hmm
    have hbl : ((List.range len0).map fun i => (numOf (V0 i), numOf (V1 i))).length = len0 := by simp
    refine ⟨some a, cap0, (List.range len0).map fun i => (numOf (V0 i), numOf (V1 i)), by rw [hbl], by omega, fun h0 => ?_⟩
    rw [hbl] at h0
    obtain ⟨b, off, spot⟩ := a
    have hspot : spot = none := by simpa [Addr.add] using World.cell?_spot (hall 0 (by omega)).1
    subst hspot
    refine ⟨b, off, rfl, block_lt_of_cell (hall 0 (by omega)).1, fun j x hx => ?_⟩
    have hj := (List.getElem?_eq_some_iff.1 hx).1
    rw [hbl] at hj
    obtain ⟨c0, c1, t0, t1⟩ := hall j (by omega)
    obtain ⟨k0, e0, _, _⟩ := DataW.trod_int Tryz.underlying3 t0
    obtain ⟨k1, e1, _, _⟩ := DataW.trod_int Tryz.underlying3 t1
    simp only [List.cons.injEq, and_true] at e0 e1
    rw [add_plain] at c0 c1
    simp [hj] at hx
    subst hx
    rw [e0] at c0
    rw [e1] at c1
    rw [e0, e1]
    exact ⟨c0, c1⟩

set_option maxRecDepth 100000 in
theorem open_dot {H : Type} {enc : TypeId × Value → H} {W : World} {r : Reach} {base : Nat} {v0 : Value} {d0 : DataW H} {p0 : List MemPlace}
    (hv : Value.okWide Tryz.prog W r base 61 v0) (h : DataW.Trod enc Tryz.prog W 0 (fun _ => true) true 61 v0 d0 p0) :
    ∃ (p c : Int), v0 = .agg #[.int .i64 p, .int .i64 c] := by
  obtain ⟨v0, v1, y0, y1, n, rfl, _, _, t0, t1⟩ := Go.Joins.open_agg2 Tryz.underlying61 (by kernel_rfl) cells61 hv h
  obtain ⟨k0, e0, _, _⟩ := DataW.trod_int Tryz.underlying3 t0
  obtain ⟨k1, e1, _, _⟩ := DataW.trod_int Tryz.underlying3 t1
  simp only [List.cons.injEq, and_true] at e0 e1
  exact ⟨k0, k1, by rw [e0, e1]⟩
set_option maxRecDepth 100000 in
theorem open_int0 {H : Type} {enc : TypeId × Value → H} {W : World} {r : Reach} {base : Nat} {v0 : Value} {d0 : DataW H} {p0 : List MemPlace}
    (hv : Value.okWide Tryz.prog W r base 3 v0) (h : DataW.Trod enc Tryz.prog W 0 (fun _ => true) true 3 v0 d0 p0) :
    ∃ (n : Int), v0 = .int .i64 n := by
  obtain ⟨n, h1, _⟩ := open_int Tryz.underlying3 hv h
  exact ⟨n, h1⟩
end Go.Proofs.YtebjlmnhpfoglaaGreatDoor

/-
  Whether leaves are too much to be asked.
-/

namespace Go.Proofs.YtebjlmnhpfoglaaGreatDoor
open Go.RowKit

/-- No past that is greater than any machine's memory. -/
def Light (vs : List Vc.V) : Prop := ∀ v ∈ vs, v.past.length ≤ 8796093022208
/-- A list that is not too much. -/
def Slight (vs : List Vc.V) : Prop := vs.length ≤ 70 ∧ (Light vs → ∀ v ∈ vs, v.past.length ≤ 400)
/-- Whether leaves are too much, and what is known if they are not. -/
def GreatMade (n : Nat) (ls : Nat → List Vc.V) (w : World) (e : Ending) (w' : World) : Prop := ∃ B : Bool, e = .returned (.bool B) ∧ w' = w ∧ (B = false → ∀ j, j < n → Slight (ls j))

set_option maxRecDepth 100000 in
set_option maxHeartbeats 1000000 in
theorem great_any (G n : Nat) (hn : n ≤ 100) (A : Nat → Option Addr) (C : Nat → Nat) (ls : Nat → List Vc.V) (w : World) (hc : ∀ j, j < n → w.cell? ⟨G, j, none⟩ = some (.slice (A j) (ls j).length (C j))) (hs : ∀ j, j < n → SV w (A j) (ls j)) :
    Calls Tryz.prog 32 #[.slice (some ⟨G, 0, none⟩) n n] w (GreatMade n ls w) := by
  have HC := hide hc
  have HS := hide hs
  clear hc hs
  go_enter Tryz.func32, Tryz.ntmps32
  go_wp2_with fail
  go_loopw [3] (fun i wr => ∃ k : Nat, k ≤ n ∧ i = .int .i64 k ∧ (∀ j, j < k → Slight (ls j)) ∧ wr = w) (fun i _ => n - (intOf i).toNat)
  case atStart => exact ⟨0, Nat.zero_le _, rfl, fun j hj => absurd hj (Nat.not_lt_zero _), rfl⟩
  case round =>
    obtain ⟨k, hk, rfl, hall, rfl⟩ := hrel
    have HALL := hide hall
    clear hall
    by_cases hlt : k < n
    · have c0 := unhide HC k hlt
      have s0 := hide (unhide HS k hlt)
      generalize hA : A k = a at c0 s0
      generalize hL : ls k = l at c0 s0
      generalize hCk : C k = c at c0
      by_cases h70 : 70 < l.length
      · have hd : decide ((70 : Int) < (l.length : Int)) = true := decide_eq_true (by omega)
        clear hA hL hCk
        go_wp2_with fail
        go_ret
        exact ⟨true, rfl, rfl, fun h => by cases h⟩
      · have hd : decide ((70 : Int) < (l.length : Int)) = false := decide_eq_false (by omega)
        have HL : Hid (ls k = l) := hide hL
        have hl70 : l.length ≤ 70 := by omega
        clear hA hL hCk h70
        go_wp2_with fail
        go_loopw [4, 5] (fun x i wv => ∃ (t : Int) (m : Nat), m ≤ l.length ∧ x = .int .i64 t ∧ i = .int .i64 m ∧ wv = wr ∧ Hid (Light l → 0 ≤ t ∧ t ≤ 400 ∧ ∀ v ∈ l.take m, v.past.length ≤ 400)) (fun _ i _ => l.length - (intOf i).toNat)
        case atStart => exact ⟨0, 0, Nat.zero_le _, rfl, rfl, rfl, hide (fun _ => ⟨by omega, by omega, fun v hv => by simp at hv⟩)⟩
        case round =>
          obtain ⟨t, m, hm, rfl, rfl, hwv, HT⟩ := hrel
          subst hwv
          by_cases hml : m < l.length
          · obtain ⟨v, hx⟩ : ∃ d, l[m]? = some d := ⟨_, List.getElem?_eq_getElem hml⟩
            obtain ⟨g, o, rfl, hg, hcell⟩ := unhide s0 (by omega)
            obtain ⟨q, d, x0, x1, x2, x3, x4, h5, h6⟩ := hcell m v hx
            obtain ⟨T, hT⟩ : ∃ T, IntKind.i64.wrap (t + (v.past.length : Int)) = T := ⟨_, rfl⟩
            have HT2 : Hid (¬ 400 < T → Light l → 0 ≤ T ∧ T ≤ 400 ∧ ∀ v ∈ l.take (m + 1), v.past.length ≤ 400) := hide (fun h4 hl => by
              obtain ⟨t1, t2, t3⟩ := unhide HT hl
              have hv := hl v (List.mem_of_getElem? hx)
              rw [wrap_small (by omega) (by omega)] at hT
              refine ⟨by omega, by omega, fun u hu => ?_⟩
              rw [take_snocA hx] at hu
              rcases List.mem_append.1 hu with hu | hu
              · exact t3 u hu
              · rw [List.mem_singleton.1 hu]; omega)
            clear hcell hx h5 h6 hg x0 x1 x3
            by_cases h400 : 400 < T
            · have hd4 : decide (400 < T) = true := decide_eq_true h400
              go_wp2_with fail
              go_ret
              exact ⟨true, rfl, rfl, fun h => by cases h⟩
            · have hd4 : decide (400 < T) = false := decide_eq_false h400
              obtain ⟨z, hz⟩ : ∃ z, v.data.size = z := ⟨_, rfl⟩
              by_cases h200 : 200 < z
              · have hd2 : decide ((200 : Int) < (z : Int)) = true := decide_eq_true (by omega)
                go_wp2_with fail
                go_ret
                exact ⟨true, rfl, rfl, fun h => by cases h⟩
              · have hd2 : decide ((200 : Int) < (z : Int)) = false := decide_eq_false (by omega)
                go_wp2_with fail
                go_roundw
                case rel => exact ⟨T, m + 1, by omega, rfl, by go_num, by first | rfl | trivial, hide (unhide HT2 (by omega))⟩
                case measure => simp [intOf]; omega
          · have HALL2 : Hid (∀ j, j < k + 1 → Slight (ls j)) := hide (fun j hj => by
              by_cases e : j = k
              · subst e
                rw [unhide HL]
                refine ⟨hl70, fun hl => ?_⟩
                have h9 := (unhide HT hl).2.2
                rw [show m = l.length by omega, List.take_length] at h9
                exact h9
              · exact unhide HALL j (by omega))
            go_wp2_with fail
            go_roundw
            case rel => exact ⟨k + 1, by omega, by go_num, unhide HALL2, by first | rfl | trivial⟩
            case measure => simp [intOf]; omega
    · obtain rfl : k = n := by omega
      go_wp2_with fail
      go_ret
      exact ⟨false, rfl, rfl, fun _ => unhide HALL⟩
end Go.Proofs.YtebjlmnhpfoglaaGreatDoor
