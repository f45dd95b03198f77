/-
  Whether a version is covered by one of a list, and why a leaf may not be: the document's.
-/
import Derived.Test.YtpfighkafmammaaB03
import Derived.Lib.Strings
import Derived.Test.YtpfighkafmammaaB02
namespace Go.Proofs.Ytpfighkafmammaa
open Go.RowKit

theorem covered_snoc {vs : List Vc.V} {k : Nat} {u : Vc.V} (h : vs[k]? = some u) {v : Vc.V} (hall : ∀ x ∈ vs.take k, Vc.covers x v = false) (hu : Vc.covers u v = false) : ∀ x ∈ vs.take (k + 1), Vc.covers x v = false := fun x hx => by
  rw [take_snocA h] at hx
  rcases List.mem_append.1 hx with hx | hx
  · exact hall x hx
  · rw [List.mem_singleton.1 hx]; exact hu

set_option maxRecDepth 100000 in
set_option maxHeartbeats 1000000 in
theorem refCovered_any (a : Option Addr) (cap : Nat) (vs : List Vc.V) (hf : Few vs) (v : Vc.V) (r : Option Addr) (c : Nat) (w : World) (h : SV w a vs) :
    Calls Try.prog 70 #[.slice a vs.length cap, .agg (verL v r c).toArray] w fun e w' => e = .returned (.bool (Vc.covered vs v)) ∧ Below w.heap.size w w' := by
  have HB := hide (below_alloc' (w := w) (.cells (verL v r c).toArray 61))
  have RS := hide (VRow.new w 61 (verL v r c))
  have S := hide (h.after (unhide HB))
  have HF := hide hf
  have hl := hf.1
  obtain ⟨R, hR⟩ : ∃ R, Vc.covered vs v = R := ⟨_, rfl⟩
  rw [hR]
  have HR := hide hR
  clear h hf hR
  unfold verL at RS ⊢
  go_enter Try.func70, Try.ntmps70
  go_wp2_with fail
  unfold verL at *
  generalize w.alloc (.cells _ 61) = w0 at HB RS S ⊢
  go_loopw [5] (fun i wr => ∃ k : Nat, k ≤ vs.length ∧ i = .int .i64 k ∧ (∀ x ∈ vs.take k, Vc.covers x v = false) ∧ Below w0.heap.size w0 wr) (fun i _ => vs.length - (intOf i).toNat)
  case atStart => exact ⟨0, Nat.zero_le _, rfl, fun x hx => (by simp at hx), Below.refl _ _⟩
  case round =>
    obtain ⟨k, hk, rfl, hall, hb⟩ := hrel
    have HALL := hide hall
    have HB2 := hide (below_grow (unhide HB) (Nat.le_refl _) hb)
    have RS2 := (unhide RS).after hb
    have S2 := (unhide S).after hb
    have HBL := hide hb
    have b0 := cell_regrown (RS2.cell 0 _ rfl)
    have b1 := cell_regrown (RS2.cell 1 _ rfl)
    have b2 := cell_regrown (RS2.cell 2 _ rfl)
    have b3 := cell_regrown (RS2.cell 3 _ rfl)
    have b4 := cell_regrown (RS2.cell 4 _ rfl)
    clear hall hb RS2
    by_cases hlt : k < vs.length
    · obtain ⟨u, hx⟩ : ∃ d, vs[k]? = some d := ⟨_, List.getElem?_eq_getElem hlt⟩
      obtain ⟨g, o, rfl, hg, hcell⟩ := S2 (by omega)
      obtain ⟨q, d, h0, h1, h2, h3, h4, h5, h6⟩ := hcell k u hx
      have x0 := cell_regrown h0
      have x1 := cell_regrown h1
      have x2 := cell_regrown h2
      have x3 := cell_regrown h3
      have x4 := cell_regrown h4
      have H6 := hide h6
      have K := hide fun W h => refCovers_any u v q r d c ((unhide HF).at hx) W h
      unfold verL at K
      by_cases hc : Vc.covers u v = true
      · have HT : R = true := by
          rw [← unhide HR]
          exact List.any_eq_true.2 ⟨u, List.mem_of_getElem? hx, hc⟩
        subst HT
        rw [hc] at K
        clear hcell hx hc h0 h1 h2 h3 h4 h5 h6 HR
        go_wp2_with fail
        refine wp_region_quiet_below (by kernel_rfl) (by kernel_rfl) ?_
        repeat (quiet_step (first | (go_at_call 87; exact Calls.regrown_of (unhide K _ ((unhide H6).after (below_regrown _ _ _))))))
        refine wpQuiet_nil ?_
        intro _ hw'
        obtain ⟨⟨dq, osq⟩, hw''⟩ := hw'
        subst hw''
        go_wp2_with fail
        go_ret
        exact ⟨rfl, below_grow (unhide HB2) (Nat.le_refl _) (below_regrown _ _ _)⟩
      · rw [Bool.not_eq_true] at hc
        rw [hc] at K
        have HALL2 := hide (covered_snoc hx (unhide HALL) hc)
        clear hcell hx hc h0 h1 h2 h3 h4 h5 h6
        go_wp2_with fail
        refine wp_region_quiet_below (by kernel_rfl) (by kernel_rfl) ?_
        repeat (quiet_step (first | (go_at_call 87; exact Calls.regrown_of (unhide K _ ((unhide H6).after (below_regrown _ _ _))))))
        refine wpQuiet_nil ?_
        intro _ hw'
        obtain ⟨⟨dq, osq⟩, hw''⟩ := hw'
        subst hw''
        go_wp2_with fail
        go_roundw
        case rel => exact ⟨k + 1, by omega, by go_num, unhide HALL2, below_grow (unhide HBL) (Nat.le_refl _) (below_regrown _ _ _)⟩
        case measure => simp [intOf]; omega
    · obtain rfl : k = vs.length := by omega
      have HT : R = false := by
        rw [← unhide HR]
        exact (Vc.covered_no vs v).2 fun x hx => unhide HALL x (by rw [List.take_length]; exact hx)
      subst HT
      go_wp2_with fail
      go_ret
      exact ⟨rfl, unhide HB2⟩
end Go.Proofs.Ytpfighkafmammaa

/-
  Why a leaf may not be: the document's.
-/

namespace Go.Proofs.Ytpfighkafmammaa
open Go.RowKit

def prevQ (vs : List Vc.V) : Nat → Int
  | 0 => -1
  | k + 1 => ((vs[k]?).map fun v => v.dot.1).getD (-1)
theorem prevQ_at (vs : List Vc.V) (k : Nat) (v : Vc.V) (h : vs[k]? = some v) : prevQ vs (k + 1) = v.dot.1 := by simp [prevQ, h]
theorem chkL_step (vs : List Vc.V) (k : Nat) (v : Vc.V) (h : vs[k]? = some v) : Vc.chkL (prevQ vs k) (vs.drop k) = if Vc.chkV v ≠ 0 then Vc.chkV v else if v.dot.1 ≤ prevQ vs k then 8 else Vc.chkL (prevQ vs (k + 1)) (vs.drop (k + 1)) := by
  have hk := (List.getElem?_eq_some_iff.1 h).1
  rw [prevQ_at vs k v h, List.drop_eq_getElem_cons hk, (List.getElem?_eq_some_iff.1 h).2]
  rfl
theorem chkL_end (vs : List Vc.V) (q : Int) : Vc.chkL q (vs.drop vs.length) = 0 := by rw [List.drop_length]; rfl
theorem leaf_long {vs : List Vc.V} (h : 64 < vs.length) : Vc.checkLeaf vs = 2 := if_pos h
theorem leaf_bad {vs : List Vc.V} (h : ¬ 64 < vs.length) (h2 : Vc.chkL (-1) vs ≠ 0) : Vc.checkLeaf vs = Vc.chkL (-1) vs := by unfold Vc.checkLeaf; rw [if_neg h, if_pos h2]
theorem leaf_cov {vs : List Vc.V} (h : ¬ 64 < vs.length) (h2 : Vc.chkL (-1) vs = 0) {v : Vc.V} (hv : v ∈ vs) (hc : Vc.covered vs v = true) : Vc.checkLeaf vs = 7 := by
  unfold Vc.checkLeaf
  rw [if_neg h, if_neg (by simpa using h2), if_pos (List.any_eq_true.2 ⟨v, hv, hc⟩)]
theorem leaf_fine {vs : List Vc.V} (h : ¬ 64 < vs.length) (h2 : Vc.chkL (-1) vs = 0) (hc : ∀ v ∈ vs, Vc.covered vs v = false) : Vc.checkLeaf vs = 0 := by
  unfold Vc.checkLeaf
  rw [if_neg h, if_neg (by simpa using h2), if_neg]
  intro ha
  obtain ⟨v, hv, h3⟩ := List.any_eq_true.1 ha
  rw [hc v hv] at h3
  cases h3
theorem free_snoc {vs : List Vc.V} {k : Nat} {u : Vc.V} (h : vs[k]? = some u) (hall : ∀ x ∈ vs.take k, Vc.covered vs x = false) (hu : Vc.covered vs u = false) : ∀ x ∈ vs.take (k + 1), Vc.covered vs x = false := fun x hx => by
  rw [take_snocA h] at hx
  rcases List.mem_append.1 hx with hx | hx
  · exact hall x hx
  · rw [List.mem_singleton.1 hx]; exact hu

set_option maxRecDepth 100000 in
set_option maxHeartbeats 2000000 in
theorem refCheckLeaf_any (a : Option Addr) (cap : Nat) (vs : List Vc.V) (hf : Few vs) (w : World) (h : SV w a vs) :
    Calls Try.prog 49 #[.slice a vs.length cap] w fun e w' => e = .returned (.int .i64 (Vc.checkLeaf vs)) ∧ Below w.heap.size w w' := by
  have HS := hide h
  have HF := hide hf
  have hl := hf.1
  clear h hf
  by_cases h64 : 64 < vs.length
  · rw [leaf_long h64]
    have hd : decide ((64 : Int) < (vs.length : Int)) = true := decide_eq_true (by omega)
    go_enter Try.func49, Try.ntmps49
    go_wp2_with fail
    go_ret
    exact ⟨rfl, Below.refl _ _⟩
  · have hd : decide ((64 : Int) < (vs.length : Int)) = false := decide_eq_false (by omega)
    have HBAD := hide fun h2 => leaf_bad h64 h2
    have HCOV := hide fun h2 v hv hc => leaf_cov h64 h2 (v := v) hv hc
    have HFINE := hide fun h2 hc => leaf_fine h64 h2 hc
    have HC := hide (show Vc.chkL (-1) vs = Vc.chkL (prevQ vs 0) (vs.drop 0) from rfl)
    obtain ⟨C, hC⟩ : ∃ C, Vc.chkL (-1) vs = C := ⟨_, rfl⟩
    obtain ⟨R, hR⟩ : ∃ R, Vc.checkLeaf vs = R := ⟨_, rfl⟩
    rw [hC] at HC HBAD HCOV HFINE
    rw [hR] at HBAD HCOV HFINE ⊢
    have KC := hide fun v r c W h => refCovered_any a cap vs (unhide HF) v r c W h
    clear hC hR
    go_enter Try.func49, Try.ntmps49
    go_wp2_with fail
    go_loopw [3] (fun i wr => ∃ k : Nat, k ≤ vs.length ∧ i = .int .i64 k ∧ C = Vc.chkL (prevQ vs k) (vs.drop k) ∧ Below w.heap.size w wr) (fun i _ => vs.length - (intOf i).toNat)
    case atStart => exact ⟨0, Nat.zero_le _, rfl, unhide HC, Below.refl _ _⟩
    case round =>
      obtain ⟨k, hk, rfl, hc, hb⟩ := hrel
      have HC1 := hide hc
      have HB := hide hb
      have S := hide ((unhide HS).after hb)
      clear hc hb HC
      by_cases hlt : k < vs.length
      · obtain ⟨v, hx⟩ : ∃ d, vs[k]? = some d := ⟨_, List.getElem?_eq_getElem hlt⟩
        obtain ⟨g, o, rfl, hg, hcell⟩ := unhide S (by omega)
        obtain ⟨q, d, x0, x1, x2, x3, x4, h5, h6⟩ := hcell k v hx
        have HG := hide hg
        have HCell := hide hcell
        have HX := hide hx
        have KV := hide fun W h => refCheckV_any v q d ((unhide HF).at hx) W h
        have HST := hide (chkL_step vs k v hx)
        have H6 := hide h6
        unfold verL at KV
        clear hx hg hcell h5 h6
        by_cases he : Vc.chkV v = 0
        · have hok := ((Vc.chkV_zero v).1 he).dot
          rw [he] at KV
          rw [if_neg (by simpa using he)] at HST
          have hp0 : 0 ≤ v.dot.1 := hok.1
          clear he hok
          by_cases hk0 : 0 < k
          · obtain ⟨m, hm⟩ : ∃ m, k = m + 1 := ⟨k - 1, by omega⟩
            obtain ⟨u, hu⟩ : ∃ d, vs[m]? = some d := ⟨_, List.getElem?_eq_getElem (by omega)⟩
            have e' : prevQ vs k = u.dot.1 := by rw [hm]; exact prevQ_at vs m _ hu
            rw [e'] at HST HC1
            obtain ⟨q', d', y0, _, _, _, _, _, _⟩ := unhide HCell m u hu
            have HM := hide y0
            have HK := hide x0
            have hmi : (k : Int) - 1 = (m : Int) := by omega
            have hmw : IntKind.i64.wrap ((k : Int) - 1) = (m : Int) := by rw [hmi]; exact wrap_small (by omega) (by omega)
            have hml : m < vs.length := by omega
            have hgi : (0 : Int) < (k : Int) := by omega
            have HMK : Hid (k = m + 1) := hm
            clear hu hm e' y0
            generalize u.dot.1 = p' at HST HC1 HM
            generalize hvp : v.dot.1 = p at *
            clear hvp
            by_cases hle : p ≤ p'
            · have HNX : Hid (R = 8) := by
                have h := unhide HST
                rw [if_pos hle] at h
                have h8 : C = 8 := (unhide HC1).trans h
                exact hide ((unhide HBAD (by rw [h8]; decide)).trans h8)
              go_wp2_with (go_at_call 69; refine (unhide KV _ (unhide H6)).mono ?_; rintro e w2 ⟨rfl, hb2⟩; have HB2 := hide (below_grow (unhide HB) (Nat.le_refl _) hb2); have c2 := (hb2.cell (p := ⟨g, o + k * 5, none⟩) (unhide HG)).trans (unhide HK); have c3 := (hb2.cell (p := ⟨g, o + m * 5, none⟩) (unhide HG)).trans (unhide HM); clear hb2 x0 x1 x2 x3 x4)
              go_quiet (fail)
              go_wp2_with fail
              go_ret
              exact ⟨ret_int (unhide HNX).symm, below_drewN (unhide HB2) _⟩
            · have HNX : Hid (C = Vc.chkL (prevQ vs (k + 1)) (vs.drop (k + 1))) := by
                have h := unhide HST
                rw [if_neg hle] at h
                exact hide ((unhide HC1).trans h)
              go_wp2_with (go_at_call 69; refine (unhide KV _ (unhide H6)).mono ?_; rintro e w2 ⟨rfl, hb2⟩; have HB2 := hide (below_grow (unhide HB) (Nat.le_refl _) hb2); have c2 := (hb2.cell (p := ⟨g, o + k * 5, none⟩) (unhide HG)).trans (unhide HK); have c3 := (hb2.cell (p := ⟨g, o + m * 5, none⟩) (unhide HG)).trans (unhide HM); clear hb2 x0 x1 x2 x3 x4)
              go_quiet (fail)
              go_wp2_with fail
              go_roundw
              case rel => exact ⟨k + 1, by omega, by go_num, unhide HNX, below_drewN (unhide HB2) _⟩
              case measure => simp [intOf]; omega
          · have HNX : Hid (C = Vc.chkL (prevQ vs (k + 1)) (vs.drop (k + 1))) := by
              have h := unhide HST
              have e : prevQ vs k = -1 := by rw [show k = 0 by omega]; rfl
              rw [e, if_neg (show ¬ v.dot.1 ≤ -1 by omega)] at h
              rw [unhide HC1, e]
              exact h
            have hgd : decide (0 < (k : Int)) = false := decide_eq_false (by omega)
            go_wp2_with (go_at_call 69; refine (unhide KV _ (unhide H6)).mono ?_; rintro e w2 ⟨rfl, hb2⟩; have HB2 := hide (below_grow (unhide HB) (Nat.le_refl _) hb2); clear hb2 x0 x1 x2 x3 x4)
            go_quiet (fail)
            go_wp2_with fail
            go_roundw
            case rel => exact ⟨k + 1, by omega, by go_num, unhide HNX, below_drewN (unhide HB2) _⟩
            case measure => simp [intOf]; omega
        · have HNX : Hid (R = Vc.chkV v) := by
            have h := unhide HST
            rw [if_pos (by simpa using he)] at h
            have h8 : C = Vc.chkV v := (unhide HC1).trans h
            exact hide ((unhide HBAD (by rw [h8]; exact he)).trans h8)
          have heb : (Vc.chkV v != 0) = true := bne_iff_ne.2 he
          clear HST
          generalize Vc.chkV v = X at KV HNX heb he
          clear he
          go_wp2_with (go_at_call 69; refine (unhide KV _ (unhide H6)).mono ?_; rintro e w2 ⟨rfl, hb2⟩; have HB2 := hide (below_grow (unhide HB) (Nat.le_refl _) hb2); clear hb2 x0 x1 x2 x3 x4)
          go_ret
          exact ⟨ret_int (unhide HNX).symm, unhide HB2⟩
      · obtain rfl : k = vs.length := by omega
        have hC0 : C = 0 := (unhide HC1).trans (chkL_end vs _)
        subst hC0
        have HCOV2 := hide fun v hv hc => unhide HCOV rfl v hv hc
        have HFINE2 := hide fun hc => unhide HFINE rfl hc
        clear HC1 HBAD HCOV HFINE
        generalize wr = wa at HB S ⊢
        go_wp2_with fail
        go_loopw [5] (fun i wr => ∃ k : Nat, k ≤ vs.length ∧ i = .int .i64 k ∧ (∀ x ∈ vs.take k, Vc.covered vs x = false) ∧ Below w.heap.size w wr) (fun i _ => vs.length - (intOf i).toNat)
        case atStart => exact ⟨0, Nat.zero_le _, rfl, fun x hx => (by simp at hx), unhide HB⟩
        case round =>
          obtain ⟨k, hk, rfl, hall, hb⟩ := hrel
          have HALL := hide hall
          have HB2 := hide hb
          have S2 := hide ((unhide HS).after hb)
          clear hall hb HB S
          by_cases hlt : k < vs.length
          · obtain ⟨v, hx⟩ : ∃ d, vs[k]? = some d := ⟨_, List.getElem?_eq_getElem hlt⟩
            obtain ⟨g, o, rfl, hg, hcell⟩ := id (unhide S2) (by omega)
            obtain ⟨q, d, x0, x1, x2, x3, x4, h5, h6⟩ := hcell k v hx
            have K := hide fun W h => unhide KC v q d W h
            unfold verL at K
            by_cases hc : Vc.covered vs v = true
            · have HT : R = 7 := unhide HCOV2 v (List.mem_of_getElem? hx) hc
              subst HT
              rw [hc] at K
              clear hcell hx hc h5 h6 hg
              go_wp2_with (go_at_call 70; refine (unhide K _ (unhide S2)).mono ?_; rintro e w2 ⟨rfl, hb2⟩; replace HB2 := hide (below_grow (unhide HB2) (Nat.le_refl _) hb2); clear hb2 x0 x1 x2 x3 x4)
              go_ret
              exact ⟨rfl, unhide HB2⟩
            · rw [Bool.not_eq_true] at hc
              have HALL2 := hide (free_snoc hx (unhide HALL) hc)
              rw [hc] at K
              clear hcell hx hc h5 h6 hg
              go_wp2_with (go_at_call 70; refine (unhide K _ (unhide S2)).mono ?_; rintro e w2 ⟨rfl, hb2⟩; replace HB2 := hide (below_grow (unhide HB2) (Nat.le_refl _) hb2); clear hb2 x0 x1 x2 x3 x4)
              go_roundw
              case rel => exact ⟨k + 1, by omega, by go_num, unhide HALL2, unhide HB2⟩
              case measure => simp [intOf]; omega
          · obtain rfl : k = vs.length := by omega
            have HT : R = 0 := unhide HFINE2 fun x hx => unhide HALL x (by rw [List.take_length]; exact hx)
            subst HT
            go_wp2_with fail
            go_ret
            exact ⟨rfl, unhide HB2⟩
end Go.Proofs.Ytpfighkafmammaa

/-
  Which of two versions wins, whether two are the same, and two lists of them: the document's.
-/

namespace Go.Proofs.Ytpfighkafmammaa
open Go.RowKit

theorem data_inj (a b : ByteArray) (h : a.data.toList = b.data.toList) : a = b := ByteArray.ext (Array.toList_inj.1 h)
theorem toList_eq (a b : ByteArray) : (a.toList == b.toList) = decide (a = b) := by
  rw [Bool.eq_iff_iff, beq_iff_eq, decide_eq_true_eq, Lib.toList_data, Lib.toList_data]
  exact ⟨data_inj a b, fun h => by rw [h]⟩
theorem ver_eq {v u : Vc.V} : v = u ↔ v.dot = u.dot ∧ v.dead = u.dead ∧ v.data = u.data ∧ v.past = u.past := by
  constructor
  · rintro rfl; exact ⟨rfl, rfl, rfl, rfl⟩
  · rintro ⟨h1, h2, h3, h4⟩
    cases v
    cases u
    simp at *
    exact ⟨h1, h4, h2, h3⟩

set_option maxRecDepth 100000 in
set_option maxHeartbeats 1000000 in
theorem refSameV_any (v u : Vc.V) (r q : Option Addr) (c d : Nat) (hl : v.past.length ≤ 9223372036854775807) (w : World) (sv : Sl w r v.past) (su : Sl w q u.past) (D : Bool) (hD : D = true ↔ v = u) :
    Calls Try.prog 50 #[.agg (verL v r c).toArray, .agg (verL u q d).toArray] w fun e w' => e = .returned (.bool D) ∧ Below w.heap.size w w' := by
  rw [ver_eq] at hD
  obtain ⟨⟨p, n⟩, P, x, s⟩ := v
  obtain ⟨⟨p', n'⟩, P', x', s'⟩ := u
  unfold verL
  dsimp only at hD hl sv su ⊢
  by_cases hp : p = p'
  · subst hp
    by_cases hn : n = n'
    · subst hn
      by_cases hx : x = x'
      · subst hx
        have hxx : (x == x) = true := by simp
        by_cases hs : s = s'
        · subst hs
          have hDp : D = true ↔ P = P' := hD.trans ⟨fun h => h.2.2.2, fun h => ⟨rfl, rfl, rfl, h⟩⟩
          clear hD
          have HB := hide ((below_alloc' (w := w) (.cells #[.int .i64 p, .int .i64 n, .slice r P.length c, .bool x, .string s] 61)).alloc (by simp) (.cells #[.int .i64 p, .int .i64 n, .slice q P'.length d, .bool x, .string s] 61))
          have RS := hide ((VRow.new w 61 [.int .i64 p, .int .i64 n, .slice r P.length c, .bool x, .string s]).alloc (.cells #[.int .i64 p, .int .i64 n, .slice q P'.length d, .bool x, .string s] 61))
          have RT := hide (VRow.newAt (W := w.alloc (.cells #[.int .i64 p, .int .i64 n, .slice r P.length c, .bool x, .string s] 61)) (T := 61) (n := w.heap.size + 1) (vs := [.int .i64 p, .int .i64 n, .slice q P'.length d, .bool x, .string s]) (by simp))
          have a0 := (unhide RS).cell 0 _ rfl
          have b0 := (unhide RT).cell 0 _ rfl
          have a1 := (unhide RS).cell 1 _ rfl
          have b1 := (unhide RT).cell 1 _ rfl
          have a2 := (unhide RS).cell 2 _ rfl
          have b2 := (unhide RT).cell 2 _ rfl
          have a3 := (unhide RS).cell 3 _ rfl
          have b3 := (unhide RT).cell 3 _ rfl
          have a4 := (unhide RS).cell 4 _ rfl
          have b4 := (unhide RT).cell 4 _ rfl
          clear RS RT
          have S := hide (sv.after (unhide HB))
          have T := hide (su.after (unhide HB))
          have K := hide fun W h h' => refSame_any r q c d P P' hl W h h' D hDp
          clear sv su hDp
          go_enter Try.func50, Try.ntmps50
          go_wp2_with fail
          refine (unhide K _ (unhide S) (unhide T)).mono ?_
          rintro e w1 ⟨rfl, hb⟩
          have HB1 := hide (below_grow (unhide HB) (Nat.le_refl _) hb)
          clear hb
          go_wp2_with fail
          go_ret
          exact ⟨rfl, unhide HB1⟩
        · obtain rfl : D = false := by
            cases D with
            | false => rfl
            | true => exact absurd (hD.1 rfl).2.2.1 hs
          clear hD sv su
          have HB := hide ((below_alloc' (w := w) (.cells #[.int .i64 p, .int .i64 n, .slice r P.length c, .bool x, .string s] 61)).alloc (by simp) (.cells #[.int .i64 p, .int .i64 n, .slice q P'.length d, .bool x, .string s'] 61))
          have RS := hide ((VRow.new w 61 [.int .i64 p, .int .i64 n, .slice r P.length c, .bool x, .string s]).alloc (.cells #[.int .i64 p, .int .i64 n, .slice q P'.length d, .bool x, .string s'] 61))
          have RT := hide (VRow.newAt (W := w.alloc (.cells #[.int .i64 p, .int .i64 n, .slice r P.length c, .bool x, .string s] 61)) (T := 61) (n := w.heap.size + 1) (vs := [.int .i64 p, .int .i64 n, .slice q P'.length d, .bool x, .string s']) (by simp))
          have a0 := (unhide RS).cell 0 _ rfl
          have b0 := (unhide RT).cell 0 _ rfl
          have a1 := (unhide RS).cell 1 _ rfl
          have b1 := (unhide RT).cell 1 _ rfl
          have a2 := (unhide RS).cell 2 _ rfl
          have b2 := (unhide RT).cell 2 _ rfl
          have a3 := (unhide RS).cell 3 _ rfl
          have b3 := (unhide RT).cell 3 _ rfl
          have a4 := (unhide RS).cell 4 _ rfl
          have b4 := (unhide RT).cell 4 _ rfl
          clear RS RT
          have hss : (s.toList == s'.toList) = false := (toList_eq s s').trans (decide_eq_false hs)
          go_enter Try.func50, Try.ntmps50
          go_wp2_with fail
          go_ret
          exact ⟨rfl, unhide HB⟩
      · obtain rfl : D = false := by
          cases D with
          | false => rfl
          | true => exact absurd (hD.1 rfl).2.1 hx
        clear hD sv su
        have HB := hide ((below_alloc' (w := w) (.cells #[.int .i64 p, .int .i64 n, .slice r P.length c, .bool x, .string s] 61)).alloc (by simp) (.cells #[.int .i64 p, .int .i64 n, .slice q P'.length d, .bool x', .string s'] 61))
        have RS := hide ((VRow.new w 61 [.int .i64 p, .int .i64 n, .slice r P.length c, .bool x, .string s]).alloc (.cells #[.int .i64 p, .int .i64 n, .slice q P'.length d, .bool x', .string s'] 61))
        have RT := hide (VRow.newAt (W := w.alloc (.cells #[.int .i64 p, .int .i64 n, .slice r P.length c, .bool x, .string s] 61)) (T := 61) (n := w.heap.size + 1) (vs := [.int .i64 p, .int .i64 n, .slice q P'.length d, .bool x', .string s']) (by simp))
        have a0 := (unhide RS).cell 0 _ rfl
        have b0 := (unhide RT).cell 0 _ rfl
        have a1 := (unhide RS).cell 1 _ rfl
        have b1 := (unhide RT).cell 1 _ rfl
        have a2 := (unhide RS).cell 2 _ rfl
        have b2 := (unhide RT).cell 2 _ rfl
        have a3 := (unhide RS).cell 3 _ rfl
        have b3 := (unhide RT).cell 3 _ rfl
        have a4 := (unhide RS).cell 4 _ rfl
        have b4 := (unhide RT).cell 4 _ rfl
        clear RS RT
        have hxx : (x == x') = false := by simpa using hx
        go_enter Try.func50, Try.ntmps50
        go_wp2_with fail
        go_ret
        exact ⟨rfl, unhide HB⟩
    · obtain rfl : D = false := by
        cases D with
        | false => rfl
        | true => exact absurd (hD.1 rfl).1 (fun e => hn (by injection e))
      clear hD sv su
      have HB := hide ((below_alloc' (w := w) (.cells #[.int .i64 p, .int .i64 n, .slice r P.length c, .bool x, .string s] 61)).alloc (by simp) (.cells #[.int .i64 p, .int .i64 n', .slice q P'.length d, .bool x', .string s'] 61))
      have RS := hide ((VRow.new w 61 [.int .i64 p, .int .i64 n, .slice r P.length c, .bool x, .string s]).alloc (.cells #[.int .i64 p, .int .i64 n', .slice q P'.length d, .bool x', .string s'] 61))
      have RT := hide (VRow.newAt (W := w.alloc (.cells #[.int .i64 p, .int .i64 n, .slice r P.length c, .bool x, .string s] 61)) (T := 61) (n := w.heap.size + 1) (vs := [.int .i64 p, .int .i64 n', .slice q P'.length d, .bool x', .string s']) (by simp))
      have a0 := (unhide RS).cell 0 _ rfl
      have b0 := (unhide RT).cell 0 _ rfl
      have a1 := (unhide RS).cell 1 _ rfl
      have b1 := (unhide RT).cell 1 _ rfl
      have a2 := (unhide RS).cell 2 _ rfl
      have b2 := (unhide RT).cell 2 _ rfl
      have a3 := (unhide RS).cell 3 _ rfl
      have b3 := (unhide RT).cell 3 _ rfl
      have a4 := (unhide RS).cell 4 _ rfl
      have b4 := (unhide RT).cell 4 _ rfl
      clear RS RT
      go_enter Try.func50, Try.ntmps50
      go_wp2_with fail
      go_ret
      exact ⟨rfl, unhide HB⟩
  · obtain rfl : D = false := by
      cases D with
      | false => rfl
      | true => exact absurd (hD.1 rfl).1 (fun e => hp (by injection e))
    clear hD sv su
    have HB := hide ((below_alloc' (w := w) (.cells #[.int .i64 p, .int .i64 n, .slice r P.length c, .bool x, .string s] 61)).alloc (by simp) (.cells #[.int .i64 p', .int .i64 n', .slice q P'.length d, .bool x', .string s'] 61))
    have RS := hide ((VRow.new w 61 [.int .i64 p, .int .i64 n, .slice r P.length c, .bool x, .string s]).alloc (.cells #[.int .i64 p', .int .i64 n', .slice q P'.length d, .bool x', .string s'] 61))
    have RT := hide (VRow.newAt (W := w.alloc (.cells #[.int .i64 p, .int .i64 n, .slice r P.length c, .bool x, .string s] 61)) (T := 61) (n := w.heap.size + 1) (vs := [.int .i64 p', .int .i64 n', .slice q P'.length d, .bool x', .string s']) (by simp))
    have a0 := (unhide RS).cell 0 _ rfl
    have b0 := (unhide RT).cell 0 _ rfl
    have a1 := (unhide RS).cell 1 _ rfl
    have b1 := (unhide RT).cell 1 _ rfl
    have a2 := (unhide RS).cell 2 _ rfl
    have b2 := (unhide RT).cell 2 _ rfl
    have a3 := (unhide RS).cell 3 _ rfl
    have b3 := (unhide RT).cell 3 _ rfl
    have a4 := (unhide RS).cell 4 _ rfl
    have b4 := (unhide RT).cell 4 _ rfl
    clear RS RT
    go_enter Try.func50, Try.ntmps50
    go_wp2_with fail
    go_ret
    exact ⟨rfl, unhide HB⟩

set_option maxRecDepth 100000 in
set_option maxHeartbeats 1000000 in
theorem refSameVs_any (a b : Option Addr) (ca cb : Nat) (us vs : List Vc.V) (hf : Few us) (hg : Few vs) (w : World) (ha : SV w a us) (hb : SV w b vs) (D : Bool) (hD : D = true ↔ us = vs) :
    Calls Try.prog 28 #[.slice a us.length ca, .slice b vs.length cb] w fun e w' => e = .returned (.bool D) ∧ Below w.heap.size w w' := by
  have HA := hide ha
  have HB := hide hb
  have HF := hide hf
  have HG := hide hg
  have HD := hide hD
  have hl := hf.1
  have hl2 := hg.1
  clear ha hb hf hg hD
  by_cases hlen : us.length = vs.length
  · have hbe : ((us.length : Int) != (vs.length : Int)) = false := by simp [hlen]
    have HLEN := hide hlen
    clear hlen
    go_enter Try.func28, Try.ntmps28
    go_wp2_with fail
    go_loopw [5] (fun i wr => ∃ k : Nat, k ≤ us.length ∧ i = .int .i64 k ∧ us.take k = vs.take k ∧ Below w.heap.size w wr) (fun i _ => us.length - (intOf i).toNat)
    case atStart => exact ⟨0, Nat.zero_le _, rfl, rfl, Below.refl _ _⟩
    case round =>
      obtain ⟨k, hk, rfl, heq, hb⟩ := hrel
      have HEQ := hide heq
      have HBr := hide hb
      have S := (unhide HA).after hb
      have T := (unhide HB).after hb
      clear heq hb
      by_cases hlt : k < us.length
      · have hlt2 : k < vs.length := by have := unhide HLEN; omega
        obtain ⟨x, hx⟩ : ∃ d, us[k]? = some d := ⟨_, List.getElem?_eq_getElem hlt⟩
        obtain ⟨y, hy⟩ : ∃ d, vs[k]? = some d := ⟨_, List.getElem?_eq_getElem hlt2⟩
        obtain ⟨g, o, rfl, hg, hcell⟩ := S (by omega)
        obtain ⟨g', o', rfl, hg', hcell'⟩ := T (by omega)
        obtain ⟨q, d, h0, h1, h2, h3, h4, h5, h6⟩ := hcell k x hx
        obtain ⟨q', d', h0', h1', h2', h3', h4', h5', h6'⟩ := hcell' k y hy
        have x0 := cell_regrown h0
        have x1 := cell_regrown h1
        have x2 := cell_regrown h2
        have x3 := cell_regrown h3
        have x4 := cell_regrown h4
        have y0 := cell_regrown h0'
        have y1 := cell_regrown h1'
        have y2 := cell_regrown h2'
        have y3 := cell_regrown h3'
        have y4 := cell_regrown h4'
        have H6 := hide h6
        have H6' := hide h6'
        by_cases hxy : x = y
        · have K := hide fun W h h' => refSameV_any x y q q' d d' ((unhide HF).at hx) W h h' true (by simp [hxy])
          unfold verL at K
          have HEQ2 : Hid (us.take (k + 1) = vs.take (k + 1)) := hide (by rw [take_snocA hx, take_snocA hy, unhide HEQ, hxy])
          clear hcell hcell' hx hy h0 h1 h2 h3 h4 h5 h6 h0' h1' h2' h3' h4' h5' h6' hxy
          go_wp2_with fail
          refine wp_region_quiet_below (by kernel_rfl) (by kernel_rfl) ?_
          repeat (quiet_step (first | (go_at_call 50; exact Calls.regrown_of (unhide K _ ((unhide H6).after (below_regrown _ _ _)) ((unhide H6').after (below_regrown _ _ _))))))
          refine wpQuiet_nil ?_
          intro _ hw'
          obtain ⟨⟨dq, osq⟩, hw''⟩ := hw'
          subst hw''
          go_wp2_with fail
          go_roundw
          case rel => exact ⟨k + 1, by omega, by go_num, unhide HEQ2, below_grow (unhide HBr) (Nat.le_refl _) (below_regrown _ _ _)⟩
          case measure => simp [intOf]; omega
        · have K := hide fun W h h' => refSameV_any x y q q' d d' ((unhide HF).at hx) W h h' false (by simp [hxy])
          unfold verL at K
          obtain rfl : D = false := by
            cases D with
            | false => rfl
            | true =>
              have e := (unhide HD).1 rfl
              rw [e, hy] at hx
              injection hx with hx
              exact absurd hx.symm hxy
          clear hcell hcell' hx hy h0 h1 h2 h3 h4 h5 h6 h0' h1' h2' h3' h4' h5' h6' hxy
          go_wp2_with fail
          refine wp_region_quiet_below (by kernel_rfl) (by kernel_rfl) ?_
          repeat (quiet_step (first | (go_at_call 50; exact Calls.regrown_of (unhide K _ ((unhide H6).after (below_regrown _ _ _)) ((unhide H6').after (below_regrown _ _ _))))))
          refine wpQuiet_nil ?_
          intro _ hw'
          obtain ⟨⟨dq, osq⟩, hw''⟩ := hw'
          subst hw''
          go_wp2_with fail
          go_ret
          exact ⟨rfl, below_grow (unhide HBr) (Nat.le_refl _) (below_regrown _ _ _)⟩
      · obtain rfl : k = us.length := by omega
        obtain rfl : D = true := (unhide HD).2 (by have h := unhide HEQ; rw [List.take_length, unhide HLEN, List.take_length] at h; exact h)
        go_wp2_with fail
        go_ret
        exact ⟨rfl, unhide HBr⟩
  · have hbe : ((us.length : Int) != (vs.length : Int)) = true := by simp; omega
    obtain rfl : D = false := by
      cases D with
      | false => rfl
      | true => exact absurd (by rw [(unhide HD).1 rfl]) hlen
    go_enter Try.func28, Try.ntmps28
    go_wp2_with fail
    go_ret
    exact ⟨rfl, Below.refl _ _⟩
end Go.Proofs.Ytpfighkafmammaa

/-
  What the document's Join, Meet and With answer, and the program's With.
-/

namespace Go.Proofs.Ytpfighkafmammaa
open Go.RowKit

theorem one_sl1 (w : World) (p c : Int) : Sl (w.alloc (.cells #[.int .i64 p, .int .i64 c] 58)) (some ⟨w.heap.size, 0, none⟩) [(p, c)] := fun _ => by
  have hr := VRow.new w 58 [.int .i64 p, .int .i64 c]
  refine ⟨w.heap.size, 0, rfl, lt_new _ _, fun j d hj => ?_⟩
  have hj2 : j = 0 := by have := (List.getElem?_eq_some_iff.1 hj).1; simp at this; omega
  subst hj2
  simp at hj
  subst hj
  exact ⟨hr.cell 0 _ rfl, hr.cell 1 _ rfl⟩

end Go.Proofs.Ytpfighkafmammaa

/-
  What readers see of versions: the document's.
-/

namespace Go.Proofs.Ytpfighkafmammaa
open Go.RowKit

def zeroV : Vc.V := ⟨(0, 0), [], false, ⟨#[]⟩⟩
def zero61 : List Value := [.int .i64 0, .int .i64 0, .slice none 0 0, .bool false, .string ⟨#[]⟩]
theorem size61 : (Try.prog.info? 61).map (·.size) = some 5 := by kernel_rfl
theorem Sl.onlyNe {w w' : World} {D : Nat} {r : Option Addr} {ds : List Vc.D} (h : Sl w r ds) (ho : Only D w w') (hne : ∀ ad, r = some ad → 0 < ds.length → ad.block ≠ D) : Sl w' r ds := fun h0 => by
  obtain ⟨g, o, e, hg, hc⟩ := h h0
  have hn : g ≠ D := hne _ e h0
  have e1 : ∀ k, w'.cell? ⟨g, k, Option.none⟩ = w.cell? ⟨g, k, Option.none⟩ := fun k => World.cell?_of_block (w := w) (ho.block g hn)
  refine ⟨g, o, e, by rw [ho.size]; exact hg, fun j d hj => ?_⟩
  rw [e1, e1]
  exact hc j d hj
theorem verL_one (v : Vc.V) (r : Option Addr) (c : Nat) : ∀ x ∈ verL v r c, x.oneCell' = true := by simp [verL, Value.oneCell']

end Go.Proofs.Ytpfighkafmammaa

/-
  What the document's reader does with a digest.
-/

namespace Go.Proofs.Ytpfighkafmammaa
open Go.RowKit

theorem Beside.only {own : Nat → Prop} {B : Nat} {w a w' : World} (h : Beside own w a) (ho : Only B a w') (hB : w.heap.size ≤ B) : Beside own w w' :=
  ⟨ho.os.trans h.os, ho.tape.trans h.tape, ho.output.trans h.output, by rw [ho.size]; exact h.size, fun k hk hk2 => (ho.block k (by omega)).trans (h.block k hk hk2)⟩
theorem Beside.under {own : Nat → Prop} {n : Nat} {w a w' : World} (h : Beside own w a) (hb : Below n a w') (hn : w.heap.size ≤ n) : Beside own w w' :=
  ⟨hb.os.trans h.os, hb.tape.trans h.tape, hb.output.trans h.output, Nat.le_trans h.size hb.size, fun k hk hk2 => (hb.block k (by omega)).trans (h.block k hk hk2)⟩
theorem at_str {b : List UInt8} {k : Nat} (h : k < (str b).size) : b[k]? = some (str b)[k] := by
  have h1 := at_data (str b) k h
  rw [str_data] at h1
  rw [str_size] at h
  rw [List.getElem?_eq_getElem h] at h1 ⊢
  rw [← h1]
  rfl
theorem Doc.only {W W' : World} {q T B : Nat} {st : St} (h : Doc W q T st) (ho : Only B W W') (hne : q ≠ B) : Doc W' q T st := VRow.only h ho hne

end Go.Proofs.Ytpfighkafmammaa

/-
  What the program's writer and reader must answer, as the laws want it; pieces in memory.
-/

namespace Go.Proofs.Ytpfighkafmammaa
open Go.RowKit

/-- An int of 64 bits. -/
def I64 (n : Int) : Prop := -9223372036854775808 ≤ n ∧ n ≤ 9223372036854775807
/-- The cells of a Writer that has nothing. -/
abbrev zeroW : Array Value := #[.slice none 0 0, .int .i64 0]
/-- What is turned is owned, or new. -/
def Turned (X : World → Addr → St → (Nat → Prop) → Prop) (own : Nat → Prop) (p : Addr) (w : World) (st : St) (v : Value) (e : Ending) (w' : World) : Prop :=
  ∃ own' : Nat → Prop, e = .returned v ∧ X w' p st own' ∧ (∀ g, own' g → own g ∨ w.heap.size ≤ g) ∧ Beside own w w'
def Told (w : World) (v : Value) (e : Ending) (w' : World) : Prop := e = .returned v ∧ Below w.heap.size w w'
theorem below_beside {own : Nat → Prop} {n : Nat} {a w w' : World} (h : Below n a w) (hn : n ≤ a.heap.size) (ho : ∀ g, own g → n ≤ g) (hb : Beside own w w') : Below n a w' := h.trans (hb.below (Nat.le_trans hn h.size) ho)
theorem own_beside {own own' : Nat → Prop} {n : Nat} {a w : World} (h : Below n a w) (hn : n ≤ a.heap.size) (ho : ∀ g, own g → n ≤ g) (hb : ∀ g, own' g → own g ∨ w.heap.size ≤ g) : ∀ g, own' g → n ≤ g := fun g hg => by
  rcases hb g hg with h1 | h1
  · exact ho g h1
  · have := h.size; omega

theorem range_after {W W' : World} {g o : Nat} {cs : List Value} (h : W.rangeAt g o cs) (hg : g < W.heap.size) (hb : Below W.heap.size W W') : W'.rangeAt g o cs := fun j v hv => (hb.cell (p := ⟨g, o + j, none⟩) hg).trans (h j v hv)
theorem VRow.range {W : World} {B T : Nat} {vs : List Value} (h : VRow W B T vs) : W.rangeAt B 0 vs := fun j v hv => by rw [Nat.zero_add]; exact h.cell j v hv
end Go.Proofs.Ytpfighkafmammaa

/-
  Entries in memory: one by value, a slice of them wherever it lies, a row of the call's own. Conditions: those that each theorem names.
-/

namespace Go.Proofs.Ytpfighkafmammaa
open Go.RowKit

/-- An entry's cells. -/
def entL (x : En) (r : Option Addr) (c : Nat) : List Value := [.string x.1, .slice r x.2.length c]
def EAt (W : World) (g o : Nat) (x : En) : Prop := ∃ r c, W.cell? ⟨g, o, none⟩ = some (.string x.1) ∧ W.cell? ⟨g, o + 1, none⟩ = some (.slice r x.2.length c) ∧ x.2.length ≤ c ∧ SV W r x.2
theorem EAt.after {W W' : World} {g o : Nat} {x : En} (h : EAt W g o x) (hg : g < W.heap.size) (hb : Below W.heap.size W W') : EAt W' g o x := by
  obtain ⟨r, c, h0, h1, h2, h3⟩ := h
  exact ⟨r, c, (hb.cell (p := ⟨g, o, none⟩) hg).trans h0, (hb.cell (p := ⟨g, o + 1, none⟩) hg).trans h1, h2, h3.after hb⟩
/-- A slice of entries, wherever it lies. -/
def EL (W : World) (a : Option Addr) (es : List En) : Prop := 0 < es.length → ∃ g o, a = some ⟨g, o, none⟩ ∧ g < W.heap.size ∧ ∀ (j : Nat) (x : En), es[j]? = some x → EAt W g (o + j * 2) x
theorem EL.after {W W' : World} {a : Option Addr} {es : List En} (h : EL W a es) (hb : Below W.heap.size W W') : EL W' a es := fun h0 => by
  obtain ⟨g, o, e, hg, hc⟩ := h h0
  exact ⟨g, o, e, Nat.lt_of_lt_of_le hg hb.size, fun j x hj => (hc j x hj).after hg hb⟩
theorem EL.none (W : World) (a : Option Addr) : EL W a [] := fun h => absurd h (Nat.lt_irrefl _)
/-- Few enough entries, their paths and leaves as well. -/
structure Eok (es : List En) : Prop where
  len : es.length ≤ 50000
  path : ∀ x ∈ es, x.1.size ≤ 1000
  few : ∀ x ∈ es, Few x.2
  data : ∀ x ∈ es, ∀ v ∈ x.2, v.data.size ≤ 9223372036854775807
theorem Eok.nil : Eok [] := ⟨by simp, fun _ h => (by cases h), fun _ h => (by cases h), fun _ h => (by cases h)⟩
theorem sizeEn : (Try.prog.info? 44).map (·.size) = some 2 := by kernel_rfl
theorem infoEn : (Try.prog.info? 44).map (fun i => (i.zero, i.size, i.bytes)) = some (some (.agg #[.string ⟨#[]⟩, .slice none 0 0]), 2, 40) := by kernel_rfl
theorem ent_range {W : World} {g o : Nat} {x : En} {r : Option Addr} {c : Nat} (h0 : W.cell? ⟨g, o, none⟩ = some (.string x.1)) (h1 : W.cell? ⟨g, o + 1, none⟩ = some (.slice r x.2.length c)) : W.rangeAt g o (entL x r c) := fun j u hu => by
  have hj : j < 2 := (List.getElem?_eq_some_iff.1 hu).1
  rcases (show j = 0 ∨ j = 1 by omega) with rfl | rfl <;> (simp [entL] at hu; subst hu; assumption)
theorem load_ent {ops : Array Oper} {rest : List Oper} {o : Oper} {a : Act} {w : World} {Q : Exit → Act → World → Prop} (hgd : o.guard = none) (x : Operand) (ho : o.op = .load 44 x)
    (B i : Nat) (hx : a.eval x = .pointer (some ⟨B, i, none⟩)) (y : En) (r : Option Addr) (c : Nat) (hr : w.rangeAt B i (entL y r c))
    (h : wpList Try.prog ops Q rest (a.put o.dst (.agg #[.string y.1, .slice r y.2.length c])) w) : wpList Try.prog ops Q (o :: rest) a w :=
  wpList_load_mid hgd 44 x ho B i hx _ _ hr Try.underlying44 rfl (by rw [sizeEn]; rfl) (show wpList Try.prog ops Q rest (a.put o.dst (.agg (entL y r c).toArray)) w from h)

/-! A row of entries of the call's own. -/
/-- An entry, and where its leaf lies. -/
abbrev EP := En × Option Addr × Nat
def flatE : List EP → List Value
  | [] => []
  | x :: l => entL x.1 x.2.1 x.2.2 ++ flatE l
theorem flatE_len : ∀ l : List EP, (flatE l).length = l.length * 2
  | [] => rfl
  | x :: l => by simp [flatE, entL, flatE_len l]; omega
theorem flatE_append : ∀ l m : List EP, flatE (l ++ m) = flatE l ++ flatE m
  | [], _ => rfl
  | x :: l, m => by simp [flatE, flatE_append l m]
theorem flatE_one : ∀ (l : List EP), ∀ v ∈ flatE l, v.oneCell' = true
  | [], _, h => by cases h
  | x :: l, v, h => by
    rcases List.mem_append.1 h with h | h
    · simp [entL] at h
      rcases h with rfl | rfl <;> rfl
    · exact flatE_one l v h
theorem flatE_get : ∀ (l : List EP) (j : Nat) (x : EP), l[j]? = some x → ∀ i u, (entL x.1 x.2.1 x.2.2)[i]? = some u → (flatE l)[j * 2 + i]? = some u
  | [], j, x, h, _, _, _ => by simp at h
  | y :: l, 0, x, h, i, u, hu => by
    simp at h
    subst h
    have hi : i < (entL y.1 y.2.1 y.2.2).length := (List.getElem?_eq_some_iff.1 hu).1
    rw [flatE, Nat.zero_mul, Nat.zero_add, List.getElem?_append_left hi]
    exact hu
  | y :: l, j + 1, x, h, i, u, hu => by
    rw [flatE, List.getElem?_append_right (by simp [entL]; omega)]
    rw [show (j + 1) * 2 + i - (entL y.1 y.2.1 y.2.2).length = j * 2 + i by simp [entL]; omega]
    exact flatE_get l j x (by simpa using h) i u hu
/-- Not in a row's block. -/
def Off (row : Option Nat) : Nat → Prop := fun g => some g ≠ row
theorem SV.off {W W0 : World} {r : Option Addr} {vs : List Vc.V} (h : SV W0 r vs) {row : Option Nat} (hr : ∀ g, row = some g → W0.heap.size ≤ g) (hb : Below W0.heap.size W0 W) : SV W r vs ∧ Prov (Off row) W r vs :=
  ⟨h.after hb, (h.prov (O := Off row) fun g hg e => by have := hr g e.symm; omega).after h hb⟩
theorem sv_grown {w w' : World} {row : Option Nat} {r : Option Addr} {vs : List Vc.V} (h : SV w r vs) (hp : Prov (Off row) w r vs) (hg : w.grownBy w' row) : SV w' r vs := fun h0 => by
  obtain ⟨g, o, e, hlt, hc⟩ := h h0
  obtain ⟨h1, h2⟩ := hp h0 g o e
  have hk : ∀ k, w'.cell? ⟨g, k, none⟩ = w.cell? ⟨g, k, none⟩ := fun k => World.cell?_of_block (hg.block g hlt h1)
  refine ⟨g, o, e, Nat.lt_of_lt_of_le hlt hg.size, fun j v hj => ?_⟩
  obtain ⟨r', c', x0, x1, x2, x3, x4, x5, x6⟩ := hc j v hj
  refine ⟨r', c', (hk _).trans x0, (hk _).trans x1, (hk _).trans x2, (hk _).trans x3, (hk _).trans x4, x5, fun h3 => ?_⟩
  obtain ⟨g2, o2, e2, hg2, hc2⟩ := x6 h3
  have hk2 : ∀ k, w'.cell? ⟨g2, k, none⟩ = w.cell? ⟨g2, k, none⟩ := fun k => World.cell?_of_block (hg.block g2 hg2 (h2 j v r' c' hj x2 _ e2 h3))
  exact ⟨g2, o2, e2, Nat.lt_of_lt_of_le hg2 hg.size, fun i d hi => by rw [hk2, hk2]; exact hc2 i d hi⟩
theorem prov_grown {O' : Nat → Prop} {w w' : World} {row : Option Nat} {r : Option Addr} {vs : List Vc.V} (h : SV w r vs) (hp : Prov (Off row) w r vs) (hg : w.grownBy w' row) (hO : ∀ g, g < w.heap.size → Off row g → O' g) : Prov O' w' r vs := fun h0 g o e => by
  obtain ⟨g', o', e', hlt, hc⟩ := h h0
  rw [e] at e'
  injection e' with e'
  injection e' with e1 e2
  subst e1
  subst e2
  obtain ⟨h1, h2⟩ := hp h0 g o e
  have hk : ∀ k, w'.cell? ⟨g, k, none⟩ = w.cell? ⟨g, k, none⟩ := fun k => World.cell?_of_block (hg.block g hlt h1)
  refine ⟨hO g hlt h1, fun j v r' c' hj hcell ad ead h3 => ?_⟩
  rw [hk] at hcell
  have h4 := h2 j v r' c' hj hcell ad ead h3
  refine hO _ ?_ h4
  obtain ⟨r2, c2, _, _, x2, _, _, _, x6⟩ := hc j v hj
  rw [hcell] at x2
  injection x2 with x2
  injection x2 with x2 _ _
  subst x2
  obtain ⟨g2, o2, e2, hg2, _⟩ := x6 h3
  rw [ead] at e2
  injection e2 with e2
  subst e2
  exact hg2
structure OE (W : World) (base : Nat) (l : Value) (es : List En) : Prop where
  is : ∃ ps : List EP, ps.map (·.1) = es ∧ W.ownsRow base 44 2 l ps.length (flatE ps) ∧ ∀ x ∈ ps, x.1.2.length ≤ x.2.2 ∧ SV W x.2.1 x.1.2 ∧ Prov (Off l.ownBlock) W x.2.1 x.1.2
theorem OE.nil (W : World) (base : Nat) : OE W base (.slice none 0 0) [] := ⟨[], rfl, World.ownsRow_nil _ _ _ _, fun _ h => by cases h⟩
theorem OE.after {W W' : World} {base : Nat} {l : Value} {es : List En} (h : OE W base l es) (hb : Below W.heap.size W W') : OE W' base l es := by
  obtain ⟨ps, h1, h2, h3⟩ := h.is
  refine ⟨ps, h1, ?_, fun x hx => ⟨(h3 x hx).1, (h3 x hx).2.1.after hb, (h3 x hx).2.2.after (h3 x hx).2.1 hb⟩⟩
  refine ⟨h2.1, ?_⟩
  rcases h2.2 with h2 | ⟨g, cap, cur, e1, e2, e3, e4⟩
  · exact .inl h2
  · exact .inr ⟨g, cap, cur, e1, e2, (hb.block g (Array.getElem?_eq_some_iff.1 e3).1).trans e3, e4⟩
theorem OE.lt {W : World} {base : Nat} {l : Value} {es : List En} (h : OE W base l es) : ∀ g, l.ownBlock = some g → base ≤ g ∧ g < W.heap.size := fun g e => by
  obtain ⟨ps, _, h2, _⟩ := h.is
  rcases h2.2 with ⟨rfl, _⟩ | ⟨g', cap, cur, rfl, e2, e3, _⟩
  · cases e
  · injection e with e
    subst e
    exact ⟨e2, (Array.getElem?_eq_some_iff.1 e3).1⟩
theorem OE.el {W : World} {base : Nat} {l : Value} {es : List En} (h : OE W base l es) : ∃ a cap, l = .slice a es.length cap ∧ es.length ≤ cap ∧ EL W a es := by
  obtain ⟨ps, rfl, h2, h3⟩ := h.is
  rcases h2.2 with ⟨rfl, h0⟩ | ⟨g, cap, cur, rfl, hg, hh, c1, c2, c3, c4⟩
  · have : ps = [] := List.eq_nil_of_length_eq_zero h0
    subst this
    exact ⟨none, 0, rfl, Nat.le_refl _, EL.none _ _⟩
  · have e1 : ∀ j x, ps[j]? = some x → ∀ i u, (entL x.1 x.2.1 x.2.2)[i]? = some u → W.cell? ⟨g, 0 + j * 2 + i, none⟩ = some u := by
      intro j x hx i u hu
      have hjl : j < ps.length := (List.getElem?_eq_some_iff.1 hx).1
      have hi : i < 2 := (List.getElem?_eq_some_iff.1 hu).1
      rw [cell_of_row W g _ cur 44 (0, 0) hh]
      have h5 : (cur.toList.take (ps.length * 2))[j * 2 + i]? = (flatE ps)[j * 2 + i]? := by rw [c4]
      rw [List.getElem?_take_of_lt (by omega), flatE_get ps j x hx i u hu] at h5
      rw [show 0 + j * 2 + i = j * 2 + i by omega]
      simpa using h5
    refine ⟨_, cap, by rw [List.length_map], by rw [List.length_map]; exact c1, fun _ => ⟨g, 0, rfl, (Array.getElem?_eq_some_iff.1 hh).1, fun j v hj => ?_⟩⟩
    rw [List.getElem?_map] at hj
    obtain ⟨x, hx, rfl⟩ := Option.map_eq_some_iff.1 hj
    have hm := h3 x (List.mem_of_getElem? hx)
    exact ⟨x.2.1, x.2.2, e1 j x hx 0 _ rfl, e1 j x hx 1 _ rfl, hm.1, hm.2.1⟩
/-- One entry appended to a row of the call's own. -/
theorem append_ent {w : World} {ops : Array Oper} {rest : List Oper} {o : Oper} {a : Act} {Q : Exit → Act → World → Prop} (hgd : o.guard = none) (s x : Operand)
    (ho : o.op = .call { callee := .builtin .append, args := #[s, x], argTypes := #[22, 22] }) (base : Nat) (v : Value) (es : List En) (hs : a.eval s = v) (hown : OE w base v es)
    (D : Nat) (y : En) (r : Option Addr) (c : Nat) (hx : a.eval x = .slice (some ⟨D, 0, none⟩) 1 1) (hD : w.rangeAt D 0 (entL y r c)) (hc : y.2.length ≤ c) (hv : SV w r y.2) (hp : Prov (Off v.ownBlock) w r y.2) (hn : es.length ≤ 150000) (hbase : base ≤ w.heap.size)
    (h : ∀ v' w', OE w' base v' (es ++ [y]) → Below base w w' → w.grownBy w' v.ownBlock → wpList Try.prog ops Q rest (a.put o.dst v') w') : wpList Try.prog ops Q (o :: rest) a w := by
  obtain ⟨i0, hi, hz0, hz1, hz2⟩ := info_parts infoEn
  obtain ⟨ps, e1, e2, e3⟩ := hown.is
  subst e1
  rw [List.length_map] at hn
  refine wpList_append_own_at w hgd s x 22 ho base 44 i0 _ 2 40 Try.underlying22 hi hz0 hz1 hz2 rfl (by decide) v ps.length (flatE ps) hs e2 ⟨D, 0, none⟩ 1 1 (entL y r c) hx rfl (fun j u hu => ?_) (by simp [entL, Value.oneCell']) (by unfold maxLen; omega) (by omega) hbase ?_
  · rw [show (⟨D, 0, none⟩ : Addr).add j = ⟨D, 0 + j, none⟩ by unfold Addr.add; split <;> simp_all]
    exact hD j u hu
  · intro v' w' g1 g2 _ g4
    have hO : ∀ g, g < w.heap.size → Off v.ownBlock g → Off v'.ownBlock g := fun g hg h1 => by
      rcases g4 with e | e
      · rw [e]; exact h1
      · rw [e]
        intro e2
        injection e2 with e2
        have : g = w.heap.size := e2
        omega
    refine h v' w' ⟨ps ++ [(y, r, c)], by rw [List.map_append]; rfl, ?_, fun z hz => ?_⟩ (grown_below e2 g2 hbase) g2
    · rw [List.length_append, flatE_append]
      have : flatE [(y, r, c)] = entL y r c := by simp [flatE]
      rw [this]
      exact g1
    · rcases List.mem_append.1 hz with hz | hz
      · exact ⟨(e3 z hz).1, sv_grown (e3 z hz).2.1 (e3 z hz).2.2 g2, prov_grown (e3 z hz).2.1 (e3 z hz).2.2 g2 hO⟩
      · rw [List.mem_singleton.1 hz]
        exact ⟨hc, sv_grown hv hp g2, prov_grown hv hp g2 hO⟩
theorem ent_row {W : World} {D T : Nat} {x : En} {r : Option Addr} {c : Nat} (h : VRow W D T (entL x r c)) : W.rangeAt D 0 (entL x r c) := h.range
def MadeE (w : World) (es : List En) (e : Ending) (w' : World) : Prop := ∃ a cap, e = .returned (.slice a es.length cap) ∧ es.length ≤ cap ∧ EL w' a es ∧ Below w.heap.size w w'
def MadeEE (w : World) (x : List En × Int) (e : Ending) (w' : World) : Prop := ∃ a cap, e = .returned (.tuple #[.slice a x.1.length cap, .int .i64 x.2]) ∧ x.1.length ≤ cap ∧ EL w' a x.1 ∧ Below w.heap.size w w'
end Go.Proofs.Ytpfighkafmammaa

/-
  Parts of a slice of entries; entries appended to a row of the call's own; a leaf turned in such a row. Conditions: those that each theorem names.
-/

namespace Go.Proofs.Ytpfighkafmammaa
open Go.RowKit

theorem EL.take {W : World} {a : Option Addr} {es : List En} (h : EL W a es) (k : Nat) : EL W a (es.take k) := fun h0 => by
  obtain ⟨g, o, e, hg, hc⟩ := h (by rw [List.length_take] at h0; omega)
  refine ⟨g, o, e, hg, fun j d hj => ?_⟩
  have hjk : j < k := by
    have := (List.getElem?_eq_some_iff.1 hj).1
    rw [List.length_take] at this
    omega
  rw [List.getElem?_take_of_lt hjk] at hj
  exact hc j d hj
theorem EL.drop {W : World} {g o : Nat} {es : List En} (h : EL W (some ⟨g, o, Option.none⟩) es) (k : Nat) : EL W (some ⟨g, o + k * 2, Option.none⟩) (es.drop k) := fun h0 => by
  obtain ⟨g', o', e, hg, hc⟩ := h (by rw [List.length_drop] at h0; omega)
  cases e
  refine ⟨g, o + k * 2, rfl, hg, fun j d hj => ?_⟩
  rw [List.getElem?_drop] at hj
  have := hc (k + j) d hj
  rw [show o + k * 2 + j * 2 = o + (k + j) * 2 by omega]
  exact this
/-- 's[:k]' and 's[k:]'. -/
theorem sliceE_to (a : Option Addr) (n cap k : Nat) (hk : k ≤ n) (hc : n ≤ cap) :
    (∀ W, (Instr.slice 22 (.slice a n cap) none (some (.int .i64 (k : Int))) none).run Try.prog W = .ok (.slice a k cap) W) := by
  intro W
  have hk2 : k ≤ cap := by omega
  by_cases h0 : cap = 0
  · go_simp
    intro h
    omega
  · go_simp
theorem sliceE_from (a : Option Addr) (es : List En) (n cap k : Nat) (hn : es.length = n) (hk : k ≤ n) (hc : n ≤ cap) :
    ∃ A c, (∀ W, (Instr.slice 22 (.slice a n cap) (some (.int .i64 (k : Int))) none none).run Try.prog W = .ok (.slice A (n - k) c) W) ∧ n - k ≤ c ∧ (∀ W, EL W a es → EL W A (es.drop k)) := by
  have e : (es.drop k).length = n - k := by rw [List.length_drop, hn]
  by_cases hc0 : cap = k
  · refine ⟨a, cap - k, fun W => by go_simp, by omega, fun W h h0 => ?_⟩
    rw [e] at h0
    omega
  · cases a with
    | none =>
      refine ⟨none, cap - k, fun W => by go_simp, by omega, fun W h h0 => ?_⟩
      rw [e] at h0
      obtain ⟨g, o, e, _⟩ := h (by omega)
      cases e
    | some ad =>
      refine ⟨some (ad.add (k * 2)), cap - k, fun W => by go_simp, by omega, fun W h h0 => ?_⟩
      obtain ⟨g, o, e', _⟩ := id h (by rw [e] at h0; omega)
      injection e' with e'
      subst e'
      have h2 := h.drop k
      rw [show (⟨g, o, Option.none⟩ : Addr).add (k * 2) = ⟨g, o + k * 2, Option.none⟩ by unfold Addr.add; split <;> simp_all]
      exact h2 h0

/-! Entries in memory, their leaves off a row's block. -/
def ELN (row : Option Nat) (W : World) (a : Option Addr) (es : List En) : Prop :=
  0 < es.length → ∃ g o, a = some ⟨g, o, none⟩ ∧ ∃ ps : List EP, ps.map (·.1) = es ∧ (∀ j u, (flatE ps)[j]? = some u → W.cell? ⟨g, o + j, none⟩ = some u) ∧ ∀ x ∈ ps, x.1.2.length ≤ x.2.2 ∧ SV W x.2.1 x.1.2 ∧ Prov (Off row) W x.2.1 x.1.2
theorem el_list {W : World} {g : Nat} : ∀ (es : List En) (o : Nat), (∀ (j : Nat) (x : En), es[j]? = some x → EAt W g (o + j * 2) x) → ∃ ps : List EP, ps.map (·.1) = es ∧ (∀ j u, (flatE ps)[j]? = some u → W.cell? ⟨g, o + j, none⟩ = some u) ∧ ∀ x ∈ ps, x.1.2.length ≤ x.2.2 ∧ SV W x.2.1 x.1.2
  | [], _, _ => ⟨[], rfl, fun j u h => by simp [flatE] at h, fun _ h => by cases h⟩
  | v :: vs, o, h => by
    obtain ⟨r, c, h0, h1, h5, h6⟩ := h 0 v rfl
    rw [Nat.zero_mul, Nat.add_zero] at h0 h1
    obtain ⟨ps, e1, e2, e3⟩ := el_list vs (o + 2) (fun j u hj => by
      have := h (j + 1) u (by simpa using hj)
      rw [show o + (j + 1) * 2 = o + 2 + j * 2 by omega] at this
      exact this)
    refine ⟨(v, r, c) :: ps, by rw [List.map_cons, e1], fun j u hu => ?_, fun x hx => ?_⟩
    · by_cases hj : j < 2
      · rw [flatE, List.getElem?_append_left (by simp [entL]; omega)] at hu
        rcases (show j = 0 ∨ j = 1 by omega) with rfl | rfl <;> (simp [entL] at hu; subst hu; assumption)
      · rw [flatE, List.getElem?_append_right (by simp [entL]; omega)] at hu
        have := e2 (j - 2) u (by rw [show (entL v r c).length = 2 from rfl] at hu; exact hu)
        rw [show o + 2 + (j - 2) = o + j by omega] at this
        exact this
    · rcases List.mem_cons.1 hx with rfl | hx
      · exact ⟨h5, h6⟩
      · exact e3 x hx
theorem EL.eln {W : World} {a : Option Addr} {es : List En} (h : EL W a es) {row : Option Nat} (hr : ∀ g, row = some g → W.heap.size ≤ g) {W' : World} (hb : Below W.heap.size W W') : ELN row W' a es := fun h0 => by
  obtain ⟨g, o, e, hg, hc⟩ := h h0
  obtain ⟨ps, e1, e2, e3⟩ := el_list es o hc
  refine ⟨g, o, e, ps, e1, fun j u hu => (hb.cell (p := ⟨g, o + j, Option.none⟩) hg).trans (e2 j u hu), fun x hx => ⟨(e3 x hx).1, ?_⟩⟩
  have hs := (e3 x hx).2
  exact ⟨hs.after hb, (hs.prov (O := Off row) fun g' hg' e' => by
    have := hr g' e'.symm
    have h3 : g' < W.heap.size := hg'
    omega).after hs hb⟩
theorem run_append_noneE {w : World} (base : Nat) (t ty e : TypeId) (i : TypeInfo) (size : Nat) (ht : Try.prog.underlying t = some (.slice e)) (hi : Try.prog.info? e = some i)
    (v : Value) (n : Nat) (xs : List Value) (hown : w.ownsRow base e size v n xs) (c : Nat) :
    (Builtin.append_ #[t, t] ty #[v, .slice none 0 c]).run Try.prog w = .ok v w := by
  rcases hown.2 with ⟨rfl, rfl⟩ | ⟨g, cap, cur, rfl, _, _, hnc, _⟩
  · simp [Builtin.append_, run_underlying ht, sizeOf, typeInfo, hi, Builtin.lenOf, Builtin.firstCells]
  · simp [Builtin.append_, run_underlying ht, sizeOf, typeInfo, hi, Builtin.lenOf, Builtin.firstCells, hnc, storeCells]
/-- Entries appended to a row of the call's own. -/
theorem append_el {w : World} {ops : Array Oper} {rest : List Oper} {o : Oper} {a : Act} {Q : Exit → Act → World → Prop} (hgd : o.guard = none) (s x : Operand)
    (ho : o.op = .call { callee := .builtin .append, args := #[s, x], argTypes := #[22, 22] }) (base : Nat) (v : Value) (es : List En) (hs : a.eval s = v) (hown : OE w base v es)
    (r : Option Addr) (m c : Nat) (ys : List En) (hm : ys.length = m) (hx : a.eval x = .slice r m c) (hel : ELN v.ownBlock w r ys) (hn : es.length + ys.length ≤ 150000) (hbase : base ≤ w.heap.size)
    (h : ∀ v' w', OE w' base v' (es ++ ys) → Below base w w' → w.grownBy w' v.ownBlock → wpList Try.prog ops Q rest (a.put o.dst v') w') : wpList Try.prog ops Q (o :: rest) a w := by
  subst hm
  obtain ⟨i0, hi, hz0, hz1, hz2⟩ := info_parts infoEn
  obtain ⟨ps, e1, e2, e3⟩ := hown.is
  subst e1
  rw [List.length_map] at hn
  cases r with
  | none =>
    have hxs : ys = [] := by
      cases ys with
      | nil => rfl
      | cons d l => obtain ⟨g, o, e, _⟩ := hel (by simp); cases e
    subst hxs
    refine wpList_plain hgd fun K hK => ?_
    have hrun := run_append_noneE (w := w) base 22 o.type 44 i0 2 Try.underlying22 hi v ps.length (flatE ps) e2 c
    unfold Oper.wp
    simp only [List.length_nil] at hx
    simp [execOp, ho, resolve, invoke, builtin, hs, hx, hrun, Result.andThen]
    refine hK _ _ (h v w ?_ (Below.refl _ _) ⟨rfl, rfl, rfl, Nat.le_refl _, fun _ _ _ => rfl⟩)
    rw [List.append_nil]
    exact hown
  | some ad =>
    have hps : ∃ qs : List EP, qs.map (·.1) = ys ∧ (∀ j u, (flatE qs)[j]? = some u → w.cell? (ad.add j) = some u) ∧ ∀ x ∈ qs, x.1.2.length ≤ x.2.2 ∧ SV w x.2.1 x.1.2 ∧ Prov (Off v.ownBlock) w x.2.1 x.1.2 := by
      cases ys with
      | nil => exact ⟨[], rfl, fun j u hu => by simp [flatE] at hu, fun _ h => by cases h⟩
      | cons d l =>
        obtain ⟨g, o, e, qs, h1, h2, h3⟩ := hel (by simp)
        injection e with e
        subst e
        refine ⟨qs, h1, fun j u hu => ?_, h3⟩
        rw [show (⟨g, o, none⟩ : Addr).add j = ⟨g, o + j, none⟩ by unfold Addr.add; split <;> simp_all]
        exact h2 j u hu
    obtain ⟨qs, h1, h2, h3⟩ := hps
    subst h1
    rw [List.length_map] at hn hx
    refine wpList_append_own_at w hgd s x 22 ho base 44 i0 _ 2 40 Try.underlying22 hi hz0 hz1 hz2 rfl (by decide) v ps.length (flatE ps) hs e2 ad qs.length c (flatE qs) hx (flatE_len qs) h2 (flatE_one qs) (by unfold maxLen; omega) (by omega) hbase ?_
    intro v' w' g1 g2 _ g4
    have hO : ∀ g, g < w.heap.size → Off v.ownBlock g → Off v'.ownBlock g := fun g hg h1 => by
      rcases g4 with e | e
      · rw [e]; exact h1
      · rw [e]
        intro e2
        injection e2 with e2
        have : g = w.heap.size := e2
        omega
    refine h v' w' ⟨ps ++ qs, by rw [List.map_append], by rw [List.length_append, flatE_append]; exact g1, fun x hx => ?_⟩ (grown_below e2 g2 hbase) g2
    rcases List.mem_append.1 hx with hx | hx
    · exact ⟨(e3 x hx).1, sv_grown (e3 x hx).2.1 (e3 x hx).2.2 g2, prov_grown (e3 x hx).2.1 (e3 x hx).2.2 g2 hO⟩
    · exact ⟨(h3 x hx).1, sv_grown (h3 x hx).2.1 (h3 x hx).2.2 g2, prov_grown (h3 x hx).2.1 (h3 x hx).2.2 g2 hO⟩
theorem OE.lit (W : World) : OE (W.alloc (.cells #[] 44)) W.heap.size (.slice (some ⟨W.heap.size, 0, none⟩) 0 0) [] :=
  ⟨[], rfl, World.ownsRow_lit (base := W.heap.size) (e := 44) (size := 2) W #[] 0 (Nat.le_refl _) (by unfold maxLen; omega) rfl, fun _ h => by cases h⟩

/-! A row's cell turned. -/
theorem ownsRow_set {W : World} {base : Nat} {e : TypeId} {size g n cap k : Nat} {xs : List Value} {u : Value} (h : W.ownsRow base e size (.slice (some ⟨g, 0, none⟩) n cap) n xs) (hk : k < xs.length) :
    (W.setCell ⟨g, k, none⟩ u).ownsRow base e size (.slice (some ⟨g, 0, none⟩) n cap) n (xs.set k u) ∧ W.frozen? ⟨g, k, none⟩ = false ∧ (∃ old, W.cell? ⟨g, k, none⟩ = some old) ∧ base ≤ g ∧ g < W.heap.size := by
  rcases h.2 with ⟨e1, _⟩ | ⟨g', cap', cur, e1, e2, e3, e4, e5, e6, e7⟩
  · cases e1
  · simp only [Value.slice.injEq, Option.some.injEq, Addr.mk.injEq, and_true, true_and] at e1
    obtain ⟨rfl, rfl⟩ := e1
    have hkc : k < cur.size := by
      have h1 := congrArg List.length e7
      rw [List.length_take] at h1
      have h2 : cur.toList.length = cur.size := by simp
      omega
    refine ⟨⟨by rw [List.length_set]; exact h.1, .inr ⟨g, cap, cur.set k u hkc, rfl, e2, ?_, e4, e5, by simpa using e6, ?_⟩⟩, ?_, ?_, e2, (Array.getElem?_eq_some_iff.1 e3).1⟩
    · have := heap_setCell_same W g k cur e u e3
      simpa [Array.setIfInBounds, hkc] using this
    · rw [Array.toList_set, List.take_set, e7]
    · simp [World.frozen?, e3]
    · exact ⟨cur[k], by simp [World.cell?, e3, hkc]⟩
end Go.Proofs.Ytpfighkafmammaa

/-
  Why a dot and a version may not be, which covers another one, and what all pasts come to: the program's.
-/

namespace Go.Proofs.Ytpfighkafmammaa
open Go.RowKit

theorem check_one (d : Vc.D) : Vc.check [d] = Vc.dotErr d := by
  unfold Vc.check Vc.chk
  by_cases h : Vc.dotErr d = 0
  · have hok := (Vc.dotErr_zero d).1 h
    unfold Vc.Ok at hok
    rw [if_neg (by simpa using h), if_neg (by omega), h]
    rfl
  · rw [if_pos h]
theorem full_list {S : ByteArray} (h : S ≠ ⟨#[]⟩) : S.toList.isEmpty = false := by
  rw [ByteArray.toList_eq]
  obtain ⟨d⟩ := S
  cases hd : d.toList with
  | nil => exact absurd (by rw [Array.toList_eq_nil_iff.1 hd]) h
  | cons => simp
theorem empty_of_size {S : ByteArray} (h : ¬ 0 < S.size) : S = ⟨#[]⟩ := by
  obtain ⟨d⟩ := S
  have : d.size = 0 := by have : ¬ 0 < d.size := h; omega
  rw [Array.eq_empty_of_size_eq_zero this]

set_option maxRecDepth 100000 in
set_option maxHeartbeats 400000 in
theorem checkDot_any (p c : Int) (w : World) :
    Calls Try.prog 78 #[.agg #[.int .i64 p, .int .i64 c]] w fun e w' => e = .returned (.int .i64 (Vc.dotErr (p, c))) ∧ Below w.heap.size w w' := by
  have HB1 := hide (below_alloc' (w := w) (.cells #[.int .i64 p, .int .i64 c] 58))
  have HB2 := hide ((unhide HB1).alloc (unhide HB1).size (.cells #[.int .i64 p, .int .i64 c] 58))
  have K := hide (check_any (some ⟨w.heap.size + 1, 0, none⟩) 1 [(p, c)] (by simp) _ (by have h := one_sl1 (w.alloc (.cells #[.int .i64 p, .int .i64 c] 58)) p c; rw [World.size_alloc] at h; exact h))
  rw [check_one, show [(p, c)].length = 1 from rfl] at K
  generalize Vc.dotErr (p, c) = R at K ⊢
  go_enter Try.func78, Try.ntmps78
  go_wp2_with fail
  refine (unhide K).mono ?_
  rintro e w4 ⟨rfl, hb4⟩
  have HB4 := hide (below_grow (unhide HB2) (Nat.le_refl _) hb4)
  clear hb4
  go_wp2_with fail
  go_ret
  exact ⟨rfl, unhide HB4⟩

set_option maxRecDepth 100000 in
set_option maxHeartbeats 1000000 in
theorem checkV_any (v : Vc.V) (r : Option Addr) (c : Nat) (hl : v.past.length ≤ 9223372036854775807) (w : World) (s : Sl w r v.past) :
    Calls Try.prog 60 #[.agg (verL v r c).toArray] w fun e w' => e = .returned (.int .i64 (Vc.chkV v)) ∧ Below w.heap.size w w' := by
  have HB := hide (below_alloc1 (w := w) (.cells (verL v r c).toArray 61))
  have RS := hide (VRow.new w 61 (verL v r c))
  have KD := hide fun W => checkDot_any v.dot.1 v.dot.2 W
  have KC := hide fun W h => check_any r c v.past hl W h
  have KH := hide fun W h => has_any r c v.past hl v.dot.1 v.dot.2 W h
  have S := hide (s.after (unhide HB))
  rw [show Vc.dotErr (v.dot.1, v.dot.2) = Vc.dotErr v.dot from rfl] at KD
  rw [show has v.past (v.dot.1, v.dot.2) = Vc.hasV v.past v.dot from rfl] at KH
  obtain ⟨R, hR⟩ : ∃ R, Vc.chkV v = R := ⟨_, rfl⟩
  rw [hR]
  unfold Vc.chkV at hR
  have a0 := (unhide RS).cell 0 _ rfl
  have a1 := (unhide RS).cell 1 _ rfl
  generalize Vc.dotErr v.dot = X at KD hR
  generalize Vc.check v.past = Y at KC hR
  generalize Vc.hasV v.past v.dot = Z at KH hR
  clear s
  unfold verL at *
  go_enter Try.func60, Try.ntmps60
  go_wp2_with fail
  generalize w.alloc (.cells _ 61) = w0 at HB RS S a0 a1 ⊢
  refine (unhide KD _).mono ?_
  rintro e w1 ⟨rfl, hb⟩
  replace HB := hide (below_grow (unhide HB) (Nat.le_refl _) hb)
  replace RS := hide ((unhide RS).after hb)
  replace S := hide ((unhide S).after hb)
  clear hb a0 a1
  by_cases hX : X = 0
  · subst hX
    rw [if_neg (by simp)] at hR
    have a2 := (unhide RS).cell 2 _ rfl
    go_wp2_with fail
    refine (unhide KC _ (unhide S)).mono ?_
    rintro e w2 ⟨rfl, hb⟩
    replace HB := hide (below_grow (unhide HB) (Nat.le_refl _) hb)
    replace RS := hide ((unhide RS).after hb)
    replace S := hide ((unhide S).after hb)
    clear hb a2
    by_cases hY : Y = 0
    · subst hY
      rw [if_neg (by simp)] at hR
      have a0 := (unhide RS).cell 0 _ rfl
      have a1 := (unhide RS).cell 1 _ rfl
      have a2 := (unhide RS).cell 2 _ rfl
      go_wp2_with fail
      refine (unhide KH _ (unhide S)).mono ?_
      rintro e w3 ⟨rfl, hb⟩
      replace HB := hide (below_grow (unhide HB) (Nat.le_refl _) hb)
      replace RS := hide ((unhide RS).after hb)
      clear hb a0 a1 a2 S
      have a3 := (unhide RS).cell 3 _ rfl
      have a4 := (unhide RS).cell 4 _ rfl
      cases Z with
      | true =>
        rw [if_pos rfl] at hR
        subst hR
        go_wp2_with fail
        go_ret
        exact ⟨rfl, unhide HB⟩
      | false =>
        rw [if_neg (by simp)] at hR
        generalize v.data = SD at *
        obtain ⟨n, hn⟩ : ∃ n, SD.size = n := ⟨_, rfl⟩
        by_cases h48 : 48 < n
        · have hd : decide ((48 : Int) < (n : Int)) = true := decide_eq_true (by omega)
          rw [hn, if_pos h48] at hR
          subst hR
          go_wp2_with fail
          go_ret
          exact ⟨rfl, unhide HB⟩
        · have hd : decide ((48 : Int) < (n : Int)) = false := decide_eq_false (by omega)
          rw [hn, if_neg h48] at hR
          generalize v.dead = Q at *
          cases Q with
          | true =>
            by_cases h0 : 0 < n
            · have hne : SD ≠ ⟨#[]⟩ := fun e => by rw [e] at hn; rw [← hn] at h0; exact absurd h0 (by decide)
              have hnb : SD.toList.isEmpty = false := full_list hne
              rw [if_pos ⟨rfl, h0⟩] at hR
              subst hR
              go_wp2_with fail
              go_ret
              exact ⟨rfl, unhide HB⟩
            · have hE : SD = ⟨#[]⟩ := empty_of_size (by rw [hn]; exact h0)
              rw [if_neg (fun h => h0 h.2)] at hR
              subst hR hE
              go_wp2_with fail
              go_ret
              exact ⟨rfl, unhide HB⟩
          | false =>
            rw [if_neg (fun h => by cases h.1)] at hR
            subst hR
            go_wp2_with fail
            go_ret
            exact ⟨rfl, unhide HB⟩
    · rw [if_pos hY] at hR
      subst hR
      have hYb : (Y != 0) = true := bne_iff_ne.2 hY
      go_wp2_with fail
      go_ret
      exact ⟨rfl, unhide HB⟩
  · rw [if_pos hX] at hR
    subst hR
    have hXb : (X != 0) = true := bne_iff_ne.2 hX
    have hXc : (X == 0) = false := by simpa using hX
    go_wp2_with fail
    go_ret
    exact ⟨rfl, unhide HB⟩

/-- What all pasts come to together. -/
def pastF (vs : List Vc.V) : List Vc.D := vs.foldl (fun c v => Vc.joins c v.past) []
theorem pastF_snoc (l : List Vc.V) (v : Vc.V) : pastF (l ++ [v]) = Vc.joins (pastF l) v.past := by unfold pastF; rw [List.foldl_append]; rfl
theorem hasV_join {a b : List Vc.D} (ha : Vc.Up (-1) a) (hb : Vc.Up (-1) b) (d : Vc.D) : Vc.hasV (Vc.joins a b) d = (Vc.hasV a d || Vc.hasV b d) := by
  rw [Vc.joins_vec ha hb, Bool.eq_iff_iff, Bool.or_eq_true, Vc.hasV_up (Vc.join_up ha hb), Vc.hasV_up ha, Vc.hasV_up hb, Vc.join_look ha hb]
  omega
theorem fold_has : ∀ {vs : List Vc.V} {c : List Vc.D}, Vc.Up (-1) c → (∀ u ∈ vs, Vc.Up (-1) u.past) → Vc.Up (-1) (vs.foldl (fun c v => Vc.joins c v.past) c) ∧ ∀ d, Vc.hasV (vs.foldl (fun c v => Vc.joins c v.past) c) d = (Vc.hasV c d || vs.any fun u => Vc.hasV u.past d)
  | [], c, hc, _ => ⟨hc, fun d => by simp⟩
  | v :: l, c, hc, h => by
    have hv := h v (List.mem_cons_self ..)
    have hj : Vc.Up (-1) (Vc.joins c v.past) := by rw [Vc.joins_vec hc hv]; exact Vc.join_up hc hv
    obtain ⟨h1, h2⟩ := fold_has hj fun u hu => h u (List.mem_cons_of_mem _ hu)
    refine ⟨h1, fun d => ?_⟩
    rw [List.foldl_cons, h2 d, hasV_join hc hv, List.any_cons, Bool.or_assoc]
theorem past_covered {vs : List Vc.V} (h : ∀ u ∈ vs, Vc.Up (-1) u.past) (v : Vc.V) : Vc.hasV (pastF vs) v.dot = Vc.covered vs v := by
  have := (fold_has (c := []) trivial h).2 v.dot
  unfold pastF
  rw [this]
  unfold Vc.covered Vc.covers
  rw [show Vc.hasV [] v.dot = false by cases hh : Vc.hasV [] v.dot with | false => rfl | true => exact absurd ((Vc.hasV_up (l := []) trivial _).1 hh) (by show ¬ (1 ≤ v.dot.2 ∧ v.dot.2 ≤ 0); omega)]
  rfl
theorem pastF_len : ∀ (vs : List Vc.V), (pastF vs).length ≤ 64 := fun vs => by
  rcases List.eq_nil_or_concat vs with rfl | ⟨l, v, rfl⟩
  · exact Nat.zero_le _
  · rw [List.concat_eq_append, pastF_snoc]; exact Vc.joins_len _ _

def MadeF (w : World) (ds : List Vc.D) (e : Ending) (w' : World) : Prop := ∃ r cap, e = .returned (.slice r ds.length cap) ∧ ds.length ≤ cap ∧ Sl w' r ds ∧ Below w.heap.size w w' ∧ Fresh w.heap.size r ds
theorem Fresh.weak {n m : Nat} {r : Option Addr} {ds : List Vc.D} (h : Fresh n r ds) (hm : m ≤ n) : Fresh m r ds := fun ad e h0 => Nat.le_trans hm (h ad e h0)
theorem Fresh.nil (n : Nat) (ds : List Vc.D) : Fresh n none ds := fun _ e => by cases e

set_option maxRecDepth 100000 in
set_option maxHeartbeats 1000000 in
theorem pasts_any (a : Option Addr) (cap : Nat) (vs : List Vc.V) (hf : Few vs) (w : World) (h : SV w a vs) :
    Calls Try.prog 82 #[.slice a vs.length cap] w (MadeF w (pastF vs)) := by
  have HS := hide h
  have HF := hide hf
  have hl := hf.1
  clear h hf
  go_enter Try.func82, Try.ntmps82
  go_wp2_with fail
  go_loopw [3, 8] (fun l i wr => ∃ (k : Nat) (r : Option Addr) (c : Nat) (cur : List Vc.D), k ≤ vs.length ∧ i = .int .i64 k ∧ l = .slice r cur.length c ∧ cur.length ≤ c ∧ cur.length ≤ 64 ∧ cur = pastF (vs.take k) ∧ Sl wr r cur ∧ Below w.heap.size w wr ∧ Fresh w.heap.size r cur) (fun _ i _ => vs.length - (intOf i).toNat)
  case atStart => exact ⟨0, none, 0, [], Nat.zero_le _, rfl, rfl, Nat.le_refl _, by simp, rfl, Sl.none _ _, Below.refl _ _, Fresh.nil _ _⟩
  case round =>
    obtain ⟨k, r, c, cur, hk, rfl, rfl, hcc, hc64, hcur, hsl, hb, hfr⟩ := hrel
    have HCUR := hide hcur
    have HSL := hide hsl
    have HBr := hide hb
    have HFR := hide hfr
    have S := hide ((unhide HS).after hb)
    clear hcur hsl hb hfr
    by_cases hlt : k < vs.length
    · obtain ⟨v, hx⟩ : ∃ d, vs[k]? = some d := ⟨_, List.getElem?_eq_getElem hlt⟩
      obtain ⟨g, o, rfl, hg, hcell⟩ := unhide S (by omega)
      obtain ⟨q, d, x0, x1, x2, x3, x4, h5, h6⟩ := hcell k v hx
      have K1 := hide fun W h h' => join_fresh r q c d cur v.past (by omega) ((unhide HF).at hx) hcc h5 W h h'
      have HNX : Hid (Vc.joins cur v.past = pastF (vs.take (k + 1))) := hide (by rw [take_snocA hx, pastF_snoc, ← unhide HCUR])
      have hj64 := Vc.joins_len cur v.past
      have H6 := hide h6
      have HW0 := hide (unhide HBr).size
      generalize Vc.joins cur v.past = nxt at K1 HNX hj64
      clear hx hg hcell h5 h6
      go_wp2_with (refine store_row (by rfl) 61 _ _ (by rfl) wr.heap.size (verL v q d) (by rfl) (by rfl) 61 zero61 (VRow.newAt rfl) 5 size61 rfl rfl (verL_one _ _ _) ?_; intro wz ho hr; have HZ := hide ((below_alloc' (w := wr) (.cells zero61.toArray 61)).trans (ho.below (Nat.le_refl _))); have RZ := hide hr; clear ho hr x0 x1 x2 x3 x4; have z2 := (unhide RZ).cell 2 _ rfl)
      refine (unhide K1 _ ((unhide HSL).after (unhide HZ)) ((unhide H6).after (unhide HZ))).mono ?_
      rintro e w2 ⟨r2, c2, rfl, hc2, hs2, hb2, hf2⟩
      have HB2 := hide (below_grow (below_grow (unhide HBr) (Nat.le_refl _) (unhide HZ)) (Nat.le_refl _) hb2)
      have HS2 := hide hs2
      have HC2 := hide hc2
      have HF2 := hide (hf2.weak (Nat.le_trans (unhide HW0) (unhide HZ).size))
      clear hb2 hs2 hf2 hc2 z2
      go_wp2_with fail
      go_roundw
      case rel => exact ⟨k + 1, r2, c2, nxt, by omega, by go_num, rfl, unhide HC2, hj64, unhide HNX, unhide HS2, unhide HB2, unhide HF2⟩
      case measure => simp [intOf]; omega
    · obtain rfl : k = vs.length := by omega
      have hcur := unhide HCUR
      rw [List.take_length] at hcur
      subst hcur
      clear HCUR
      go_wp2_with fail
      go_ret
      exact ⟨r, c, rfl, hcc, unhide HSL, unhide HBr, unhide HFR⟩

/-- The closure that tells what is left out, and what it reads. -/
structure Clo (W : World) (B : Nat) (P : List Vc.D) : Prop where
  is : ∃ r c, VRow W B 59 [.slice r P.length c] ∧ P.length ≤ c ∧ Sl W r P
theorem Clo.after {W W' : World} {B : Nat} {P : List Vc.D} (h : Clo W B P) (hb : Below W.heap.size W W') : Clo W' B P := by
  obtain ⟨r, c, h1, h2, h3⟩ := h.is
  exact ⟨r, c, h1.after hb, h2, h3.after hb⟩

set_option maxRecDepth 100000 in
set_option maxHeartbeats 400000 in
theorem coveredBy_any (a : Option Addr) (cap : Nat) (vs : List Vc.V) (hf : Few vs) (w : World) (h : SV w a vs) :
    Calls Try.prog 62 #[.slice a vs.length cap] w fun e w' => ∃ B, e = .returned (.func (.func 83) #[] #[.pointer (some ⟨B, 0, none⟩)]) ∧ Clo w' B (pastF vs) ∧ Below w.heap.size w w' := by
  have K := hide (pasts_any a cap vs hf w h)
  have hl := hf.1
  generalize pastF vs = P at K ⊢
  clear h hf
  go_enter Try.func62, Try.ntmps62
  go_wp2_with fail
  refine (unhide K).mono ?_
  rintro e w1 ⟨r, c, rfl, hc, hs, hb, _⟩
  have HB := hide hb
  have HS := hide hs
  have HC := hide hc
  clear hb hs hc
  go_wp2_with fail
  go_ret
  refine ⟨w1.heap.size, rfl, ⟨r, c, ?_, unhide HC, ?_⟩, ?_⟩
  · exact VRow.new w1 59 [.slice r P.length c]
  · exact (unhide HS).after (below_alloc' _)
  · exact (unhide HB).alloc (unhide HB).size _
end Go.Proofs.Ytpfighkafmammaa

namespace Go.Proofs.Ytpfighkafmammaa
open Go.RowKit

set_option maxRecDepth 100000 in
set_option maxHeartbeats 400000 in
theorem cov_any (v : Vc.V) (q : Option Addr) (d : Nat) (P : List Vc.D) (hP : P.length ≤ 64) (B : Nat) (w : World) (hc : Clo w B P) :
    Calls Try.prog 83 #[.agg (verL v q d).toArray, .pointer (some ⟨B, 0, none⟩)] w fun e w' => e = .returned (.bool (Vc.hasV P v.dot)) ∧ Below w.heap.size w w' := by
  obtain ⟨r, c, h1, h2, h3⟩ := hc.is
  have HB := hide (below_alloc1 (w := w) (.cells (verL v q d).toArray 61))
  have RS := VRow.new w 61 (verL v q d)
  have a0 := RS.cell 0 _ rfl
  have a1 := RS.cell 1 _ rfl
  have b0 := (h1.alloc (.cells (verL v q d).toArray 61)).cell 0 _ rfl
  have S := hide (h3.after (unhide HB))
  have K := hide fun W h => has_any r c P (by omega) v.dot.1 v.dot.2 W h
  rw [show has P (v.dot.1, v.dot.2) = Vc.hasV P v.dot from rfl] at K
  generalize Vc.hasV P v.dot = X at K ⊢
  clear hc h1 h3 RS h2
  unfold verL at *
  go_enter Try.func83, Try.ntmps83
  go_wp2_with fail
  refine (unhide K _ (unhide S)).mono ?_
  rintro e w1 ⟨rfl, hb⟩
  have HB1 := hide (below_grow (unhide HB) (Nat.le_refl _) hb)
  clear hb
  go_wp2_with fail
  go_ret
  exact ⟨rfl, unhide HB1⟩

theorem any_snoc {vs : List Vc.V} {k : Nat} {u : Vc.V} {F : Vc.V → Bool} (h : vs[k]? = some u) (hall : ∀ x ∈ vs.take k, F x = false) (hu : F u = false) : ∀ x ∈ vs.take (k + 1), F x = false := fun x hx => by
  rw [take_snocA h] at hx
  rcases List.mem_append.1 hx with hx | hx
  · exact hall x hx
  · rw [List.mem_singleton.1 hx]; exact hu
def Found (R : Bool) (w : World) (e : Ending) (w' : World) : Prop := ∃ i : Int, e = .returned (.int .i64 i) ∧ decide (0 ≤ i) = R ∧ Below w.heap.size w w'

set_option maxRecDepth 100000 in
set_option maxHeartbeats 600000 in
theorem index_any (a : Option Addr) (cap : Nat) (vs : List Vc.V) (hl : vs.length ≤ 100000) (P : List Vc.D) (hP : P.length ≤ 64) (B : Nat) (w : World) (h : SV w a vs) (hc : Clo w B P) :
    Calls Try.prog 81 #[.slice a vs.length cap, .func (.func 83) #[] #[.pointer (some ⟨B, 0, none⟩)]] w (Found (vs.any fun v => Vc.hasV P v.dot) w) := by
  have HS := hide h
  have HC := hide hc
  have K := hide fun v q d W h => cov_any v q d P hP B W h
  obtain ⟨F, hF⟩ : ∃ F : Vc.V → Bool, (fun v => Vc.hasV P v.dot) = F := ⟨_, rfl⟩
  rw [hF]
  have HF : Hid (∀ v, Vc.hasV P v.dot = F v) := hide fun v => by rw [← hF]
  clear h hc hF
  go_enter Try.func81, Try.ntmps81
  go_wp2_with fail
  go_loopw [8] (fun i wr => ∃ k : Nat, k ≤ vs.length ∧ i = .int .i64 k ∧ (∀ x ∈ vs.take k, F x = false) ∧ Below w.heap.size w wr) (fun i _ => vs.length - (intOf i).toNat)
  case atStart => exact ⟨0, Nat.zero_le _, rfl, fun x hx => (by simp at hx), Below.refl _ _⟩
  case round =>
    obtain ⟨k, hk, rfl, hall, hb⟩ := hrel
    have HALL := hide hall
    have HB := hide hb
    have S := (unhide HS).after hb
    have C := hide ((unhide HC).after hb)
    clear hall hb
    by_cases hlt : k < vs.length
    · obtain ⟨v, hx⟩ : ∃ d, vs[k]? = some d := ⟨_, List.getElem?_eq_getElem hlt⟩
      obtain ⟨g, o, rfl, hg, hcell⟩ := S (by omega)
      obtain ⟨q, d, x0, x1, x2, x3, x4, h5, h6⟩ := hcell k v hx
      have KV := hide fun W h => unhide K v q d W h
      rw [unhide HF v] at KV
      unfold verL at KV
      have HX := hide hx
      cases hFv : F v with
      | true =>
        rw [hFv] at KV
        have HT : Hid (vs.any F = true) := hide (List.any_eq_true.2 ⟨v, List.mem_of_getElem? hx, hFv⟩)
        have hki : decide ((0 : Int) ≤ (k : Int)) = true := decide_eq_true (by omega)
        have HKI := hide hki
        clear hcell hx hFv h5 h6 hg hki
        go_wp2_with (go_at_call 83; refine (unhide KV _ (unhide C)).mono ?_; rintro e w2 ⟨rfl, hb2⟩; replace HB := hide (below_grow (unhide HB) (Nat.le_refl _) hb2); clear hb2 x0 x1 x2 x3 x4)
        go_ret
        exact ⟨k, rfl, (unhide HKI).trans (unhide HT).symm, unhide HB⟩
      | false =>
        rw [hFv] at KV
        have HALL2 := hide (any_snoc hx (unhide HALL) hFv)
        clear hcell hx hFv h5 h6 hg
        go_wp2_with (go_at_call 83; refine (unhide KV _ (unhide C)).mono ?_; rintro e w2 ⟨rfl, hb2⟩; replace HB := hide (below_grow (unhide HB) (Nat.le_refl _) hb2); clear hb2 x0 x1 x2 x3 x4)
        go_roundw
        case rel => exact ⟨k + 1, by omega, by go_num, unhide HALL2, unhide HB⟩
        case measure => simp [intOf]; omega
    · obtain rfl : k = vs.length := by omega
      have HT : Hid (vs.any F = false) := hide (List.any_eq_false.2 fun x hx => by rw [unhide HALL x (by rw [List.take_length]; exact hx)]; simp)
      go_wp2_with fail
      go_ret
      exact ⟨-1, rfl, (by rw [unhide HT]; decide), unhide HB⟩

set_option maxRecDepth 100000 in
set_option maxHeartbeats 400000 in
theorem contains_any (a : Option Addr) (cap : Nat) (vs : List Vc.V) (hl : vs.length ≤ 100000) (P : List Vc.D) (hP : P.length ≤ 64) (B : Nat) (w : World) (h : SV w a vs) (hc : Clo w B P) :
    Calls Try.prog 61 #[.slice a vs.length cap, .func (.func 83) #[] #[.pointer (some ⟨B, 0, none⟩)]] w fun e w' => e = .returned (.bool (vs.any fun v => Vc.hasV P v.dot)) ∧ Below w.heap.size w w' := by
  have K := hide (index_any a cap vs hl P hP B w h hc)
  generalize (vs.any fun v => Vc.hasV P v.dot) = R at K ⊢
  clear h hc
  go_enter Try.func61, Try.ntmps61
  go_wp2_with fail
  refine (unhide K).mono ?_
  rintro e w1 ⟨i, rfl, hi, hb⟩
  have HB := hide hb
  have HI := hide hi
  clear hb hi
  go_wp2_with fail
  go_ret
  exact ⟨ret_bool (unhide HI), unhide HB⟩

theorem leaf_any {vs : List Vc.V} (h : ¬ 64 < vs.length) (h2 : Vc.chkL (-1) vs = 0) : Vc.checkLeaf vs = if (vs.any fun v => Vc.hasV (pastF vs) v.dot) = true then 7 else 0 := by
  have hup := (Vc.chkL_zero vs _).1 h2
  have e : (vs.any fun v => Vc.hasV (pastF vs) v.dot) = vs.any fun v => Vc.covered vs v := by
    congr 1
    funext v
    exact past_covered (fun u hu => (hup.mem hu).1.past) v
  unfold Vc.checkLeaf
  rw [if_neg h, if_neg (by simpa using h2), e]

set_option maxRecDepth 100000 in
set_option maxHeartbeats 2000000 in
theorem checkLeaf_any (a : Option Addr) (cap : Nat) (vs : List Vc.V) (hf : Few vs) (w : World) (h : SV w a vs) :
    Calls Try.prog 42 #[.slice a vs.length cap] w fun e w' => e = .returned (.int .i64 (Vc.checkLeaf vs)) ∧ Below w.heap.size w w' := by
  have HS := hide h
  have HF := hide hf
  have hl := hf.1
  clear h hf
  by_cases h64 : 64 < vs.length
  · rw [leaf_long h64]
    have hd : decide ((64 : Int) < (vs.length : Int)) = true := decide_eq_true (by omega)
    go_enter Try.func42, Try.ntmps42
    go_wp2_with fail
    go_ret
    exact ⟨rfl, Below.refl _ _⟩
  · have hd : decide ((64 : Int) < (vs.length : Int)) = false := decide_eq_false (by omega)
    have HBAD := hide fun h2 => leaf_bad h64 h2
    have HANY := hide fun h2 => leaf_any h64 h2
    have HC := hide (show Vc.chkL (-1) vs = Vc.chkL (prevQ vs 0) (vs.drop 0) from rfl)
    obtain ⟨C, hC⟩ : ∃ C, Vc.chkL (-1) vs = C := ⟨_, rfl⟩
    obtain ⟨R, hR⟩ : ∃ R, Vc.checkLeaf vs = R := ⟨_, rfl⟩
    rw [hC] at HC HBAD HANY
    rw [hR] at HBAD HANY ⊢
    have KB := hide fun W h => coveredBy_any a cap vs (unhide HF) W h
    have KT := hide fun B W h h' => contains_any a cap vs hl (pastF vs) (pastF_len vs) B W h h'
    clear hC hR
    go_enter Try.func42, Try.ntmps42
    go_wp2_with fail
    go_loopw [11] (fun i wr => ∃ k : Nat, k ≤ vs.length ∧ i = .int .i64 k ∧ C = Vc.chkL (prevQ vs k) (vs.drop k) ∧ Below w.heap.size w wr) (fun i _ => vs.length - (intOf i).toNat)
    case atStart => exact ⟨0, Nat.zero_le _, rfl, unhide HC, Below.refl _ _⟩
    case round =>
      obtain ⟨k, hk, rfl, hc, hb⟩ := hrel
      have HC1 := hide hc
      have HB := hide hb
      have S := hide ((unhide HS).after hb)
      clear hc hb HC
      by_cases hlt : k < vs.length
      · obtain ⟨v, hx⟩ : ∃ d, vs[k]? = some d := ⟨_, List.getElem?_eq_getElem hlt⟩
        obtain ⟨g, o, rfl, hg, hcell⟩ := unhide S (by omega)
        obtain ⟨q, d, x0, x1, x2, x3, x4, h5, h6⟩ := hcell k v hx
        have HG := hide hg
        have HCell := hide hcell
        have KV := hide fun W h => checkV_any v q d ((unhide HF).at hx) W h
        have HST := hide (chkL_step vs k v hx)
        have H6 := hide h6
        unfold verL at KV
        clear hx hg hcell h5 h6
        go_wp2_with (refine store_row (by rfl) 61 _ _ (by rfl) wr.heap.size (verL v q d) (by rfl) (by rfl) 61 zero61 (VRow.newAt rfl) 5 size61 rfl rfl (verL_one _ _ _) ?_; intro wz ho hr; have HZ := hide ((below_alloc' (w := wr) (.cells zero61.toArray 61)).trans (ho.below (Nat.le_refl _))); have RZ := hide hr; clear ho hr x0 x1 x2 x3 x4; have z0 := (unhide RZ).cell 0 _ rfl; have z1 := (unhide RZ).cell 1 _ rfl; have z2 := (unhide RZ).cell 2 _ rfl; have z3 := (unhide RZ).cell 3 _ rfl; have z4 := (unhide RZ).cell 4 _ rfl)
        refine (unhide KV _ ((unhide H6).after (unhide HZ))).mono ?_
        rintro e w2 ⟨rfl, hb2⟩
        have HBw := hide (below_grow (unhide HZ) (Nat.le_refl _) hb2)
        have HB2 := hide (below_grow (unhide HB) (Nat.le_refl _) (unhide HBw))
        have RZ2 := hide ((unhide RZ).after hb2)
        clear hb2 z0 z1 z2 z3 z4 HZ RZ
        by_cases he : Vc.chkV v = 0
        · have hok := ((Vc.chkV_zero v).1 he).dot
          rw [he] at KV ⊢
          rw [if_neg (by simpa using he)] at HST
          have hp0 : 0 ≤ v.dot.1 := hok.1
          clear he hok
          by_cases hk0 : 0 < k
          · obtain ⟨m, hm⟩ : ∃ m, k = m + 1 := ⟨k - 1, by omega⟩
            obtain ⟨u, hu⟩ : ∃ d, vs[m]? = some d := ⟨_, List.getElem?_eq_getElem (by omega)⟩
            have e' : prevQ vs k = u.dot.1 := by rw [hm]; exact prevQ_at vs m _ hu
            rw [e'] at HST HC1
            obtain ⟨q', d', y0, _, _, _, _, _, _⟩ := unhide HCell m u hu
            have c2 := (unhide RZ2).cell 0 _ rfl
            have c3 := ((unhide HBw).cell (p := ⟨g, o + m * 5, none⟩) (unhide HG)).trans y0
            have hmi : (k : Int) - 1 = (m : Int) := by omega
            have hmw : IntKind.i64.wrap ((k : Int) - 1) = (m : Int) := by rw [hmi]; exact wrap_small (by omega) (by omega)
            have hml : m < vs.length := by omega
            have hgi : (0 : Int) < (k : Int) := by omega
            have HMK : Hid (k = m + 1) := hm
            clear hu hm e' y0
            generalize u.dot.1 = p' at HST HC1 c3
            generalize hvp : v.dot.1 = p at *
            clear hvp
            by_cases hle : p ≤ p'
            · have HNX : Hid (R = 8) := by
                have h := unhide HST
                rw [if_pos hle] at h
                have h8 : C = 8 := (unhide HC1).trans h
                exact hide ((unhide HBAD (by rw [h8]; decide)).trans h8)
              go_wp2_with fail
              go_quiet (fail)
              go_wp2_with fail
              go_ret
              exact ⟨ret_int (unhide HNX).symm, below_drewN (unhide HB2) _⟩
            · have HNX : Hid (C = Vc.chkL (prevQ vs (k + 1)) (vs.drop (k + 1))) := by
                have h := unhide HST
                rw [if_neg hle] at h
                exact hide ((unhide HC1).trans h)
              go_wp2_with fail
              go_quiet (fail)
              go_wp2_with fail
              go_roundw
              case rel => exact ⟨k + 1, by omega, by go_num, unhide HNX, below_drewN (unhide HB2) _⟩
              case measure => simp [intOf]; omega
          · have HNX : Hid (C = Vc.chkL (prevQ vs (k + 1)) (vs.drop (k + 1))) := by
              have h := unhide HST
              have e : prevQ vs k = -1 := by rw [show k = 0 by omega]; rfl
              rw [e, if_neg (show ¬ v.dot.1 ≤ -1 by omega)] at h
              rw [unhide HC1, e]
              exact h
            have hgd : decide (0 < (k : Int)) = false := decide_eq_false (by omega)
            go_wp2_with fail
            go_quiet (fail)
            go_wp2_with fail
            go_roundw
            case rel => exact ⟨k + 1, by omega, by go_num, unhide HNX, below_drewN (unhide HB2) _⟩
            case measure => simp [intOf]; omega
        · have HNX : Hid (R = Vc.chkV v) := by
            have h := unhide HST
            rw [if_pos (by simpa using he)] at h
            have h8 : C = Vc.chkV v := (unhide HC1).trans h
            exact hide ((unhide HBAD (by rw [h8]; exact he)).trans h8)
          have heb : (Vc.chkV v != 0) = true := bne_iff_ne.2 he
          clear HST
          generalize Vc.chkV v = X at KV HNX heb he ⊢
          clear he
          go_wp2_with fail
          go_ret
          exact ⟨ret_int (unhide HNX).symm, unhide HB2⟩
      · obtain rfl : k = vs.length := by omega
        have hC0 : C = 0 := (unhide HC1).trans (chkL_end vs _)
        subst hC0
        have HR := hide (unhide HANY rfl)
        clear HC1 HBAD HANY
        generalize (vs.any fun v => Vc.hasV (pastF vs) v.dot) = X at HR KT
        generalize pastF vs = P at KB KT
        go_wp2_with fail
        refine (unhide KB _ (unhide S)).mono ?_
        rintro e w2 ⟨B, rfl, hclo, hb2⟩
        have HB2 := hide (below_grow (unhide HB) (Nat.le_refl _) hb2)
        have S2 := hide ((unhide S).after hb2)
        have CL := hide hclo
        clear hb2 hclo
        go_wp2_with fail
        refine (unhide KT B _ (unhide S2) (unhide CL)).mono ?_
        rintro e w3 ⟨rfl, hb3⟩
        have HB3 := hide (below_grow (unhide HB2) (Nat.le_refl _) hb3)
        clear hb3
        cases X with
        | true =>
          obtain rfl : R = 7 := unhide HR
          go_wp2_with fail
          go_ret
          exact ⟨rfl, unhide HB3⟩
        | false =>
          obtain rfl : R = 0 := unhide HR
          go_wp2_with fail
          go_ret
          exact ⟨rfl, unhide HB3⟩
end Go.Proofs.Ytpfighkafmammaa

/-
  What Cover, Live, Write and Erase answer: the document's.
-/

namespace Go.Proofs.Ytpfighkafmammaa
open Go.RowKit

def MadeV (O : Nat → Prop) (w : World) (vs : List Vc.V) (e : Ending) (w' : World) : Prop := ∃ r cap, e = .returned (.slice r vs.length cap) ∧ vs.length ≤ cap ∧ SV w' r vs ∧ Prov O w' r vs ∧ Below w.heap.size w w'
def MadeVE (O : Nat → Prop) (w : World) (x : List Vc.V × Int) (e : Ending) (w' : World) : Prop := ∃ r cap, e = .returned (.tuple #[.slice r x.1.length cap, .int .i64 x.2]) ∧ x.1.length ≤ cap ∧ SV w' r x.1 ∧ Prov O w' r x.1 ∧ Below w.heap.size w w'
def All : Nat → Prop := fun _ => True
theorem prov_all (W : World) (a : Option Addr) (vs : List Vc.V) : Prov All W a vs := Prov.any W a vs
theorem one_sv {W : World} {D T : Nat} {v : Vc.V} {r : Option Addr} {c : Nat} (h : VRow W D T (verL v r c)) (hc : v.past.length ≤ c) (hs : Sl W r v.past) : SV W (some ⟨D, 0, none⟩) [v] := fun _ => by
  refine ⟨D, 0, rfl, h.lt, fun j u hj => ?_⟩
  have hj0 : j = 0 := by have := (List.getElem?_eq_some_iff.1 hj).1; simp at this; omega
  subst hj0
  simp at hj
  subst hj
  exact ⟨r, c, h.cell 0 _ rfl, h.cell 1 _ rfl, h.cell 2 _ rfl, h.cell 3 _ rfl, h.cell 4 _ rfl, hc, hs⟩

end Go.Proofs.Ytpfighkafmammaa

/-
  What a leaf stands for, what is left of versions behind a closure, the live ones, and which of two wins: the program's.
-/

namespace Go.Proofs.Ytpfighkafmammaa
open Go.RowKit

theorem run_append_none {w : World} (base : Nat) (t ty e : TypeId) (i : TypeInfo) (size : Nat) (ht : Try.prog.underlying t = some (.slice e)) (hi : Try.prog.info? e = some i)
    (v : Value) (n : Nat) (xs : List Value) (hown : w.ownsRow base e size v n xs) (c : Nat) :
    (Builtin.append_ #[t, t] ty #[v, .slice none 0 c]).run Try.prog w = .ok v w := by
  rcases hown.2 with ⟨rfl, rfl⟩ | ⟨g, cap, cur, rfl, _, _, hnc, _⟩
  · simp [Builtin.append_, run_underlying ht, sizeOf, typeInfo, hi, Builtin.lenOf, Builtin.firstCells]
  · simp [Builtin.append_, run_underlying ht, sizeOf, typeInfo, hi, Builtin.lenOf, Builtin.firstCells, hnc, storeCells]
/-- A list of dots appended to one of the call's own. -/
theorem append_sl {w : World} {ops : Array Oper} {rest : List Oper} {o : Oper} {a : Act} {Q : Exit → Act → World → Prop} (hgd : o.guard = none) (s x : Operand)
    (ho : o.op = .call { callee := .builtin .append, args := #[s, x], argTypes := #[59, 59] }) (base : Nat) (v : Value) (ds : List Vc.D) (hs : a.eval s = v) (hown : w.ownsRow base 58 2 v ds.length (flat ds))
    (r : Option Addr) (c : Nat) (xs : List Vc.D) (hx : a.eval x = .slice r xs.length c) (hsl : Sl w r xs) (hn : ds.length + xs.length ≤ 200000) (hbase : base ≤ w.heap.size)
    (h : ∀ v' w', w'.ownsRow base 58 2 v' (ds ++ xs).length (flat (ds ++ xs)) → Below base w w' → wpList Try.prog ops Q rest (a.put o.dst v') w') : wpList Try.prog ops Q (o :: rest) a w := by
  obtain ⟨i0, hi, hz0, hz1, hz2⟩ := info_parts info58
  cases r with
  | none =>
    have hxs : xs = [] := by
      cases xs with
      | nil => rfl
      | cons d l => obtain ⟨g, o, e, _⟩ := hsl (by simp); cases e
    subst hxs
    refine wpList_plain hgd fun K hK => ?_
    have hrun := run_append_none (w := w) base 59 o.type 58 i0 2 Try.underlying59 hi v ds.length (flat ds) hown c
    unfold Oper.wp
    simp only [List.length_nil] at hx
    simp [execOp, ho, resolve, invoke, builtin, hs, hx, hrun, Result.andThen]
    refine hK _ _ (h v w ?_ (Below.refl _ _))
    rw [List.append_nil]
    exact hown
  | some ad =>
    refine wpList_append_own w hgd s x 59 ho base 58 i0 _ 2 16 Try.underlying59 hi hz0 hz1 hz2 rfl (by decide) v ds.length (flat ds) hs hown ad xs.length c (flat xs) hx (flat_len xs) ?_ (flat_one xs) (by unfold maxLen; omega) (by omega) hbase ?_
    · cases xs with
      | nil => intro j u hu; simp [flat] at hu
      | cons d l =>
        obtain ⟨g, o, e, _, hc⟩ := hsl (by simp)
        injection e with e
        subst e
        exact sl_cells hc
    · intro v' w' h1 h2 _
      refine h v' w' ?_ (grown_below hown h2 hbase)
      rw [List.length_append, flat_append]
      exact h1

set_option maxRecDepth 100000 in
set_option maxHeartbeats 400000 in
theorem cloneD_any (a : Option Addr) (cap : Nat) (ds : List Vc.D) (hl : ds.length ≤ 100000) (w : World) (h : Sl w a ds) : Calls Try.prog 67 #[.slice a ds.length cap] w (MadeF w ds) := by
  have HS := hide h
  have HL := hide hl
  have q25 : ∀ (w : World) (a : Option Addr) (n c n' c' : Nat), (binOp .eql 59 (.slice a n c) (.slice none n' c')).run Try.prog w = .ok (.bool a.isNone) w := fun w a n c n' c' => Lib.run_eql_slice_nil w _ _ a n c n' c' Try.underlying59
  clear h hl
  cases a with
  | none =>
    have hxs : ds = [] := by
      cases ds with
      | nil => rfl
      | cons d l => obtain ⟨g, o, e, _⟩ := unhide HS (by simp); cases e
    subst hxs
    go_enter Try.func67, Try.ntmps67
    go_wp2_with fail
    go_ret
    exact ⟨none, 0, rfl, Nat.le_refl _, Sl.none _ _, Below.refl _ _, Fresh.nil _ _⟩
  | some ad =>
    have HB := hide (below_alloc' (w := w) (.cells #[] 58))
    have HO := hide (World.ownsRow_lit (base := w.heap.size) (e := 58) (size := 2) w #[] 0 (Nat.le_refl _) (by unfold maxLen; omega) rfl)
    go_enter Try.func67, Try.ntmps67
    go_wp2_with (at_builtin; refine append_sl (by rfl) _ _ (by rfl) w.heap.size _ [] (by rfl) (unhide HO) _ _ ds (by rfl) ((unhide HS).after (unhide HB)) (by have := unhide HL; simp; omega) (by simp) ?_; intro v' w2 hown' hb2; have HB2 := hide ((unhide HB).trans hb2); have HO2 := hide hown'; clear hb2 hown')
    rw [List.nil_append] at HO2
    obtain ⟨r, cap', rfl, hcap, hsl, hfr⟩ := own_slF rfl (unhide HO2)
    have HSL := hide hsl
    have HCAP := hide hcap
    have HFR := hide hfr
    clear hsl hcap hfr
    go_wp2_with fail
    go_ret
    exact ⟨r, cap', rfl, unhide HCAP, unhide HSL, unhide HB2, unhide HFR⟩

/-- What is left: a row of the call's own. -/
def Left (O : Nat → Prop) (w : World) (vs : List Vc.V) (e : Ending) (w' : World) : Prop := ∃ l, e = .returned l ∧ OV O w' w.heap.size l vs ∧ Below w.heap.size w w'
theorem Left.made {O : Nat → Prop} {w w' : World} {vs : List Vc.V} {e : Ending} (hO : ∀ g, w.heap.size ≤ g → O g) (h : Left O w vs e w') : MadeV O w vs e w' := by
  obtain ⟨l, rfl, h1, h2⟩ := h
  obtain ⟨r, c, rfl, hc, hs, hp⟩ := h1.sv
  exact ⟨r, c, rfl, hc, hs, hp hO, h2⟩

end Go.Proofs.Ytpfighkafmammaa
