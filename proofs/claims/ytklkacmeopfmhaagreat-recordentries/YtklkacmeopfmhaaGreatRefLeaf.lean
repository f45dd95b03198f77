/-
  Why a leaf may not be: the document's.
-/
import Derived.Test.YtklkacmeopfmhaaGreatLeafs
namespace Go.Proofs.YtklkacmeopfmhaaGreat
open Go.RowKit

def prevQ (vs : List Vc.V) : Nat → Int
  | 0 => -1
  | k + 1 => ((vs[k]?).map fun v => v.dot.1).getD (-1)
theorem prevQ_at (vs : List Vc.V) (k : Nat) (v : Vc.V) (h : vs[k]? = some v) : prevQ vs (k + 1) = v.dot.1 := by simp [prevQ, h]
theorem chkL_step (vs : List Vc.V) (k : Nat) (v : Vc.V) (h : vs[k]? = some v) : Vc.chkL (prevQ vs k) (vs.drop k) = if Vc.chkV v ≠ 0 then Vc.chkV v else if v.dot.1 ≤ prevQ vs k then 8 else Vc.chkL (prevQ vs (k + 1)) (vs.drop (k + 1)) := by
  have hk := (List.getElem?_eq_some_iff.1 h).1
  rw [prevQ_at vs k v h, List.drop_eq_getElem_cons hk, (List.getElem?_eq_some_iff.1 h).2]
  rfl
theorem chkL_end (vs : List Vc.V) (q : Int) : Vc.chkL q (vs.drop vs.length) = 0 := by rw [List.drop_length]; rfl
theorem leaf_long {vs : List Vc.V} (h : 64 < vs.length) : Vc.checkLeaf vs = 2 := if_pos h
theorem leaf_bad {vs : List Vc.V} (h : ¬ 64 < vs.length) (h2 : Vc.chkL (-1) vs ≠ 0) : Vc.checkLeaf vs = Vc.chkL (-1) vs := by unfold Vc.checkLeaf; rw [if_neg h, if_pos h2]
theorem leaf_cov {vs : List Vc.V} (h : ¬ 64 < vs.length) (h2 : Vc.chkL (-1) vs = 0) {v : Vc.V} (hv : v ∈ vs) (hc : Vc.covered vs v = true) : Vc.checkLeaf vs = 7 := by
  unfold Vc.checkLeaf
  rw [if_neg h, if_neg (by simpa using h2), if_pos (List.any_eq_true.2 ⟨v, hv, hc⟩)]
theorem leaf_fine {vs : List Vc.V} (h : ¬ 64 < vs.length) (h2 : Vc.chkL (-1) vs = 0) (hc : ∀ v ∈ vs, Vc.covered vs v = false) : Vc.checkLeaf vs = 0 := by
  unfold Vc.checkLeaf
  rw [if_neg h, if_neg (by simpa using h2), if_neg]
  intro ha
  obtain ⟨v, hv, h3⟩ := List.any_eq_true.1 ha
  rw [hc v hv] at h3
  cases h3
theorem free_snoc {vs : List Vc.V} {k : Nat} {u : Vc.V} (h : vs[k]? = some u) (hall : ∀ x ∈ vs.take k, Vc.covered vs x = false) (hu : Vc.covered vs u = false) : ∀ x ∈ vs.take (k + 1), Vc.covered vs x = false := fun x hx => by
  rw [take_snocA h] at hx
  rcases List.mem_append.1 hx with hx | hx
  · exact hall x hx
  · rw [List.mem_singleton.1 hx]; exact hu

set_option maxRecDepth 100000 in
set_option maxHeartbeats 2000000 in
theorem refCheckLeaf_any (a : Option Addr) (cap : Nat) (vs : List Vc.V) (hf : Few vs) (w : World) (h : SV w a vs) :
    Calls Tryz.prog 45 #[.slice a vs.length cap] w fun e w' => e = .returned (.int .i64 (Vc.checkLeaf vs)) ∧ Below w.heap.size w w' := by
  have HS := hide h
  have HF := hide hf
  have hl := hf.1
  clear h hf
  by_cases h64 : 64 < vs.length
  · rw [leaf_long h64]
    have hd : decide ((64 : Int) < (vs.length : Int)) = true := decide_eq_true (by omega)
    go_enter Tryz.func45, Tryz.ntmps45
    go_wp2_with fail
    go_ret
    exact ⟨rfl, Below.refl _ _⟩
  · have hd : decide ((64 : Int) < (vs.length : Int)) = false := decide_eq_false (by omega)
    have HBAD := hide fun h2 => leaf_bad h64 h2
    have HCOV := hide fun h2 v hv hc => leaf_cov h64 h2 (v := v) hv hc
    have HFINE := hide fun h2 hc => leaf_fine h64 h2 hc
    have HC := hide (show Vc.chkL (-1) vs = Vc.chkL (prevQ vs 0) (vs.drop 0) from rfl)
    obtain ⟨C, hC⟩ : ∃ C, Vc.chkL (-1) vs = C := ⟨_, rfl⟩
    obtain ⟨R, hR⟩ : ∃ R, Vc.checkLeaf vs = R := ⟨_, rfl⟩
    rw [hC] at HC HBAD HCOV HFINE
    rw [hR] at HBAD HCOV HFINE ⊢
    have KC := hide fun v r c W h => refCovered_any a cap vs (unhide HF) v r c W h
    clear hC hR
    go_enter Tryz.func45, Tryz.ntmps45
    go_wp2_with fail
    go_loopw [3] (fun i wr => ∃ k : Nat, k ≤ vs.length ∧ i = .int .i64 k ∧ C = Vc.chkL (prevQ vs k) (vs.drop k) ∧ Below w.heap.size w wr) (fun i _ => vs.length - (intOf i).toNat)
    case atStart => exact ⟨0, Nat.zero_le _, rfl, unhide HC, Below.refl _ _⟩
    case round =>
      obtain ⟨k, hk, rfl, hc, hb⟩ := hrel
      have HC1 := hide hc
      have HB := hide hb
      have S := hide ((unhide HS).after hb)
      clear hc hb HC
      by_cases hlt : k < vs.length
      · obtain ⟨v, hx⟩ : ∃ d, vs[k]? = some d := ⟨_, List.getElem?_eq_getElem hlt⟩
        obtain ⟨g, o, rfl, hg, hcell⟩ := unhide S (by omega)
        obtain ⟨q, d, x0, x1, x2, x3, x4, h5, h6⟩ := hcell k v hx
        have HG := hide hg
        have HCell := hide hcell
        have HX := hide hx
        have KV := hide fun W h => refCheckV_any v q d ((unhide HF).at hx) W h
        have HST := hide (chkL_step vs k v hx)
        have H6 := hide h6
        unfold verL at KV
        clear hx hg hcell h5 h6
        by_cases he : Vc.chkV v = 0
        · have hok := ((Vc.chkV_zero v).1 he).dot
          rw [he] at KV
          rw [if_neg (by simpa using he)] at HST
          have hp0 : 0 ≤ v.dot.1 := hok.1
          clear he hok
          by_cases hk0 : 0 < k
          · obtain ⟨m, hm⟩ : ∃ m, k = m + 1 := ⟨k - 1, by omega⟩
            obtain ⟨u, hu⟩ : ∃ d, vs[m]? = some d := ⟨_, List.getElem?_eq_getElem (by omega)⟩
            have e' : prevQ vs k = u.dot.1 := by rw [hm]; exact prevQ_at vs m _ hu
            rw [e'] at HST HC1
            obtain ⟨q', d', y0, _, _, _, _, _, _⟩ := unhide HCell m u hu
            have HM := hide y0
            have HK := hide x0
            have hmi : (k : Int) - 1 = (m : Int) := by omega
            have hmw : IntKind.i64.wrap ((k : Int) - 1) = (m : Int) := by rw [hmi]; exact wrap_small (by omega) (by omega)
            have hml : m < vs.length := by omega
            have hgi : (0 : Int) < (k : Int) := by omega
            have HMK : Hid (k = m + 1) := hm
            clear hu hm e' y0
            generalize u.dot.1 = p' at HST HC1 HM
            generalize hvp : v.dot.1 = p at *
            clear hvp
            by_cases hle : p ≤ p'
            · have HNX : Hid (R = 8) := by
                have h := unhide HST
                rw [if_pos hle] at h
                have h8 : C = 8 := (unhide HC1).trans h
                exact hide ((unhide HBAD (by rw [h8]; decide)).trans h8)
              go_wp2_with (go_at_call 67; refine (unhide KV _ (unhide H6)).mono ?_; rintro e w2 ⟨rfl, hb2⟩; have HB2 := hide (below_grow (unhide HB) (Nat.le_refl _) hb2); have c2 := (hb2.cell (p := ⟨g, o + k * 5, none⟩) (unhide HG)).trans (unhide HK); have c3 := (hb2.cell (p := ⟨g, o + m * 5, none⟩) (unhide HG)).trans (unhide HM); clear hb2 x0 x1 x2 x3 x4)
              go_quiet (fail)
              go_wp2_with fail
              go_ret
              exact ⟨ret_int (unhide HNX).symm, below_drewN (unhide HB2) _⟩
            · have HNX : Hid (C = Vc.chkL (prevQ vs (k + 1)) (vs.drop (k + 1))) := by
                have h := unhide HST
                rw [if_neg hle] at h
                exact hide ((unhide HC1).trans h)
              go_wp2_with (go_at_call 67; refine (unhide KV _ (unhide H6)).mono ?_; rintro e w2 ⟨rfl, hb2⟩; have HB2 := hide (below_grow (unhide HB) (Nat.le_refl _) hb2); have c2 := (hb2.cell (p := ⟨g, o + k * 5, none⟩) (unhide HG)).trans (unhide HK); have c3 := (hb2.cell (p := ⟨g, o + m * 5, none⟩) (unhide HG)).trans (unhide HM); clear hb2 x0 x1 x2 x3 x4)
              go_quiet (fail)
              go_wp2_with fail
              go_roundw
              case rel => exact ⟨k + 1, by omega, by go_num, unhide HNX, below_drewN (unhide HB2) _⟩
              case measure => simp [intOf]; omega
          · have HNX : Hid (C = Vc.chkL (prevQ vs (k + 1)) (vs.drop (k + 1))) := by
              have h := unhide HST
              have e : prevQ vs k = -1 := by rw [show k = 0 by omega]; rfl
              rw [e, if_neg (show ¬ v.dot.1 ≤ -1 by omega)] at h
              rw [unhide HC1, e]
              exact h
            have hgd : decide (0 < (k : Int)) = false := decide_eq_false (by omega)
            go_wp2_with (go_at_call 67; refine (unhide KV _ (unhide H6)).mono ?_; rintro e w2 ⟨rfl, hb2⟩; have HB2 := hide (below_grow (unhide HB) (Nat.le_refl _) hb2); clear hb2 x0 x1 x2 x3 x4)
            go_quiet (fail)
            go_wp2_with fail
            go_roundw
            case rel => exact ⟨k + 1, by omega, by go_num, unhide HNX, below_drewN (unhide HB2) _⟩
            case measure => simp [intOf]; omega
        · have HNX : Hid (R = Vc.chkV v) := by
            have h := unhide HST
            rw [if_pos (by simpa using he)] at h
            have h8 : C = Vc.chkV v := (unhide HC1).trans h
            exact hide ((unhide HBAD (by rw [h8]; exact he)).trans h8)
          have heb : (Vc.chkV v != 0) = true := bne_iff_ne.2 he
          clear HST
          generalize Vc.chkV v = X at KV HNX heb he
          clear he
          go_wp2_with (go_at_call 67; refine (unhide KV _ (unhide H6)).mono ?_; rintro e w2 ⟨rfl, hb2⟩; have HB2 := hide (below_grow (unhide HB) (Nat.le_refl _) hb2); clear hb2 x0 x1 x2 x3 x4)
          go_ret
          exact ⟨ret_int (unhide HNX).symm, unhide HB2⟩
      · obtain rfl : k = vs.length := by omega
        have hC0 : C = 0 := (unhide HC1).trans (chkL_end vs _)
        subst hC0
        have HCOV2 := hide fun v hv hc => unhide HCOV rfl v hv hc
        have HFINE2 := hide fun hc => unhide HFINE rfl hc
        clear HC1 HBAD HCOV HFINE
        generalize wr = wa at HB S ⊢
        go_wp2_with fail
        go_loopw [5] (fun i wr => ∃ k : Nat, k ≤ vs.length ∧ i = .int .i64 k ∧ (∀ x ∈ vs.take k, Vc.covered vs x = false) ∧ Below w.heap.size w wr) (fun i _ => vs.length - (intOf i).toNat)
        case atStart => exact ⟨0, Nat.zero_le _, rfl, fun x hx => (by simp at hx), unhide HB⟩
        case round =>
          obtain ⟨k, hk, rfl, hall, hb⟩ := hrel
          have HALL := hide hall
          have HB2 := hide hb
          have S2 := hide ((unhide HS).after hb)
          clear hall hb HB S
          by_cases hlt : k < vs.length
          · obtain ⟨v, hx⟩ : ∃ d, vs[k]? = some d := ⟨_, List.getElem?_eq_getElem hlt⟩
            obtain ⟨g, o, rfl, hg, hcell⟩ := id (unhide S2) (by omega)
            obtain ⟨q, d, x0, x1, x2, x3, x4, h5, h6⟩ := hcell k v hx
            have K := hide fun W h => unhide KC v q d W h
            unfold verL at K
            by_cases hc : Vc.covered vs v = true
            · have HT : R = 7 := unhide HCOV2 v (List.mem_of_getElem? hx) hc
              subst HT
              rw [hc] at K
              clear hcell hx hc h5 h6 hg
              go_wp2_with (go_at_call 68; refine (unhide K _ (unhide S2)).mono ?_; rintro e w2 ⟨rfl, hb2⟩; replace HB2 := hide (below_grow (unhide HB2) (Nat.le_refl _) hb2); clear hb2 x0 x1 x2 x3 x4)
              go_ret
              exact ⟨rfl, unhide HB2⟩
            · rw [Bool.not_eq_true] at hc
              have HALL2 := hide (free_snoc hx (unhide HALL) hc)
              rw [hc] at K
              clear hcell hx hc h5 h6 hg
              go_wp2_with (go_at_call 68; refine (unhide K _ (unhide S2)).mono ?_; rintro e w2 ⟨rfl, hb2⟩; replace HB2 := hide (below_grow (unhide HB2) (Nat.le_refl _) hb2); clear hb2 x0 x1 x2 x3 x4)
              go_roundw
              case rel => exact ⟨k + 1, by omega, by go_num, unhide HALL2, unhide HB2⟩
              case measure => simp [intOf]; omega
          · obtain rfl : k = vs.length := by omega
            have HT : R = 0 := unhide HFINE2 fun x hx => unhide HALL x (by rw [List.take_length]; exact hx)
            subst HT
            go_wp2_with fail
            go_ret
            exact ⟨rfl, unhide HB2⟩
end Go.Proofs.YtklkacmeopfmhaaGreat
