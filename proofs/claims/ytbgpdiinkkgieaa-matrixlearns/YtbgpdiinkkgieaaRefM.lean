/-
  Rows of vectors in memory; whether something may be learnt, whether rows are the same, and what is stable: the document's.
-/
import Derived.Test.YtbgpdiinkkgieaaSame
import Derived.Test.YtbgpdiinkkgieaaHelp
import Derived.Test.YtbgpdiinkkgieaaRefJoin
import Derived.Test.YtbgpdiinkkgieaaRefWithin
namespace Go.Proofs.Ytbgpdiinkkgieaa
open Go.RowKit

/-- A slice of lists of dots, wherever it and they lie. -/
def RL (W : World) (a : Option Addr) (rows : List (List Vc.D)) : Prop :=
  0 < rows.length → ∃ g o, a = some ⟨g, o, none⟩ ∧ g < W.heap.size ∧ ∀ (j : Nat) (ds : List Vc.D), rows[j]? = some ds → ∃ r c, W.cell? ⟨g, o + j, none⟩ = some (.slice r ds.length c) ∧ ds.length ≤ c ∧ Sl W r ds
theorem RL.after {W W' : World} {a : Option Addr} {rows : List (List Vc.D)} (h : RL W a rows) (hb : Below W.heap.size W W') : RL W' a rows := fun h0 => by
  obtain ⟨g, o, e, hg, hc⟩ := h h0
  refine ⟨g, o, e, Nat.lt_of_lt_of_le hg hb.size, fun j ds hj => ?_⟩
  obtain ⟨r, c, h1, h2, h3⟩ := hc j ds hj
  exact ⟨r, c, (hb.cell (p := ⟨g, o + j, Option.none⟩) hg).trans h1, h2, h3.after hb⟩
theorem RL.none (W : World) (a : Option Addr) : RL W a [] := fun h => absurd h (Nat.lt_irrefl _)
/-- Few rows, none too long to be gone through. -/
def FewR (rows : List (List Vc.D)) : Prop := rows.length ≤ 100000 ∧ ∀ ds ∈ rows, ds.length ≤ 9223372036854775807
theorem FewR.at {rows : List (List Vc.D)} (h : FewR rows) {j : Nat} {ds : List Vc.D} (hj : rows[j]? = some ds) : ds.length ≤ 9223372036854775807 := h.2 ds (List.mem_of_getElem? hj)
/-- Why nothing may be learnt of a peer. -/
def mayE (n peer : Int) (v : List Vc.D) : Int := if peer < 0 ∨ n ≤ peer then 11 else if Vc.check v ≠ 0 then Vc.check v else if (v.any fun d => decide (n ≤ d.1)) = true then 11 else 0
theorem any_snocD {vs : List Vc.D} {k : Nat} {u : Vc.D} {F : Vc.D → Bool} (h : vs[k]? = some u) (hall : ∀ x ∈ vs.take k, F x = false) (hu : F u = false) : ∀ x ∈ vs.take (k + 1), F x = false := fun x hx => by
  rw [take_snocA h] at hx
  rcases List.mem_append.1 hx with hx | hx
  · exact hall x hx
  · rw [List.mem_singleton.1 hx]; exact hu

set_option maxRecDepth 100000 in
set_option maxHeartbeats 800000 in
theorem refMay_any (n peer : Int) (a : Option Addr) (cap : Nat) (v : List Vc.D) (hl : v.length ≤ 9223372036854775807) (w : World) (h : Sl w a v) :
    Calls Try.prog 26 #[.int .i64 n, .int .i64 peer, .slice a v.length cap] w fun e w' => e = .returned (.int .i64 (mayE n peer v)) ∧ Below w.heap.size w w' := by
  have HS := hide h
  have KC := hide fun W h => refCheck_any a cap v hl W h
  obtain ⟨R, hR⟩ : ∃ R, mayE n peer v = R := ⟨_, rfl⟩
  rw [hR]
  unfold mayE at hR
  clear h
  by_cases h1 : peer < 0
  · rw [if_pos (.inl h1)] at hR
    subst hR
    have hd : decide (peer < 0) = true := decide_eq_true h1
    go_enter Try.func26, Try.ntmps26
    go_wp2_with fail
    go_ret
    exact ⟨rfl, Below.refl _ _⟩
  · have hd : decide (peer < 0) = false := decide_eq_false h1
    by_cases h2 : n ≤ peer
    · rw [if_pos (.inr h2)] at hR
      subst hR
      have hd2 : decide (n ≤ peer) = true := decide_eq_true h2
      go_enter Try.func26, Try.ntmps26
      go_wp2_with fail
      go_ret
      exact ⟨rfl, Below.refl _ _⟩
    · have hd2 : decide (n ≤ peer) = false := decide_eq_false h2
      rw [if_neg (by omega)] at hR
      obtain ⟨X, hX⟩ : ∃ X, Vc.check v = X := ⟨_, rfl⟩
      rw [hX] at hR KC
      by_cases h3 : X = 0
      · subst h3
        rw [if_neg (by simp)] at hR
        have HR := hide hR
        clear hR hX
        go_enter Try.func26, Try.ntmps26
        go_wp2_with fail
        refine (unhide KC _ (unhide HS)).mono ?_
        rintro e w1 ⟨rfl, hb⟩
        have HB := hide hb
        have S1 := hide ((unhide HS).after hb)
        clear hb KC
        go_wp2_with fail
        go_loopw [8] (fun i wr => ∃ k : Nat, k ≤ v.length ∧ i = .int .i64 k ∧ Hid (∀ x ∈ v.take k, decide (n ≤ x.1) = false) ∧ wr = w1) (fun i _ => v.length - (intOf i).toNat)
        case atStart => exact ⟨0, Nat.zero_le _, rfl, hide (fun x hx => by simp at hx), rfl⟩
        case round =>
          obtain ⟨k, hk, rfl, HALL, rfl⟩ := hrel
          by_cases hlt : k < v.length
          · obtain ⟨⟨p, c⟩, hx⟩ : ∃ d, v[k]? = some d := ⟨_, List.getElem?_eq_getElem hlt⟩
            obtain ⟨g, o, rfl, hg, hcell⟩ := unhide S1 (by omega)
            have x0 : wr.cell? ⟨g, o + k * 2, none⟩ = some (.int .i64 p) := (hcell k _ hx).1
            by_cases h4 : n ≤ p
            · have hd4 : decide (n ≤ p) = true := decide_eq_true h4
              have HT : Hid (R = 11) := hide (by rw [← unhide HR, if_pos (List.any_eq_true.2 ⟨(p, c), List.mem_of_getElem? hx, decide_eq_true h4⟩)])
              clear hcell hx hg
              go_wp2_with fail
              go_ret
              exact ⟨ret_int (unhide HT).symm, unhide HB⟩
            · have hd4 : decide (n ≤ p) = false := decide_eq_false h4
              have HALL2 := hide (any_snocD hx (unhide HALL) (decide_eq_false h4))
              clear hcell hx hg
              go_wp2_with fail
              go_roundw
              case rel => exact ⟨k + 1, by omega, by go_num, HALL2, by trivial⟩
              case measure => simp [intOf]; omega
          · obtain rfl : k = v.length := by omega
            have HT : Hid (R = 0) := hide (by
              rw [← unhide HR, if_neg]
              intro ha
              obtain ⟨x, hx, h5⟩ := List.any_eq_true.1 ha
              rw [unhide HALL x (by rw [List.take_length]; exact hx)] at h5
              cases h5)
            go_wp2_with fail
            go_ret
            exact ⟨ret_int (unhide HT).symm, unhide HB⟩
      · rw [if_pos h3] at hR
        subst hR
        have hXb : (X != 0) = true := bne_iff_ne.2 h3
        clear h3 hX
        go_enter Try.func26, Try.ntmps26
        go_wp2_with fail
        refine (unhide KC _ (unhide HS)).mono ?_
        rintro e w1 ⟨rfl, hb⟩
        have HB := hide hb
        clear hb KC
        go_wp2_with fail
        go_ret
        exact ⟨rfl, unhide HB⟩

set_option maxRecDepth 100000 in
set_option maxHeartbeats 1000000 in
theorem refSameR_any (a b : Option Addr) (ca cb : Nat) (us vs : List (List Vc.D)) (hf : FewR us) (hg : FewR vs) (w : World) (ha : RL w a us) (hb : RL w b vs) (D : Bool) (hD : D = true ↔ us = vs) :
    Calls Try.prog 14 #[.slice a us.length ca, .slice b vs.length cb] w fun e w' => e = .returned (.bool D) ∧ Below w.heap.size w w' := by
  have HA := hide ha
  have HB := hide hb
  have HF := hide hf
  have HD := hide hD
  have hl := hf.1
  have hl2 := hg.1
  clear ha hb hf hg hD
  by_cases hlen : us.length = vs.length
  · have hbe : ((us.length : Int) != (vs.length : Int)) = false := by simp [hlen]
    have HLEN := hide hlen
    clear hlen
    go_enter Try.func14, Try.ntmps14
    go_wp2_with fail
    go_loopw [5] (fun i wr => ∃ k : Nat, k ≤ us.length ∧ i = .int .i64 k ∧ us.take k = vs.take k ∧ Below w.heap.size w wr) (fun i _ => us.length - (intOf i).toNat)
    case atStart => exact ⟨0, Nat.zero_le _, rfl, rfl, Below.refl _ _⟩
    case round =>
      obtain ⟨k, hk, rfl, heq, hb⟩ := hrel
      have HEQ := hide heq
      have HBr := hide hb
      have S := (unhide HA).after hb
      have T := (unhide HB).after hb
      clear heq hb
      by_cases hlt : k < us.length
      · have hlt2 : k < vs.length := by have := unhide HLEN; omega
        obtain ⟨x, hx⟩ : ∃ d, us[k]? = some d := ⟨_, List.getElem?_eq_getElem hlt⟩
        obtain ⟨y, hy⟩ : ∃ d, vs[k]? = some d := ⟨_, List.getElem?_eq_getElem hlt2⟩
        obtain ⟨g, o, rfl, hg, hcell⟩ := S (by omega)
        obtain ⟨g', o', rfl, hg', hcell'⟩ := T (by omega)
        obtain ⟨q, d, h0, h5, h6⟩ := hcell k x hx
        obtain ⟨q', d', h0', h5', h6'⟩ := hcell' k y hy
        have x0 := cell_regrown h0
        have y0 := cell_regrown h0'
        have H6 := hide h6
        have H6' := hide h6'
        by_cases hxy : x = y
        · have K := hide fun W h h' => refSame_any q q' d d' x y ((unhide HF).at hx) W h h' true (by simp [hxy])
          have HEQ2 : Hid (us.take (k + 1) = vs.take (k + 1)) := hide (by rw [take_snocA hx, take_snocA hy, unhide HEQ, hxy])
          clear hcell hcell' hx hy h0 h5 h6 h0' h5' h6' hxy
          go_wp2_with fail
          refine wp_region_quiet_below (by kernel_rfl) (by kernel_rfl) ?_
          repeat (quiet_step (first | (go_at_call 16; exact Calls.regrown_of (unhide K _ ((unhide H6).after (below_regrown _ _ _)) ((unhide H6').after (below_regrown _ _ _))))))
          refine wpQuiet_nil ?_
          intro _ hw'
          obtain ⟨⟨dq, osq⟩, hw''⟩ := hw'
          subst hw''
          go_wp2_with fail
          go_roundw
          case rel => exact ⟨k + 1, by omega, by go_num, unhide HEQ2, below_grow (unhide HBr) (Nat.le_refl _) (below_regrown _ _ _)⟩
          case measure => simp [intOf]; omega
        · have K := hide fun W h h' => refSame_any q q' d d' x y ((unhide HF).at hx) W h h' false (by simp [hxy])
          obtain rfl : D = false := by
            cases D with
            | false => rfl
            | true =>
              have e := (unhide HD).1 rfl
              rw [e, hy] at hx
              injection hx with hx
              exact absurd hx.symm hxy
          clear hcell hcell' hx hy h0 h5 h6 h0' h5' h6' hxy
          go_wp2_with fail
          refine wp_region_quiet_below (by kernel_rfl) (by kernel_rfl) ?_
          repeat (quiet_step (first | (go_at_call 16; exact Calls.regrown_of (unhide K _ ((unhide H6).after (below_regrown _ _ _)) ((unhide H6').after (below_regrown _ _ _))))))
          refine wpQuiet_nil ?_
          intro _ hw'
          obtain ⟨⟨dq, osq⟩, hw''⟩ := hw'
          subst hw''
          go_wp2_with fail
          go_ret
          exact ⟨rfl, below_grow (unhide HBr) (Nat.le_refl _) (below_regrown _ _ _)⟩
      · obtain rfl : k = us.length := by omega
        obtain rfl : D = true := (unhide HD).2 (by have h := unhide HEQ; rw [List.take_length, unhide HLEN, List.take_length] at h; exact h)
        go_wp2_with fail
        go_ret
        exact ⟨rfl, unhide HBr⟩
  · have hbe : ((us.length : Int) != (vs.length : Int)) = true := by simp; omega
    obtain rfl : D = false := by
      cases D with
      | false => rfl
      | true => exact absurd (by rw [(unhide HD).1 rfl]) hlen
    go_enter Try.func14, Try.ntmps14
    go_wp2_with fail
    go_ret
    exact ⟨rfl, Below.refl _ _⟩

/-- The least count of a peer in the first rows. -/
def mnR (rows : List (List Vc.D)) (p : Int) : Nat → Int
  | 0 => 0
  | i + 1 => if i = 0 ∨ Vc.get (rows[i]?.getD []) p < mnR rows p i then Vc.get (rows[i]?.getD []) p else mnR rows p i
def stableL (rows : List (List Vc.D)) : List Vc.D := Vc.ofN (fun p => mnR rows p rows.length) 64

set_option maxRecDepth 100000 in
set_option maxHeartbeats 1000000 in
theorem refStable_any (a : Option Addr) (cap : Nat) (rows : List (List Vc.D)) (hf : FewR rows) (w : World) (h : RL w a rows) :
    Calls Try.prog 18 #[.slice a rows.length cap] w (Made w (stableL rows)) := by
  obtain ⟨i0, hi, hz0, hz1, hz2⟩ := info_parts info24
  have HS := hide h
  have HF := hide hf
  have hl := hf.1
  obtain ⟨f, hfn⟩ : ∃ f : Nat → Int, (fun p : Nat => mnR rows p rows.length) = f := ⟨_, rfl⟩
  have HFN : Hid (∀ p : Nat, mnR rows p rows.length = f p) := hide (fun p => by rw [← hfn])
  rw [show stableL rows = Vc.ofN f 64 by rw [← hfn]; rfl]
  obtain ⟨N64, h64⟩ : ∃ n, n = 64 := ⟨_, rfl⟩
  rw [← h64]
  have H64 := hide h64
  clear h hf hfn h64
  go_enter Try.func18, Try.ntmps18
  go_wp2_with fail
  go_loopw [3, 4] (fun s i wr => ∃ k : Nat, k ≤ 64 ∧ i = .int .i64 k ∧ wr.ownsRow w.heap.size 24 2 s (Vc.ofN f k).length (flat (Vc.ofN f k)) ∧ Below w.heap.size w wr) (fun _ i _ => 64 - (intOf i).toNat)
  case atStart => exact ⟨0, Nat.zero_le _, rfl, World.ownsRow_nil _ _ _ _, Below.refl _ _⟩
  case round =>
    obtain ⟨k, hk, rfl, hown, hb⟩ := hrel
    have HO := hide hown
    have HB := hide hb
    clear hown hb
    by_cases hlt : k < 64
    · generalize wr = wa at HO HB ⊢
      have hkz : decide ((k : Int) < 64) = true := decide_eq_true (by omega)
      go_wp2_with fail
      go_loopw [5, 6] (fun n i wr => ∃ m : Nat, m ≤ rows.length ∧ i = .int .i64 m ∧ n = .int .i64 (mnR rows k m) ∧ Below wa.heap.size wa wr) (fun _ i _ => rows.length - (intOf i).toNat)
      case atStart => exact ⟨0, Nat.zero_le _, rfl, rfl, Below.refl _ _⟩
      case round =>
        obtain ⟨m, hm, rfl, rfl, hbi⟩ := hrel
        have HBI := hide hbi
        have S := (unhide HS).after (below_grow (unhide HB) (Nat.le_refl _) hbi)
        clear hbi
        by_cases hml : m < rows.length
        · obtain ⟨x, hx⟩ : ∃ d, rows[m]? = some d := ⟨_, List.getElem?_eq_getElem hml⟩
          obtain ⟨g, o, rfl, hg, hcell⟩ := S (by omega)
          obtain ⟨q, d, x0, h5, h6⟩ := hcell m x hx
          have H6 := hide h6
          have K := hide fun W h => refGet_any q d x ((unhide HF).at hx) (k : Int) W h
          have HST : Hid (mnR rows k (m + 1) = if m = 0 ∨ Vc.get x k < mnR rows k m then Vc.get x k else mnR rows k m) := hide (by rw [mnR, hx]; rfl)
          generalize mnR rows k m = A at HST ⊢
          generalize Vc.get x k = X at HST K
          clear hcell hx hg h5 h6
          go_wp2_with fail
          refine (unhide K _ (unhide H6)).mono ?_
          rintro e w2 ⟨rfl, hb2⟩
          replace HBI := hide (below_grow (unhide HBI) (Nat.le_refl _) hb2)
          clear hb2 x0 K
          by_cases hm0 : m = 0
          · subst hm0
            rw [if_pos (.inl rfl)] at HST
            go_wp2_with fail
            go_roundw
            case rel => exact ⟨0 + 1, by omega, by go_num, by rw [unhide HST], unhide HBI⟩
            case measure => simp [intOf]; omega
          · have hmz : ((m : Int) == 0) = false := by simp; omega
            by_cases hXA : X < A
            · rw [if_pos (.inr hXA)] at HST
              have hdx : decide (X < A) = true := decide_eq_true hXA
              go_wp2_with fail
              go_roundw
              case rel => exact ⟨m + 1, by omega, by go_num, by rw [unhide HST], unhide HBI⟩
              case measure => simp [intOf]; omega
            · rw [if_neg (by omega)] at HST
              have hdx : decide (X < A) = false := decide_eq_false hXA
              go_wp2_with fail
              go_roundw
              case rel => exact ⟨m + 1, by omega, by go_num, by rw [unhide HST], unhide HBI⟩
              case measure => simp [intOf]; omega
        · obtain rfl : m = rows.length := by omega
          rw [unhide HFN k]
          obtain ⟨x, hx⟩ : ∃ x, f k = x := ⟨_, rfl⟩
          rw [hx]
          have hlen := Vc.ofN_len f k
          have HSZ := hide (Nat.le_trans (unhide HB).size (unhide HBI).size)
          have HBW := hide (below_grow (unhide HB) (Nat.le_refl _) (unhide HBI))
          have HOW := hide (own_after (unhide HO) (unhide HBI))
          by_cases hp : 0 < x
          · have HST := hide (ofN_pos f k x hx hp)
            have hdp : decide (0 < x) = true := decide_eq_true hp
            obtain ⟨ds, hds⟩ : ∃ ds, Vc.ofN f k = ds := ⟨_, rfl⟩
            rw [hds] at HST HOW hlen
            clear hds hx
            go_wp2_with (at_builtin; refine wpList_append_own _ rfl _ _ 32 rfl w.heap.size 24 i0 _ 2 16 Try.underlying32 hi hz0 hz1 hz2 rfl (by decide) _ _ _ rfl ((unhide HOW).alloc _) ⟨wr.heap.size, 0, none⟩ 1 1 [.int .i64 k, .int .i64 x] rfl rfl (cell_two_new _ _ _ _) (by simp [Value.oneCell']) (by unfold maxLen; omega) (by omega) (by have := unhide HSZ; simp; omega) ?_; intro v' w2 hown' hgrow _; have HB2 := hide (grown_below ((unhide HOW).alloc _) hgrow (by have := unhide HSZ; simp; omega)); have HO2 := hide hown'; clear hgrow hown')
            go_roundw
            case rel =>
              refine ⟨k + 1, by omega, by go_num, ?_, ((unhide HBW).alloc (unhide HBW).size _).trans (unhide HB2)⟩
              rw [unhide HST, List.length_append, flat_append]
              exact unhide HO2
            case measure => simp [intOf]; omega
          · have HST := hide (ofN_zero f k x hx hp)
            have hdp : decide (0 < x) = false := decide_eq_false hp
            clear hx
            go_wp2_with fail
            go_roundw
            case rel => exact ⟨k + 1, by omega, by go_num, by rw [unhide HST]; exact unhide HOW, unhide HBW⟩
            case measure => simp [intOf]; omega
    · obtain rfl : N64 = k := by have := unhide H64; omega
      obtain ⟨r, cap', rfl, hcap, hsl⟩ := own_sl rfl (unhide HO)
      have HSL := hide hsl
      have HCAP := hide hcap
      clear hsl hcap
      go_wp2_with fail
      go_ret
      exact ⟨r, cap', rfl, unhide HCAP, unhide HSL, unhide HB⟩
end Go.Proofs.Ytbgpdiinkkgieaa
