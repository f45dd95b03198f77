/-
  What Has and Len of a set answer, the program's (by a search by halves) and the document's; whether two sets are the same.
-/
import Derived.Test.YtpcfblpenealbaaCheckS
import Derived.Test.YtpcfblpenealbaaHas
namespace Go.Proofs.Ytpcfblpenealbaa
open Go.RowKit

theorem ris_idx : ∀ {l : List Vc.D} {p : Vc.D} {i t : Nat} {x y : Vc.D}, Vc.Ris p l → i < t → l[i]? = some x → l[t]? = some y → Vc.Ah x y
  | [], _, _, _, _, _, _, _, h, _ => by simp at h
  | d :: l, p, 0, t + 1, x, y, h, _, hx, hy => by
    simp at hx hy
    subst hx
    exact Vc.Ris.mem h.2 (List.mem_of_getElem? hy)
  | d :: l, p, i + 1, t + 1, x, y, h, hl, hx, hy => by
    simp at hx hy
    exact ris_idx h.2 (by omega) hx hy

set_option maxRecDepth 100000 in
set_option maxHeartbeats 2000000 in
theorem bsearch_any (a : Option Addr) (cap : Nat) (E : List Vc.D) (hE : E.length ≤ 100000) (hr : Vc.Ris Vc.d0 E) (p c : Int) (w : World) (h : Sl w a E) (D : Bool) (hD : D = true ↔ (p, c) ∈ E) :
    Calls Try.prog 35 #[.slice a E.length cap, .agg #[.int .i64 p, .int .i64 c], .func (.func 30) #[] #[]] w fun e w' => (∃ i : Int, e = .returned (.tuple #[.int .i64 i, .bool D])) ∧ Below w.heap.size w w' := by
  have HB0 := hide (below_alloc' (w := w) (.cells #[.int .i64 p, .int .i64 c] 26))
  have RT := hide (VRow.new w 26 [.int .i64 p, .int .i64 c])
  have HS := hide (h.after (unhide HB0))
  have HR := hide hr
  have HD := hide hD
  clear h hr hD
  go_enter Try.func35, Try.ntmps35
  go_wp2_with fail
  generalize w.alloc (.cells #[.int .i64 p, .int .i64 c] 26) = w1 at HB0 RT HS ⊢
  go_loopw [9, 10] (fun x y wr => ∃ i j : Nat, x = .int .i64 i ∧ y = .int .i64 j ∧ i ≤ j ∧ j ≤ E.length ∧ (∀ t d, t < i → E[t]? = some d → Vc.Ah d (p, c)) ∧ (∀ t d, j ≤ t → E[t]? = some d → ¬ Vc.Ah d (p, c)) ∧ Below w1.heap.size w1 wr) (fun x y _ => (intOf y).toNat - (intOf x).toNat)
  case atStart => exact ⟨0, E.length, rfl, rfl, Nat.zero_le _, Nat.le_refl _, fun t d h => absurd h (Nat.not_lt_zero _), fun t d h h' => (by rw [List.getElem?_eq_none h] at h'; cases h'), Below.refl _ _⟩
  case round =>
    obtain ⟨i, j, rfl, rfl, hij, hjn, hlo, hhi, hb⟩ := hrel
    have HLO := hide hlo
    have HHI := hide hhi
    have HB := hide hb
    have RT1 := hide ((unhide RT).after hb)
    have HS1 := hide ((unhide HS).after hb)
    have n0 := (unhide RT1).cell 0 _ rfl
    have n1 := (unhide RT1).cell 1 _ rfl
    clear hlo hhi hb
    by_cases hlt : i < j
    · obtain ⟨k, hk⟩ : ∃ k : Nat, k = (i + j) / 2 := ⟨_, rfl⟩
      have hk1 : i ≤ k := by omega
      have hk2 : k < j := by omega
      obtain ⟨⟨p', c'⟩, hd⟩ : ∃ d, E[k]? = some d := ⟨_, List.getElem?_eq_getElem (by omega)⟩
      obtain ⟨g, o, rfl, hg, hcell⟩ := unhide HS1 (by omega)
      have d0 : wr.cell? ⟨g, o + k * 2, none⟩ = some (.int .i64 p') := (hcell k _ hd).1
      have d1 : wr.cell? ⟨g, o + k * 2 + 1, none⟩ = some (.int .i64 c') := (hcell k _ hd).2
      have q0 := cell_regrown d0
      have q1 := cell_regrown d1
      have q2 := cell_regrown n0
      have q3 := cell_regrown n1
      have hkn : k < E.length := by omega
      have KC := hide (cmpD_any p' c' p c)
      have HLT := hide (cmpD_lt (p', c') (p, c))
      generalize cmpD (p', c') (p, c) = R at KC HLT
      have HDK := hide hd
      have hki : ((i : Int) + (j : Int)) / 2 = (k : Int) := by omega
      have HK := hide hk
      clear hd hcell hg hk
      go_wp2_with fail
      by_cases hR : R < 0
      · have hRb : decide (R < 0) = true := decide_eq_true hR
        have HAH := hide ((unhide HLT).1 hR)
        clear HLT hR
        refine wp_region_quiet_below (by kernel_rfl) (by kernel_rfl) ?_
        repeat (quiet_step (first | (go_at_call 30; exact Calls.regrown_of (unhide KC _))))
        refine wpQuiet_nil ?_
        intro _ hw'
        obtain ⟨⟨dq, osq⟩, hw''⟩ := hw'
        subst hw''
        go_wp2_with fail
        go_roundw
        case rel =>
          refine ⟨k + 1, j, by go_num, rfl, by omega, hjn, fun t d ht hd => ?_, unhide HHI, (unhide HB).trans ((below_regrown _ _ _).mono (unhide HB).size)⟩
          by_cases e : t = k
          · subst e
            rw [unhide HDK] at hd
            cases hd
            exact unhide HAH
          · exact (ris_idx (unhide HR) (show t < k by omega) hd (unhide HDK)).trans (unhide HAH)
        case measure => simp [intOf]; omega
      · have hRb : decide (R < 0) = false := decide_eq_false hR
        have HAH := hide (fun h => hR ((unhide HLT).2 h))
        clear HLT hR
        refine wp_region_quiet_below (by kernel_rfl) (by kernel_rfl) ?_
        repeat (quiet_step (first | (go_at_call 30; exact Calls.regrown_of (unhide KC _))))
        refine wpQuiet_nil ?_
        intro _ hw'
        obtain ⟨⟨dq, osq⟩, hw''⟩ := hw'
        subst hw''
        go_wp2_with fail
        go_roundw
        case rel =>
          refine ⟨i, k, rfl, rfl, hk1, by omega, unhide HLO, fun t d ht hd h => ?_, (unhide HB).trans ((below_regrown _ _ _).mono (unhide HB).size)⟩
          by_cases e : t = k
          · subst e
            rw [unhide HDK] at hd
            cases hd
            exact unhide HAH h
          · exact unhide HAH ((ris_idx (unhide HR) (show k < t by omega) (unhide HDK) hd).trans h)
        case measure => simp [intOf]; omega
    · obtain rfl : i = j := by omega
      by_cases hin : i < E.length
      · obtain ⟨⟨p', c'⟩, hd⟩ : ∃ d, E[i]? = some d := ⟨_, List.getElem?_eq_getElem hin⟩
        obtain ⟨g, o, rfl, hg, hcell⟩ := unhide HS1 (by omega)
        have d0 : wr.cell? ⟨g, o + i * 2, none⟩ = some (.int .i64 p') := (hcell i _ hd).1
        have d1 : wr.cell? ⟨g, o + i * 2 + 1, none⟩ = some (.int .i64 c') := (hcell i _ hd).2
        have q0 := cell_regrown d0
        have q1 := cell_regrown d1
        have q2 := cell_regrown n0
        have q3 := cell_regrown n1
        have KC := hide (cmpD_any p' c' p c)
        have HEQ : Hid (cmpD (p', c') (p, c) = 0 ↔ D = true) := hide (by
          rw [unhide HD, cmpD_eq]
          constructor
          · intro e
            rw [← e]
            exact List.mem_of_getElem? hd
          · intro hm
            obtain ⟨t, ht⟩ := List.getElem?_of_mem hm
            rcases Nat.lt_trichotomy t i with hl | rfl | hl
            · exact absurd (unhide HLO t _ hl ht) Vc.Ah.irr
            · rw [hd] at ht
              exact Option.some.inj ht
            · exact absurd (ris_idx (unhide HR) hl hd ht) (unhide HHI i _ (Nat.le_refl _) hd))
        generalize cmpD (p', c') (p, c) = R at KC HEQ
        have hgi : decide ((i : Int) < (E.length : Int)) = true := decide_eq_true (by omega)
        clear hd hcell hg
        by_cases hR : R = 0
        · have hRb : (R == 0) = true := beq_iff_eq.2 hR
          obtain rfl := (unhide HEQ).1 hR
          clear HEQ hR
          go_wp2_with fail
          refine wp_region_quiet_below (by kernel_rfl) (by kernel_rfl) ?_
          repeat (quiet_step (first | (go_at_call 30; exact Calls.regrown_of (unhide KC _))))
          refine wpQuiet_nil ?_
          intro _ hw'
          obtain ⟨⟨dq, osq⟩, hw''⟩ := hw'
          subst hw''
          go_wp2_with fail
          refine bodyPost_ret (results_tmp2 rfl _ _ _) rfl ⟨⟨_, rfl⟩, ?_⟩
          exact below_grow (unhide HB0) (Nat.le_refl _) ((unhide HB).trans ((below_regrown _ _ _).mono (unhide HB).size))
        · have hRb : (R == 0) = false := beq_eq_false_iff_ne.2 hR
          obtain rfl : D = false := by
            cases D with
            | false => rfl
            | true => exact absurd ((unhide HEQ).2 rfl) hR
          clear HEQ hR
          go_wp2_with fail
          refine wp_region_quiet_below (by kernel_rfl) (by kernel_rfl) ?_
          repeat (quiet_step (first | (go_at_call 30; exact Calls.regrown_of (unhide KC _))))
          refine wpQuiet_nil ?_
          intro _ hw'
          obtain ⟨⟨dq, osq⟩, hw''⟩ := hw'
          subst hw''
          go_wp2_with fail
          refine bodyPost_ret (results_tmp2 rfl _ _ _) rfl ⟨⟨_, rfl⟩, ?_⟩
          exact below_grow (unhide HB0) (Nat.le_refl _) ((unhide HB).trans ((below_regrown _ _ _).mono (unhide HB).size))
      · obtain rfl : i = E.length := by omega
        have hgi : decide ((E.length : Int) < (E.length : Int)) = false := decide_eq_false (by omega)
        obtain rfl : D = false := by
          cases D with
          | false => rfl
          | true =>
            obtain ⟨t, ht⟩ := List.getElem?_of_mem ((unhide HD).1 rfl)
            exact absurd (unhide HLO t _ (List.getElem?_eq_some_iff.1 ht).1 ht) Vc.Ah.irr
        go_wp2_with fail
        go_quiet (fail)
        go_wp2_with fail
        refine bodyPost_ret (results_tmp2 rfl _ _ _) rfl ⟨⟨_, rfl⟩, ?_⟩
        exact below_drewN (below_grow (unhide HB0) (Nat.le_refl _) (unhide HB)) _
end Go.Proofs.Ytpcfblpenealbaa
