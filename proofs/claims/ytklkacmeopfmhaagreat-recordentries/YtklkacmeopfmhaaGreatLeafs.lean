/-
  Whether a version is covered by one of a list, and why a leaf may not be: the document's.
-/
import Derived.Test.YtklkacmeopfmhaaGreatVers
namespace Go.Proofs.YtklkacmeopfmhaaGreat
open Go.RowKit

theorem covered_snoc {vs : List Vc.V} {k : Nat} {u : Vc.V} (h : vs[k]? = some u) {v : Vc.V} (hall : ∀ x ∈ vs.take k, Vc.covers x v = false) (hu : Vc.covers u v = false) : ∀ x ∈ vs.take (k + 1), Vc.covers x v = false := fun x hx => by
  rw [take_snocA h] at hx
  rcases List.mem_append.1 hx with hx | hx
  · exact hall x hx
  · rw [List.mem_singleton.1 hx]; exact hu

set_option maxRecDepth 100000 in
set_option maxHeartbeats 1000000 in
theorem refCovered_any (a : Option Addr) (cap : Nat) (vs : List Vc.V) (hf : Few vs) (v : Vc.V) (r : Option Addr) (c : Nat) (w : World) (h : SV w a vs) :
    Calls Tryz.prog 68 #[.slice a vs.length cap, .agg (verL v r c).toArray] w fun e w' => e = .returned (.bool (Vc.covered vs v)) ∧ Below w.heap.size w w' := by
  have HB := hide (below_alloc' (w := w) (.cells (verL v r c).toArray 56))
  have RS := hide (VRow.new w 56 (verL v r c))
  have S := hide (h.after (unhide HB))
  have HF := hide hf
  have hl := hf.1
  obtain ⟨R, hR⟩ : ∃ R, Vc.covered vs v = R := ⟨_, rfl⟩
  rw [hR]
  have HR := hide hR
  clear h hf hR
  unfold verL at RS ⊢
  go_enter Tryz.func68, Tryz.ntmps68
  go_wp2_with fail
  unfold verL at *
  generalize w.alloc (.cells _ 56) = w0 at HB RS S ⊢
  go_loopw [5] (fun i wr => ∃ k : Nat, k ≤ vs.length ∧ i = .int .i64 k ∧ (∀ x ∈ vs.take k, Vc.covers x v = false) ∧ Below w0.heap.size w0 wr) (fun i _ => vs.length - (intOf i).toNat)
  case atStart => exact ⟨0, Nat.zero_le _, rfl, fun x hx => (by simp at hx), Below.refl _ _⟩
  case round =>
    obtain ⟨k, hk, rfl, hall, hb⟩ := hrel
    have HALL := hide hall
    have HB2 := hide (below_grow (unhide HB) (Nat.le_refl _) hb)
    have RS2 := (unhide RS).after hb
    have S2 := (unhide S).after hb
    have HBL := hide hb
    have b0 := cell_regrown (RS2.cell 0 _ rfl)
    have b1 := cell_regrown (RS2.cell 1 _ rfl)
    have b2 := cell_regrown (RS2.cell 2 _ rfl)
    have b3 := cell_regrown (RS2.cell 3 _ rfl)
    have b4 := cell_regrown (RS2.cell 4 _ rfl)
    clear hall hb RS2
    by_cases hlt : k < vs.length
    · obtain ⟨u, hx⟩ : ∃ d, vs[k]? = some d := ⟨_, List.getElem?_eq_getElem hlt⟩
      obtain ⟨g, o, rfl, hg, hcell⟩ := S2 (by omega)
      obtain ⟨q, d, h0, h1, h2, h3, h4, h5, h6⟩ := hcell k u hx
      have x0 := cell_regrown h0
      have x1 := cell_regrown h1
      have x2 := cell_regrown h2
      have x3 := cell_regrown h3
      have x4 := cell_regrown h4
      have H6 := hide h6
      have K := hide fun W h => refCovers_any u v q r d c ((unhide HF).at hx) W h
      unfold verL at K
      by_cases hc : Vc.covers u v = true
      · have HT : R = true := by
          rw [← unhide HR]
          exact List.any_eq_true.2 ⟨u, List.mem_of_getElem? hx, hc⟩
        subst HT
        rw [hc] at K
        clear hcell hx hc h0 h1 h2 h3 h4 h5 h6 HR
        go_wp2_with fail
        refine wp_region_quiet_below (by kernel_rfl) (by kernel_rfl) ?_
        repeat (quiet_step (first | (go_at_call 87; exact Calls.regrown_of (unhide K _ ((unhide H6).after (below_regrown _ _ _))))))
        refine wpQuiet_nil ?_
        intro _ hw'
        obtain ⟨⟨dq, osq⟩, hw''⟩ := hw'
        subst hw''
        go_wp2_with fail
        go_ret
        exact ⟨rfl, below_grow (unhide HB2) (Nat.le_refl _) (below_regrown _ _ _)⟩
      · rw [Bool.not_eq_true] at hc
        rw [hc] at K
        have HALL2 := hide (covered_snoc hx (unhide HALL) hc)
        clear hcell hx hc h0 h1 h2 h3 h4 h5 h6
        go_wp2_with fail
        refine wp_region_quiet_below (by kernel_rfl) (by kernel_rfl) ?_
        repeat (quiet_step (first | (go_at_call 87; exact Calls.regrown_of (unhide K _ ((unhide H6).after (below_regrown _ _ _))))))
        refine wpQuiet_nil ?_
        intro _ hw'
        obtain ⟨⟨dq, osq⟩, hw''⟩ := hw'
        subst hw''
        go_wp2_with fail
        go_roundw
        case rel => exact ⟨k + 1, by omega, by go_num, unhide HALL2, below_grow (unhide HBL) (Nat.le_refl _) (below_regrown _ _ _)⟩
        case measure => simp [intOf]; omega
    · obtain rfl : k = vs.length := by omega
      have HT : R = false := by
        rw [← unhide HR]
        exact (Vc.covered_no vs v).2 fun x hx => unhide HALL x (by rw [List.take_length]; exact hx)
      subst HT
      go_wp2_with fail
      go_ret
      exact ⟨rfl, unhide HB2⟩
end Go.Proofs.YtklkacmeopfmhaaGreat
