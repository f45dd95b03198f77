/-
  The walk of the statement on versions that are kept.
-/
import Derived.Test.YtbghekolfcakeaaOrderLaw
namespace Go.Proofs.Ytbghekolfcakeaa
open Go.RowKit

def keeps (v u : Vc.V) : Bool := decide (u.dot = v.dot) || Vc.covers u v
theorem kept_any {x : List Vc.V} {v : Vc.V} (h : ∃ u ∈ x, u.dot = v.dot ∨ Vc.covers u v = true) : x.any (keeps v) = true := by
  obtain ⟨u, hu, h⟩ := h
  refine List.any_eq_true.2 ⟨u, hu, ?_⟩
  unfold keeps
  rcases h with h | h
  · simp [h]
  · simp [h]

set_option maxRecDepth 100000 in
set_option maxHeartbeats 1000000 in
theorem kept_walk (P : Prg) (a : Option Addr) (cap : Nat) (ss : List St) (hl : ss.length ≤ 9223372036854775807) (w : World) (h : SS w a ss) :
    Calls Try.prog 8 #[.slice a ss.length cap] w fun e w' => e = .returned (.bool true) ∧ Below w.heap.size w w' := by
  have KW := hide (world_any P a cap ss hl w h)
  have PR := hide P
  clear h P
  go_enter Try.func8, Try.ntmps8
  go_wp2_with fail
  refine (unhide KW).mono ?_
  rintro e w1 ⟨n, L, all, R, C, rA, cA, rfl, hnet, hlv, hcA, hal, hsA, hb⟩
  have HN := hide hnet
  have HB := hide hb
  have F0 : Hid (LF (R 0) (C 0) (L 0) w1) := hide ⟨hnet.leaf (by decide), (hlv 0 (by decide)).1, (hlv 0 (by decide)).2⟩
  have F1 : Hid (LF (R 1) (C 1) (L 1) w1) := hide ⟨hnet.leaf (by decide), (hlv 1 (by decide)).1, (hlv 1 (by decide)).2⟩
  have F2 : Hid (LF (R 2) (C 2) (L 2) w1) := hide ⟨hnet.leaf (by decide), (hlv 2 (by decide)).1, (hlv 2 (by decide)).2⟩
  have SA := hide hsA
  have HALL := hide (fun (v : Vc.V) (hv : v ∈ all) => hnet.wd.ok v hv)
  clear hnet hlv hb hsA KW
  simp only [rows3, leafF]
  generalize hr0 : R 0 = r0 at F0 ⊢
  generalize hr1 : R 1 = r1 at F1 ⊢
  generalize hr2 : R 2 = r2 at F2 ⊢
  generalize hc0 : C 0 = c0 at F0 ⊢
  generalize hc1 : C 1 = c1 at F1 ⊢
  generalize hc2 : C 2 = c2 at F2 ⊢
  obtain ⟨l0, hl0⟩ : ∃ l, L 0 = l := ⟨_, rfl⟩
  obtain ⟨l1, hl1⟩ : ∃ l, L 1 = l := ⟨_, rfl⟩
  obtain ⟨l2, hl2⟩ : ∃ l, L 2 = l := ⟨_, rfl⟩
  rw [hl0] at F0 ⊢
  rw [hl1] at F1 ⊢
  rw [hl2] at F2 ⊢
  have HL0 := hide hl0
  have HL1 := hide hl1
  have HL2 := hide hl2
  clear hr0 hr1 hr2 hc0 hc1 hc2 hl0 hl1 hl2
  go_wp2_with (refine store_row (by rfl) 47 _ _ (by rfl) w1.heap.size [.slice r0 l0.length c0, .slice r1 l1.length c1, .slice r2 l2.length c2] (by rfl) (by rfl) 47 zeros3 (VRow.newAt rfl) 3 size47 rfl rfl (by simp [Value.oneCell']) ?_; intro w2 ho hr; have hb2 := (below_alloc' (w := w1) (.cells zeros3.toArray 47)).trans (ho.below (Nat.le_refl _)); replace HB := hide (below_grow (unhide HB) (Nat.le_refl _) hb2); replace F0 := hide ((unhide F0).after hb2); replace F1 := hide ((unhide F1).after hb2); replace F2 := hide ((unhide F2).after hb2); replace SA := hide ((unhide SA).after hb2); have RL := hide hr; clear ho hr hb2)
  generalize w1.heap.size = DD at RL ⊢
  have d0 := (unhide RL).cell 0 _ rfl
  have d1 := (unhide RL).cell 1 _ rfl
  have d2 := (unhide RL).cell 2 _ rfl
  have SB : Hid (∀ w', Below w2.heap.size w2 w' → w'.cell? ⟨DD, 0, none⟩ = some (.slice r0 l0.length c0) ∧ w'.cell? ⟨DD, 1, none⟩ = some (.slice r1 l1.length c1) ∧ w'.cell? ⟨DD, 2, none⟩ = some (.slice r2 l2.length c2) ∧ Below w2.heap.size w2 w') := hide (fun w' hb => ⟨((unhide RL).after hb).cell 0 _ rfl, ((unhide RL).after hb).cell 1 _ rfl, ((unhide RL).after hb).cell 2 _ rfl, hb⟩)
  clear d0 d1 d2
  go_wp2_with fail
  go_region_held3 (fun w' => w'.cell? ⟨DD, 0, none⟩ = some (.slice r0 l0.length c0) ∧ w'.cell? ⟨DD, 1, none⟩ = some (.slice r1 l1.length c1) ∧ w'.cell? ⟨DD, 2, none⟩ = some (.slice r2 l2.length c2) ∧ Below w2.heap.size w2 w')
    (first
      | exact unhide SB _ (below_drew (Below.refl _ _))
      | exact unhide SB _ (below_grow (And.right (And.right (And.right (by assumption)))) (Nat.le_refl _) (by assumption)))
    (first
      | (go_at_call_of 32 r0; refine ((unhide PR).syncs (ra := r0) (rb := r1) (ca := c0) (cb := c1) (a := l0) (b := l1) ((unhide F0).after (And.right (And.right (And.right (by assumption))))) ((unhide F1).after (And.right (And.right (And.right (by assumption)))))).mono ?_; rintro e wa ⟨sAB, qAB, dAB, rfl, fAB, iAB, hba⟩)
      | (go_at_call 32; refine ((unhide PR).syncs (ra := qAB) (rb := r2) (ca := dAB) (cb := c2) (a := sAB) (b := l2) fAB ((unhide F2).after (And.right (And.right (And.right (by assumption)))))).mono ?_; rintro e wb ⟨sX, qX, dX, rfl, fX, iX, hbb⟩))
  all_goals rename_i hHeld
  all_goals have hbz := hHeld.2.2.2
  all_goals clear hHeld
  all_goals
    replace HB := hide (below_grow (unhide HB) (Nat.le_refl _) hbz)
    replace SA := hide ((unhide SA).after hbz)
    have X := hide fX
    have HKEPT : Hid (∀ v ∈ all, sX.any (keeps v) = true) := hide (fun v hv => kept_any ((unhide HN).kept (by rw [unhide HL0, unhide HL1]; exact iAB) (by rw [unhide HL2]; exact iX) v hv))
    clear hbz fX fAB iAB iX hba hbb RL SB F0 F1 F2
    have KL := hide ((unhide PR).checkLeaf qX dX sX (unhide X).few (unhide X).cap _ (unhide X).sv)
    rw [(unhide X).zero] at KL
    have hXl := (unhide X).ok.len
    go_wp2_with fail
    refine (unhide KL).mono ?_
    rintro e w4 ⟨rfl, hb⟩
    replace HB := hide (below_grow (unhide HB) (Nat.le_refl _) hb)
    replace SA := hide ((unhide SA).after hb)
    replace X := hide ((unhide X).after hb)
    clear hb KL
    go_wp2_with fail
    go_loopw [6] (fun i wr => ∃ k : Nat, k ≤ all.length ∧ i = .int .i64 k ∧ Below w4.heap.size w4 wr) (fun i _ => all.length - (intOf i).toNat)
    case atStart => exact ⟨0, Nat.zero_le _, rfl, Below.refl _ _⟩
    case round =>
      obtain ⟨k, hk, rfl, hb⟩ := hrel
      have HBr := hide hb
      clear hb
      by_cases hlt : k < all.length
      · obtain ⟨v, hx⟩ : ∃ d, all[k]? = some d := ⟨_, List.getElem?_eq_getElem hlt⟩
        have HX := hide hx
        have hKv := unhide HKEPT v (List.mem_of_getElem? hx)
        clear hx
        generalize wr = wa at HBr ⊢
        go_wp2_with fail
        go_loopw [7, 8] (fun x i wr => ∃ m : Nat, m ≤ sX.length ∧ i = .int .i64 m ∧ x = .bool ((sX.take m).any (keeps v)) ∧ Below wa.heap.size wa wr) (fun _ i _ => sX.length - (intOf i).toNat)
        case atStart => exact ⟨0, Nat.zero_le _, rfl, rfl, Below.refl _ _⟩
        case round =>
          obtain ⟨m, hm, rfl, rfl, hb⟩ := hrel
          have HBi := hide hb
          have hbi := below_grow (unhide HBr) (Nat.le_refl _) hb
          have S1 := (unhide SA).after hbi
          have S2 := (unhide X).sv.after hbi
          clear hb hbi
          by_cases hml : m < sX.length
          · obtain ⟨u, hu⟩ : ∃ d, sX[m]? = some d := ⟨_, List.getElem?_eq_getElem hml⟩
            have HNX : Hid (((sX.take (m + 1)).any (keeps v)) = (((sX.take m).any (keeps v)) || keeps v u)) := hide (by rw [take_snocA hu, List.any_append]; simp)
            generalize ((sX.take m).any (keeps v)) = Q at HNX ⊢
            cases Q with
            | true =>
              rw [Bool.true_or] at HNX
              clear hu hKv
              go_wp2_with fail
              go_quiet (fail)
              go_wp2_with fail
              go_roundw
              case rel => exact ⟨m + 1, by omega, by go_num, by rw [unhide HNX], below_drewN (unhide HBi) _⟩
              case measure => simp [intOf]; omega
            | false =>
              rw [Bool.false_or] at HNX
              obtain ⟨g, o, rfl, hg, hcell⟩ := S1 (by omega)
              obtain ⟨g', o', rfl, hg', hcell'⟩ := S2 (by omega)
              obtain ⟨q, d, h0, h1, h2, h3, h4, h5, h6⟩ := hcell k v (unhide HX)
              obtain ⟨q', d', h0', h1', h2', h3', h4', h5', h6'⟩ := hcell' m u hu
              have HVO := hide (unhide HALL v (List.mem_of_getElem? (unhide HX)))
              have HUO := hide ((unhide X).ok.up.mem (List.mem_of_getElem? hu)).1
              clear hcell hcell' hu hg hg' hKv
              by_cases hdot : u.dot = v.dot
              · have e1 : u.dot.1 = v.dot.1 := by rw [hdot]
                have e2 : u.dot.2 = v.dot.2 := by rw [hdot]
                rw [e1] at h0'
                rw [e2] at h1'
                rw [show keeps v u = true by unfold keeps; simp [hdot]] at HNX
                clear h2 h3 h4 h5 h6 h2' h3' h4' h5' h6' hdot e1 e2
                go_wp2_with fail
                go_quiet (fail)
                go_wp2_with fail
                go_roundw
                case rel => exact ⟨m + 1, by omega, by go_num, by rw [unhide HNX], below_drewN (unhide HBi) _⟩
                case measure => simp [intOf]; omega
              · have hne : u.dot.1 = v.dot.1 → ¬ u.dot.2 = v.dot.2 := fun e1 e2 => hdot (Prod.ext e1 e2)
                rw [show keeps v u = Vc.covers u v by unfold keeps; simp [hdot]] at HNX
                have K := hide fun W h h' => (unhide PR).covers u v q' q d' d (by have := Vc.vec_len (unhide HUO).past; omega) (by have := Vc.vec_len (unhide HVO).past; omega) h5' h5 W h h'
                unfold verL at K
                generalize Vc.covers u v = Y at HNX K
                have x0 := cell_regrown h0
                have x1 := cell_regrown h1
                have x2 := cell_regrown h2
                have x3 := cell_regrown h3
                have x4 := cell_regrown h4
                have y0 := cell_regrown h0'
                have y1 := cell_regrown h1'
                have y2 := cell_regrown h2'
                have y3 := cell_regrown h3'
                have y4 := cell_regrown h4'
                have H6 := hide h6
                have H6' := hide h6'
                clear h0 h1 h2 h3 h4 h5 h6 h0' h1' h2' h3' h4' h5' h6' hdot
                by_cases hp1 : u.dot.1 = v.dot.1
                · have hp2 := hne hp1
                  have hb2 : (u.dot.2 == v.dot.2) = false := beq_eq_false_iff_ne.2 hp2
                  rw [hp1] at y0 K
                  clear hne hp1 hp2
                  go_wp2_with fail
                  refine wp_region_quiet_below (by kernel_rfl) (by kernel_rfl) ?_
                  repeat (quiet_step (first | (go_at_call 15; exact Calls.regrown_of (unhide K _ ((unhide H6').after (below_regrown _ _ _)) ((unhide H6).after (below_regrown _ _ _))))))
                  refine wpQuiet_nil ?_
                  intro _ hw'
                  obtain ⟨⟨dq, osq⟩, hw''⟩ := hw'
                  subst hw''
                  go_wp2_with fail
                  go_roundw
                  case rel => exact ⟨m + 1, by omega, by go_num, by rw [unhide HNX], below_grow (unhide HBi) (Nat.le_refl _) (below_regrown _ _ _)⟩
                  case measure => simp [intOf]; omega
                · have hb1 : (u.dot.1 == v.dot.1) = false := beq_eq_false_iff_ne.2 hp1
                  clear hne hp1
                  go_wp2_with fail
                  refine wp_region_quiet_below (by kernel_rfl) (by kernel_rfl) ?_
                  repeat (quiet_step (first | (go_at_call 15; exact Calls.regrown_of (unhide K _ ((unhide H6').after (below_regrown _ _ _)) ((unhide H6).after (below_regrown _ _ _))))))
                  refine wpQuiet_nil ?_
                  intro _ hw'
                  obtain ⟨⟨dq, osq⟩, hw''⟩ := hw'
                  subst hw''
                  go_wp2_with fail
                  go_roundw
                  case rel => exact ⟨m + 1, by omega, by go_num, by rw [unhide HNX], below_grow (unhide HBi) (Nat.le_refl _) (below_regrown _ _ _)⟩
                  case measure => simp [intOf]; omega
          · obtain rfl : m = sX.length := by omega
            rw [List.take_length, hKv]
            go_wp2_with fail
            go_roundw
            case rel => exact ⟨k + 1, by omega, by go_num, below_grow (unhide HBr) (Nat.le_refl _) (unhide HBi)⟩
            case measure => simp [intOf]; omega
      · obtain rfl : k = all.length := by omega
        go_wp2_with fail
        refine (awake_any (unhide PR) _).mono ?_
        rintro e w9 ⟨rfl, hb⟩
        have HB9 := hide (below_grow (below_grow (unhide HB) (Nat.le_refl _) (unhide HBr)) (Nat.le_refl _) hb)
        clear hb
        go_wp2_with fail
        go_ret
        exact ⟨rfl, unhide HB9⟩
end Go.Proofs.Ytbghekolfcakeaa
