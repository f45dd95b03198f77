/-
  A message taken: through, told to the taker: Head.
-/
import Derived.Test.YthecijjmgfempaaGreatT5o
namespace Go.Proofs.YthecijjmgfempaaGreat
open Go.RowKit

set_option maxRecDepth 100000 in
set_option maxHeartbeats 2000000 in
theorem throughT_2 {w : World} {B q : Nat} {st S : St} (hr : VRow w B 28 mZ) (h : Doc w q 82 st) (hs : st.1.length ≤ 50000000) (hne : B ≠ q) (hx : rNumber st 1073741824 = (2, S)) :
    Calls Tryz.prog 42 #[.pointer (some ⟨B, 0, none⟩), .iface 89 (.agg #[.pointer (some ⟨q, 0, none⟩)])] w (TMsg B q w ({ rH 2 S with root := (rDigest (rHS 2 S)).1, ctx := (rVec (rDigest (rHS 2 S)).2).1, rows := (rRows (rVec (rDigest (rHS 2 S)).2).2).1 }, (rRows (rVec (rDigest (rHS 2 S)).2).2).2)) := by
  have H0 : Hid (TS B q w st zeroM none 0 none 0 w) := hide (TS.start hr h)
  have HBL := hide hr.lt
  have HQL := hide h.lt
  have HNE := hide hne
  have HL0 := hide hs
  have hl1 := rNumber_len st 1073741824
  rw [hx] at hl1
  have HL1 : Hid (S.1.length ≤ 50000000) := hide (Nat.le_trans hl1 hs)
  have K0 := hide fun W (hr : VRow W B 28 (mL zeroM none 0 none 0)) (hd : Doc W q 82 st) => tnumber0_any hr hd hs hne zeroM_root 1073741824
  rw [hx] at K0
  have hmf : ∀ (fn : Fn) (first cap : Array Value) (w : World), (Instr.makeFunc fn first cap).run Tryz.prog w = .ok (.func fn first cap) w := fun _ _ _ _ => rfl
  have hn_number : ∀ w, (nilAhead 262 89 (.agg #[.pointer (some ⟨q, 0, none⟩)]) "hearsay/message.number").run Tryz.prog w = .ok (some false) w := fun _ => by kernel_rfl
  have hm_number : ∀ w, (method 262 89 (.agg #[.pointer (some ⟨q, 0, none⟩)]) "hearsay/message.number").run Tryz.prog w = .ok (123, .agg #[.pointer (some ⟨q, 0, none⟩)]) w := fun _ => by kernel_rfl
  have hn_digest : ∀ w, (nilAhead 262 89 (.agg #[.pointer (some ⟨q, 0, none⟩)]) "hearsay/message.digest").run Tryz.prog w = .ok (some false) w := fun _ => by kernel_rfl
  have hm_digest : ∀ w, (method 262 89 (.agg #[.pointer (some ⟨q, 0, none⟩)]) "hearsay/message.digest").run Tryz.prog w = .ok (121, .agg #[.pointer (some ⟨q, 0, none⟩)]) w := fun _ => by kernel_rfl
  have hn_vector : ∀ w, (nilAhead 262 89 (.agg #[.pointer (some ⟨q, 0, none⟩)]) "hearsay/message.vector").run Tryz.prog w = .ok (some false) w := fun _ => by kernel_rfl
  have hm_vector : ∀ w, (method 262 89 (.agg #[.pointer (some ⟨q, 0, none⟩)]) "hearsay/message.vector").run Tryz.prog w = .ok (126, .agg #[.pointer (some ⟨q, 0, none⟩)]) w := fun _ => by kernel_rfl
  have hn_rows : ∀ w, (nilAhead 262 89 (.agg #[.pointer (some ⟨q, 0, none⟩)]) "hearsay/message.rows").run Tryz.prog w = .ok (some false) w := fun _ => by kernel_rfl
  have hm_rows : ∀ w, (method 262 89 (.agg #[.pointer (some ⟨q, 0, none⟩)]) "hearsay/message.rows").run Tryz.prog w = .ok (124, .agg #[.pointer (some ⟨q, 0, none⟩)]) w := fun _ => by kernel_rfl
  have hn_text : ∀ w, (nilAhead 262 89 (.agg #[.pointer (some ⟨q, 0, none⟩)]) "hearsay/message.text").run Tryz.prog w = .ok (some false) w := fun _ => by kernel_rfl
  have hm_text : ∀ w, (method 262 89 (.agg #[.pointer (some ⟨q, 0, none⟩)]) "hearsay/message.text").run Tryz.prog w = .ok (125, .agg #[.pointer (some ⟨q, 0, none⟩)]) w := fun _ => by kernel_rfl
  have hn_flag : ∀ w, (nilAhead 262 89 (.agg #[.pointer (some ⟨q, 0, none⟩)]) "hearsay/message.flag").run Tryz.prog w = .ok (some false) w := fun _ => by kernel_rfl
  have hm_flag : ∀ w, (method 262 89 (.agg #[.pointer (some ⟨q, 0, none⟩)]) "hearsay/message.flag").run Tryz.prog w = .ok (122, .agg #[.pointer (some ⟨q, 0, none⟩)]) w := fun _ => by kernel_rfl
  have hn_Fail : ∀ w, (nilAhead 262 89 (.agg #[.pointer (some ⟨q, 0, none⟩)]) "Fail").run Tryz.prog w = .ok (some false) w := fun _ => by kernel_rfl
  have hm_Fail : ∀ w, (method 262 89 (.agg #[.pointer (some ⟨q, 0, none⟩)]) "Fail").run Tryz.prog w = .ok (67, .pointer (some ⟨q, 0, none⟩)) w := fun _ => by kernel_rfl
  clear h hr hs hne hx hl1
  go_enter Tryz.func42, Tryz.ntmps42
  go_wp2_with fail
  go_region_held3 (fun _ => True) (trivial)
    (first | (go_at_call 123; refine ((unhide H0).drew.call fun hr hd => unhide K0 _ hr hd).mono ?_; rintro e w1 ⟨rfl, h1⟩))
  rename_i hHeld
  clear hHeld
  have H1 := hide h1
  clear h1
  go_wp2_with fail
  have c0 := m0 (unhide H1).drew.row
  dsimp only at c0
  have C0 := hide c0
  clear c0
  go_region_held3 (fun w' => w'.cell? ⟨B, 0, none⟩ = some (.int .i64 2)) (first | exact unhide C0 | exact m0 (TS.row (by assumption)) | assumption)
    (first | (go_at_call 58; refine (checkKind_any _ _).mono ?_; rintro e w2 ⟨rfl, rfl⟩) | (go_at_call 67; refine ((unhide H1).drew.call fun hr hd => tfail_any hr hd (unhide HNE) (kindErr 2)).mono ?_; rintro e w2 ⟨rfl, h2⟩))
  all_goals
    rename_i hHeld
    clear hHeld
    have H2 := hide h2
    clear h2
    have HL2 : Hid ((fail S (kindErr 2)).1.length ≤ 50000000) := hide (Nat.le_trans (Nat.le_of_eq (fail_len _ _)) (unhide HL1))
    go_wp2_with fail
    go_region_held3 (fun _ => True) (trivial)
      (first | (go_at_call 123; refine ((unhide H2).drew.call fun hr hd => tnumber1_any hr hd (unhide HL2) (unhide HNE) rfl 63).mono ?_; rintro e w3 ⟨rfl, h3⟩))
    rename_i hHeld
    clear hHeld
    have H3 := hide h3
    clear h3
    have HL3 : Hid ((rNumber (fail S (kindErr 2)) 63).2.1.length ≤ 50000000) := hide (Nat.le_trans (rNumber_len _ _) (unhide HL2))
    go_wp2_with fail
    go_region_held3 (fun _ => True) (trivial)
      (first | (go_at_call 123; refine ((unhide H3).drew.call fun hr hd => tnumber2_any hr hd (unhide HL3) (unhide HNE) rfl 63).mono ?_; rintro e w4 ⟨rfl, h4⟩))
    rename_i hHeld
    clear hHeld
    have H4 := hide h4
    clear h4
    have HL4 : Hid ((rNumber (rNumber (fail S (kindErr 2)) 63).2 63).2.1.length ≤ 50000000) := hide (Nat.le_trans (rNumber_len _ _) (unhide HL3))
    go_wp2_with fail
    go_region_held3 (fun _ => True) (trivial)
      (first | (go_at_call 123; refine ((unhide H4).drew.call fun hr hd => tnumber3_any hr hd (unhide HL4) (unhide HNE) rfl 1048576).mono ?_; rintro e w5 ⟨rfl, h5⟩))
    rename_i hHeld
    clear hHeld
    have H5 := hide h5
    clear h5
    have HL5 : Hid ((rNumber (rNumber (rNumber (fail S (kindErr 2)) 63).2 63).2 1048576).2.1.length ≤ 50000000) := hide (Nat.le_trans (rNumber_len _ _) (unhide HL4))
    have x0 := m0 (unhide H5).row
    dsimp only at x0
    go_wp2_with fail
    go_region_held3 (fun _ => True) (trivial)
      (first | (go_at_call 121; refine ((unhide H5).drew.call fun hr hd => tdigest_any hr hd (unhide HL5) (unhide HNE) rfl).mono ?_; rintro e w6 ⟨rfl, h6⟩))
    rename_i hHeld
    clear hHeld
    have H6 := hide h6
    clear h6
    have HL6 : Hid ((rDigest (rNumber (rNumber (rNumber (fail S (kindErr 2)) 63).2 63).2 1048576).2).2.1.length ≤ 50000000) := hide (Nat.le_trans (rDigest_len _) (unhide HL5))
    go_wp2_with fail
    go_region_held3 (fun _ => True) (trivial)
      (first | (go_at_call 126; refine (tvector_any (unhide H6).drew.row (unhide H6).drew.doc (unhide HL6) (unhide HNE) (rDigest_32 _)).mono ?_; rintro e w7 ⟨rfl, av, cv, hv, hcv, hsv, hfv⟩))
    rename_i hHeld
    clear hHeld
    have H7 := hide ((unhide H6).drew.trans hv)
    have HCV := hide hcv
    have HSV := hide hsv
    have HFV := hide hfv
    have HVZ := hide hv.keep.size
    have HL7 : Hid ((rVec (rDigest (rNumber (rNumber (rNumber (fail S (kindErr 2)) 63).2 63).2 1048576).2).2).2.1.length ≤ 50000000) := hide (Nat.le_trans (rVec_less _) (unhide HL6))
    clear hv hcv hsv hfv
    go_wp2_with fail
    go_region_held3 (fun _ => True) (trivial)
      (first | (go_at_call 124; refine (trows_any (unhide H7).drew.row rfl (unhide H7).drew.doc (unhide HL7) (unhide HNE) (rDigest_32 _)).mono ?_; rintro e w8 ⟨rfl, bw, dw, hv, hcw, hsw, hpw⟩))
    rename_i hHeld
    clear hHeld
    have HV := hide hv
    have HCW := hide hcw
    have HSW := hide hsw
    have HPW := hide hpw
    clear hv hcw hsw hpw
    go_wp2_with fail
    go_end0
    have hz5 : w.heap.size ≤ w6.heap.size := (unhide H6).keep.size
    have hz6 : w.heap.size ≤ w7.heap.size := (unhide H7).keep.size
    refine ⟨rfl, av, cv, bw, dw, (unhide H7).drew.trans (unhide HV), unhide HCV, unhide HCW, Sl.besideO (((unhide HSV).after (below_drew (Below.refl _ _)))) (unhide HV).keep (fresh_two ((unhide HFV).weak hz5) (unhide HQL) (unhide HBL)), (unhide HFV).weak hz5, unhide HSW, (unhide HPW).weak fun g hg => Nat.le_trans hz6 hg⟩
end Go.Proofs.YthecijjmgfempaaGreat
