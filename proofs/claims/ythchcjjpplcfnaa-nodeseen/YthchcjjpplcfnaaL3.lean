/-
  The walk of the statement on what is left of a node without what is deleted, and which nodes are the same.
-/
import Derived.Test.YthchcjjpplcfnaaN4
import Derived.Test.YthchcjjpplcfnaaQ3
import Derived.Test.YthchcjjpplcfnaaQ4
import Derived.Test.YthchcjjpplcfnaaG1
import Derived.Test.YthchcjjpplcfnaaK4
import Derived.Lib.QuietBelow
import Derived.Deep.RegionHeld3
namespace Go.Proofs.Ythchcjjpplcfnaa
open Go.RowKit

theorem quiet_node {ops : Array Oper} {rest : List Oper} {o : Oper} {a : Act} {S : World → Prop} {Q : Act → Prop} (hw : Region.wanted o (yielded ops a.tmps) = true) (x : Operand) (ho : o.op = .load 25 x)
    (B : Nat) (hx : a.eval x = .pointer (some ⟨B, 0, none⟩)) (vs : List Value) (hr : ∀ w', S w' → VRow w' B 25 vs) (hn : vs.length = 2)
    (h : wpQuiet Try.prog ops S Q rest (a.put o.dst (.agg vs.toArray))) : wpQuiet Try.prog ops S Q (o :: rest) a := by
  refine wpQuiet_step fun K hK => ?_
  rw [if_pos hw]
  refine ⟨.agg vs.toArray, ?_, hK _ h⟩
  intro w' hS
  unfold Oper.quietAt execOp
  simp only [ho, hx, Instr.loadAt, Instr.sureAddr, Sem.run_bind, Sem.run_pure, Result.andThen_ok, run_loadVar_row w' B 25 25 vs.toArray (0, 0) _ (hr w' hS) Try.underlying25 rfl (by rw [sizeNd]; simp [hn])]
  exact ⟨rfl, rfl⟩
theorem keepS2 {W0 w w' : World} {g : Nat} {x y : Value} (hg : g < W0.heap.size) (h : w.cell? ⟨g, 0, none⟩ = some x ∧ w.cell? ⟨g, 1, none⟩ = some y ∧ Below W0.heap.size W0 w) (hb : Below w.heap.size w w') :
    w'.cell? ⟨g, 0, none⟩ = some x ∧ w'.cell? ⟨g, 1, none⟩ = some y ∧ Below W0.heap.size W0 w' := by
  have hgw : g < w.heap.size := Nat.lt_of_lt_of_le hg h.2.2.size
  exact ⟨(hb.cell (p := ⟨g, 0, none⟩) hgw).trans h.1, (hb.cell (p := ⟨g, 1, none⟩) hgw).trans h.2.1, below_grow h.2.2 (Nat.le_refl _) hb⟩
theorem keepA2 {W0 w : World} {g : Nat} {x y : Value} {o : Obj} (hg : g < W0.heap.size) (h : w.cell? ⟨g, 0, none⟩ = some x ∧ w.cell? ⟨g, 1, none⟩ = some y ∧ Below W0.heap.size W0 w) :
    (w.alloc o).cell? ⟨g, 0, none⟩ = some x ∧ (w.alloc o).cell? ⟨g, 1, none⟩ = some y ∧ Below W0.heap.size W0 (w.alloc o) := keepS2 hg h (below_alloc' o)
theorem keepC2 {W0 w : World} {g : Nat} {x y v : Value} {B k : Nat} (hg : g < W0.heap.size) (h : w.cell? ⟨g, 0, none⟩ = some x ∧ w.cell? ⟨g, 1, none⟩ = some y ∧ Below W0.heap.size W0 w) (hB : W0.heap.size ≤ B := by omega) :
    (w.setCell ⟨B, k, none⟩ v).cell? ⟨g, 0, none⟩ = some x ∧ (w.setCell ⟨B, k, none⟩ v).cell? ⟨g, 1, none⟩ = some y ∧ Below W0.heap.size W0 (w.setCell ⟨B, k, none⟩ v) := by
  have e : ∀ i, (w.setCell ⟨B, k, none⟩ v).cell? ⟨g, i, none⟩ = w.cell? ⟨g, i, none⟩ := fun i => World.cell?_of_block (heap_setCell_other w ⟨B, k, none⟩ g v (by show g ≠ B; omega))
  exact ⟨(e 0).trans h.1, (e 1).trans h.2.1, below_set h.2.2 hB k v⟩
theorem drewS2 {W0 : World} {g : Nat} {x y : Value} (h0 : W0.cell? ⟨g, 0, none⟩ = some x) (h1 : W0.cell? ⟨g, 1, none⟩ = some y) :
    W0.drew.cell? ⟨g, 0, none⟩ = some x ∧ W0.drew.cell? ⟨g, 1, none⟩ = some y ∧ Below W0.heap.size W0 W0.drew := ⟨h0, h1, below_drew (Below.refl _ _)⟩
theorem live_ok {n : Nd} (h : Nok n) : Nok (seenN n) where
  few := ⟨Nat.le_trans (live_len _) h.few.1, fun v hv => h.few.2 v (List.mem_filter.1 hv).1⟩
  kids := h.kids
  digs := h.digs
  names := h.names

set_option maxRecDepth 100000 in
set_option maxHeartbeats 8000000 in
theorem seen_walk (n : Nd) (a : Option Addr) (c : Nat) (b : Option Addr) (d : Nat) (hc : Ncome n) (hl : Light n.vs) (m : Nd) (a2 : Option Addr) (c2 : Nat) (b2 : Option Addr) (d2 : Nat) (hc2 : Ncome m) (w : World) (h : NdAt w n a c b d) (h2 : NdAt w m a2 c2 b2 d2) :
    Calls Try.prog 4 #[.agg (ndL n a c b d).toArray, .agg (ndL m a2 c2 b2 d2).toArray] w fun e w' => e = .returned (.bool true) ∧ Below w.heap.size w w' := by
  have HB0 := hide ((below_alloc' (w := w) (.cells (ndL n a c b d).toArray 25)).alloc (by simp) (.cells (ndL m a2 c2 b2 d2).toArray 25))
  have HR0 := hide ((VRow.new w 25 (ndL n a c b d)).alloc (.cells (ndL m a2 c2 b2 d2).toArray 25))
  have HT0 := hide (VRow.newAt (W := w.alloc (.cells (ndL n a c b d).toArray 25)) (T := 25) (n := w.heap.size + 1) (vs := ndL m a2 c2 b2 d2) (by simp))
  have HAT0 := hide (h.after (unhide HB0))
  have HAU0 := hide (h2.after (unhide HB0))
  have KG := hide (greatN_any a c b d n hc _ (unhide HAT0))
  have KG2 := hide fun W h => greatN_any a2 c2 b2 d2 m hc2 W h
  have HC := hide hc
  have HC2 := hide hc2
  have HLi := hide hl
  clear h h2 hc hc2 hl
  go_enter Try.func4, Try.ntmps4
  go_wp2_with (refine load_node (by rfl) (.tmp 2) (by rfl) w.heap.size (by rfl) (ndL n a c b d) (unhide HR0) rfl ?_)
  generalize (w.alloc (.cells _ 25)).alloc (.cells _ 25) = w0 at HB0 HR0 HT0 HAT0 HAU0 KG ⊢
  refine (unhide KG).mono ?_
  rintro e w1 ⟨G, rfl, hb, hG⟩
  have HB1 := hide (below_grow (unhide HB0) (Nat.le_refl _) hb)
  have HR1 := hide ((unhide HR0).after hb)
  have HT1 := hide ((unhide HT0).after hb)
  have HAT1 := hide ((unhide HAT0).after hb)
  have HAU1 := hide ((unhide HAU0).after hb)
  have HG := hide hG
  clear hb hG KG
  cases G with
  | true =>
    go_wp2_with fail
    refine (awakeN_any _).mono ?_
    rintro e w2 ⟨rfl, hb⟩
    have HB2 := hide (below_grow (unhide HB1) (Nat.le_refl _) hb)
    clear hb
    go_wp2_with fail
    go_ret
    exact ⟨rfl, unhide HB2⟩
  | false =>
    have HLN := hide (unhide HG rfl)
    have HOK := hide ((unhide HG rfl).ok (unhide HC))
    go_wp2_with (refine load_node_want (by rfl) (.tmp 3) (by rfl) (w.heap.size + 1) (by rfl) (ndL m a2 c2 b2 d2) (unhide HT1) rfl ?_)
    refine (unhide KG2 _ (unhide HAU1)).mono ?_
    rintro e w2 ⟨G2, rfl, hb, hG⟩
    have HB2 := hide (below_grow (unhide HB1) (Nat.le_refl _) hb)
    have HR2 := hide ((unhide HR1).after hb)
    have HT2 := hide ((unhide HT1).after hb)
    have HAT2 := hide ((unhide HAT1).after hb)
    have HAU2 := hide ((unhide HAU1).after hb)
    have HG2 := hide hG
    clear hb hG KG2
    cases G2 with
    | true =>
      go_wp2_with fail
      refine (awakeN_any _).mono ?_
      rintro e w3 ⟨rfl, hb⟩
      have HB3 := hide (below_grow (unhide HB2) (Nat.le_refl _) hb)
      clear hb
      go_wp2_with fail
      go_ret
      exact ⟨rfl, unhide HB3⟩
    | false =>
      have HOK2 := hide ((unhide HG2 rfl).ok (unhide HC2))
      have HPA : Hid (∀ v ∈ n.vs, v.past.length ≤ 100000) := hide fun v hv => Nat.le_trans ((unhide HLN).2.1.2 (unhide HLi) v hv) (by omega)
      have KS := hide (seen_any a c b d n (unhide HOK) (unhide HPA) w2 (unhide HAT2))
      have HFEW := hide (unhide HOK).few
      go_wp2_with (refine load_node (by rfl) (.tmp 2) (by rfl) w.heap.size (by rfl) (ndL n a c b d) (unhide HR2) rfl ?_)
      refine (unhide KS).mono ?_
      rintro e w3 ⟨a3, c3, b3, d3, rfl, hat, hb⟩
      have HAT33 := hide hat
      have HB3 := hide (below_grow (unhide HB2) (Nat.le_refl _) hb)
      have HR3 := hide ((unhide HR2).after hb)
      have HT3 := hide ((unhide HT2).after hb)
      have HAT3 := hide ((unhide HAT2).after hb)
      have HAU3 := hide ((unhide HAU2).after hb)
      clear hat hb KS
      go_wp2_with (refine store_row (by rfl) 25 (.tmp 5) (.tmp 15) (by rfl) w3.heap.size (ndL (seenN n) a3 c3 b3 d3) (by rfl) (by rfl) 25 zeroN (VRow.newAt rfl) 2 sizeNd rfl rfl (ndL_one _ _ _ _ _) ?_; intro w4 ho4 hr4; have HB34 := hide ((below_alloc' (w := w3) (.cells zeroN.toArray 25)).trans (ho4.below (Nat.le_refl _))); have HR54 := hide hr4; clear ho4 hr4)
      have HB4 := hide (below_grow (unhide HB3) (Nat.le_refl _) (unhide HB34))
      have HR4 := hide ((unhide HR3).after (unhide HB34))
      have HT4 := hide ((unhide HT3).after (unhide HB34))
      have HAT4 := hide ((unhide HAT3).after (unhide HB34))
      have HAU4 := hide ((unhide HAU3).after (unhide HB34))
      have HAT34 := hide ((unhide HAT33).after (unhide HB34))
      have n0 : w4.cell? ⟨w.heap.size, 0, none⟩ = some (.slice a n.vs.length c) := (unhide HR4).cell 0 _ rfl
      have n1 : w4.cell? ⟨w.heap.size, 1, none⟩ = some (.slice b n.ks.length d) := (unhide HR4).cell 1 _ rfl
      have KL := hide fun W (hW : Below w4.heap.size w4 W) => refLive_any (fun g => g < w4.heap.size ∨ W.heap.size ≤ g) a c n.vs (unhide HFEW) W (fun _ h => Or.inr h) ((unhide HAT4).sv.after hW) ((((unhide HAT4).sv.prov (O := fun g => g < w4.heap.size) fun g h => h).after (unhide HAT4).sv hW).weak fun g h => Or.inl h)
      have HLT4 : Hid (w.heap.size < w4.heap.size) := hide (unhide HR4).lt
      go_region_held3 (fun w' => w'.cell? ⟨w.heap.size, 0, none⟩ = some (.slice a n.vs.length c) ∧ w'.cell? ⟨w.heap.size, 1, none⟩ = some (.slice b n.ks.length d) ∧ Below w4.heap.size w4 w')
        (first | exact keepS2 (unhide HLT4) (by assumption) (by assumption) | exact keepA2 (unhide HLT4) (by assumption) | exact keepA2 (unhide HLT4) (keepS2 (unhide HLT4) (by assumption) (by assumption)) | exact keepA2 (unhide HLT4) (keepS2 (unhide HLT4) (drewS2 n0 n1) (by assumption)) | exact keepC2 (unhide HLT4) (keepC2 (unhide HLT4) (by assumption) (Nat.le_refl _)) (Nat.le_refl _) | exact keepC2 (unhide HLT4) (keepC2 (unhide HLT4) (keepS2 (unhide HLT4) (by assumption) (by assumption)) (Nat.le_refl _)) (Nat.le_refl _) | exact drewS2 n0 n1)
        (first
        | (go_at_call 11; refine (unhide KL _ (And.right (And.right (by assumption)))).mono ?_; rintro e w5 ⟨r5, c5, rfl, hc5, hs5, hp5, hb5⟩; (try have hv5 : VRow w5 w4.heap.size 25 zeroN := VRow.after (show VRow (w4.drew.alloc (.cells zeroN.toArray 25)) w4.heap.size 25 zeroN from VRow.new w4.drew 25 zeroN) hb5); (try have q0 := hv5.cell 0 (.slice none 0 0) rfl); (try have q1 := hv5.cell 1 (.slice none 0 0) rfl); (try have f0 := hv5.frozen 0); (try have f1 := hv5.frozen 1)))
      · have hbf : Below w4.heap.size w4 (w5.alloc (.cells #[.slice r5 (Vc.live n.vs).length c5, .slice b n.ks.length d] 25)) := below_grow (below_grow (below_drew (Below.refl _ _)) (Nat.le_refl _) hb5) (Nat.le_refl _) (below_alloc' _)
        have HR6 : Hid (VRow (w5.alloc (.cells #[.slice r5 (Vc.live n.vs).length c5, .slice b n.ks.length d] 25)) w5.heap.size 25 (ndL (seenN n) r5 c5 b d)) := hide (VRow.new w5 25 (ndL (seenN n) r5 c5 b d))
        have hsvf : SV (w5.alloc (.cells #[.slice r5 (Vc.live n.vs).length c5, .slice b n.ks.length d] 25)) r5 (Vc.live n.vs) := hs5.after (below_alloc' _)
        have HATf := hide ((unhide HAT4).after hbf)
        have HAUf := hide ((unhide HAU4).after hbf)
        have HRf := hide ((unhide HR4).after hbf)
        have HTf := hide ((unhide HT4).after hbf)
        have HR5f := hide ((unhide HR54).after hbf)
        have HAT34f := hide ((unhide HAT34).after hbf)
        have HBf := hide (below_grow (unhide HB4) (Nat.le_refl _) hbf)
        have HAT6 : Hid (NdAt _ (seenN n) r5 c5 b d) := hide ⟨hc5, (unhide HATf).kc, hsvf, (unhide HATf).sk⟩
        have x0q : ∀ p : Regrown, _ := fun p => ((unhide HRf).after (below_regrown _ p.d p.os)).cell 0 (.slice a n.vs.length c) rfl
        have x1q : ∀ p : Regrown, _ := fun p => ((unhide HRf).after (below_regrown _ p.d p.os)).cell 1 (.slice b n.ks.length d) rfl
        obtain ⟨D, hD⟩ := bool_of (n = m)
        have HD := hide hD
        have KE := fun W => empty_any a c b d n W
        clear hD hc5 hs5 hp5 hb5 hbf hsvf n0 n1
        rename_i hHeld
        clear hHeld
        generalize w5.alloc (.cells #[.slice r5 (Vc.live n.vs).length c5, .slice b n.ks.length d] 25) = wf at *
        generalize w5.heap.size = B6 at *
        go_wp2_with fail
        by_cases hV : n.vs.length = 0
        · have hDD : (D == D) = true := by simp
          have HKB : Hid (empN n = decide (n.ks.length = 0)) := hide (by unfold empN; rw [decide_eq_true hV, Bool.true_and])
          have hke : (((n.ks.length : Nat) : Int) == 0) = decide (n.ks.length = 0) := by rw [Bool.eq_iff_iff, beq_iff_eq, decide_eq_true_eq]; omega
          have hve : (((n.vs.length : Nat) : Int) == 0) = true := by rw [beq_iff_eq]; omega
          rw [unhide HKB] at KE
          generalize decide (n.ks.length = 0) = KB at KE hke
          have hKK : (KB == KB) = true := by simp
          clear hV
          have KEH := hide KE
          clear KE
          refine wp_region_quiet_below (by kernel_rfl) (by kernel_rfl) ?_
          refine quiet_node (by rfl) (.tmp 5) (by rfl) w3.heap.size (by rfl) (ndL (seenN n) a3 c3 b3 d3) (by rintro w' ⟨p, rfl⟩; exact (unhide HR5f).after (below_regrown _ _ _)) rfl ?_
          refine quiet_node (by rfl) (.tmp 6) (by rfl) B6 (by rfl) (ndL (seenN n) r5 c5 b d) (by rintro w' ⟨p, rfl⟩; exact (unhide HR6).after (below_regrown _ _ _)) rfl ?_
          quiet_step (first | (go_at_call 12; exact Calls.regrown_of (refSameN_any a3 c3 b3 d3 (seenN n) (live_ok (unhide HOK)) r5 c5 b d (seenN n) (live_ok (unhide HOK)) _ ((unhide HAT34f).after (below_regrown _ _ _)) ((unhide HAT6).after (below_regrown _ _ _)) true (by simp))))
          quiet_step (fail)
          refine quiet_node (by rfl) (.tmp 2) (by rfl) w.heap.size (by rfl) (ndL n a c b d) (by rintro w' ⟨p, rfl⟩; exact (unhide HRf).after (below_regrown _ _ _)) rfl ?_
          refine quiet_node (by rfl) (.tmp 3) (by rfl) (w.heap.size + 1) (by rfl) (ndL m a2 c2 b2 d2) (by rintro w' ⟨p, rfl⟩; exact (unhide HTf).after (below_regrown _ _ _)) rfl ?_
          quiet_step (first | (go_at_call 9; exact Calls.regrown_of (sameN_any a c b d n (unhide HOK) a2 c2 b2 d2 m (unhide HOK2) _ ((unhide HATf).after (below_regrown _ _ _)) ((unhide HAUf).after (below_regrown _ _ _)) D (unhide HD))))
          refine quiet_node (by rfl) (.tmp 2) (by rfl) w.heap.size (by rfl) (ndL n a c b d) (by rintro w' ⟨p, rfl⟩; exact (unhide HRf).after (below_regrown _ _ _)) rfl ?_
          refine quiet_node (by rfl) (.tmp 3) (by rfl) (w.heap.size + 1) (by rfl) (ndL m a2 c2 b2 d2) (by rintro w' ⟨p, rfl⟩; exact (unhide HTf).after (below_regrown _ _ _)) rfl ?_
          quiet_step (first | (go_at_call 12; exact Calls.regrown_of (refSameN_any a c b d n (unhide HOK) a2 c2 b2 d2 m (unhide HOK2) _ ((unhide HATf).after (below_regrown _ _ _)) ((unhide HAUf).after (below_regrown _ _ _)) D (unhide HD))))
          iterate 3 (quiet_step (fail))
          refine quiet_node (by rfl) (.tmp 2) (by rfl) w.heap.size (by rfl) (ndL n a c b d) (by rintro w' ⟨p, rfl⟩; exact (unhide HRf).after (below_regrown _ _ _)) rfl ?_
          quiet_step (first | (go_at_call 13; exact Calls.regrown_of (unhide KEH _)))
          repeat (quiet_step (first | (go_at_call 6; exact Calls.regrown_of (awakeN_any _))))
          refine wpQuiet_nil ?_
          rintro _ ⟨⟨dq, osq⟩, rfl⟩
          go_wp2_with fail
          go_ret
          exact ⟨by first | rfl | simp, below_grow (unhide HBf) (Nat.le_refl _) (below_regrown _ _ _)⟩
        · have hDD : (D == D) = true := by simp
          have HKB : Hid (empN n = false) := hide (by unfold empN; rw [decide_eq_false hV, Bool.false_and])
          have hve : (((n.vs.length : Nat) : Int) == 0) = false := by rw [beq_eq_false_iff_ne]; omega
          rw [unhide HKB] at KE
          clear hV
          have KEH := hide KE
          clear KE
          refine wp_region_quiet_below (by kernel_rfl) (by kernel_rfl) ?_
          refine quiet_node (by rfl) (.tmp 5) (by rfl) w3.heap.size (by rfl) (ndL (seenN n) a3 c3 b3 d3) (by rintro w' ⟨p, rfl⟩; exact (unhide HR5f).after (below_regrown _ _ _)) rfl ?_
          refine quiet_node (by rfl) (.tmp 6) (by rfl) B6 (by rfl) (ndL (seenN n) r5 c5 b d) (by rintro w' ⟨p, rfl⟩; exact (unhide HR6).after (below_regrown _ _ _)) rfl ?_
          quiet_step (first | (go_at_call 12; exact Calls.regrown_of (refSameN_any a3 c3 b3 d3 (seenN n) (live_ok (unhide HOK)) r5 c5 b d (seenN n) (live_ok (unhide HOK)) _ ((unhide HAT34f).after (below_regrown _ _ _)) ((unhide HAT6).after (below_regrown _ _ _)) true (by simp))))
          quiet_step (fail)
          refine quiet_node (by rfl) (.tmp 2) (by rfl) w.heap.size (by rfl) (ndL n a c b d) (by rintro w' ⟨p, rfl⟩; exact (unhide HRf).after (below_regrown _ _ _)) rfl ?_
          refine quiet_node (by rfl) (.tmp 3) (by rfl) (w.heap.size + 1) (by rfl) (ndL m a2 c2 b2 d2) (by rintro w' ⟨p, rfl⟩; exact (unhide HTf).after (below_regrown _ _ _)) rfl ?_
          quiet_step (first | (go_at_call 9; exact Calls.regrown_of (sameN_any a c b d n (unhide HOK) a2 c2 b2 d2 m (unhide HOK2) _ ((unhide HATf).after (below_regrown _ _ _)) ((unhide HAUf).after (below_regrown _ _ _)) D (unhide HD))))
          refine quiet_node (by rfl) (.tmp 2) (by rfl) w.heap.size (by rfl) (ndL n a c b d) (by rintro w' ⟨p, rfl⟩; exact (unhide HRf).after (below_regrown _ _ _)) rfl ?_
          refine quiet_node (by rfl) (.tmp 3) (by rfl) (w.heap.size + 1) (by rfl) (ndL m a2 c2 b2 d2) (by rintro w' ⟨p, rfl⟩; exact (unhide HTf).after (below_regrown _ _ _)) rfl ?_
          quiet_step (first | (go_at_call 12; exact Calls.regrown_of (refSameN_any a c b d n (unhide HOK) a2 c2 b2 d2 m (unhide HOK2) _ ((unhide HATf).after (below_regrown _ _ _)) ((unhide HAUf).after (below_regrown _ _ _)) D (unhide HD))))
          iterate 3 (quiet_step (fail))
          refine quiet_node (by rfl) (.tmp 2) (by rfl) w.heap.size (by rfl) (ndL n a c b d) (by rintro w' ⟨p, rfl⟩; exact (unhide HRf).after (below_regrown _ _ _)) rfl ?_
          quiet_step (first | (go_at_call 13; exact Calls.regrown_of (unhide KEH _)))
          repeat (quiet_step (first | (go_at_call 6; exact Calls.regrown_of (awakeN_any _))))
          refine wpQuiet_nil ?_
          rintro _ ⟨⟨dq, osq⟩, rfl⟩
          go_wp2_with fail
          go_ret
          exact ⟨by first | rfl | simp, below_grow (unhide HBf) (Nat.le_refl _) (below_regrown _ _ _)⟩
      · have ho : Only w4.heap.size w5 ((w5.setCell ⟨w4.heap.size, 0, none⟩ (.slice r5 (Vc.live n.vs).length c5)).setCell ⟨w4.heap.size, 1, none⟩ (.slice b n.ks.length d)) := (only_set _ _ _ _).trans (only_set _ _ _ _)
        have hbf : Below w4.heap.size w4 ((w5.setCell ⟨w4.heap.size, 0, none⟩ (.slice r5 (Vc.live n.vs).length c5)).setCell ⟨w4.heap.size, 1, none⟩ (.slice b n.ks.length d)) := (below_grow (Below.alloc (below_drew (Below.refl _ _)) (Nat.le_refl _) _) (by simp) hb5).trans (ho.below (Nat.le_refl _))
        have HR6 : Hid (VRow ((w5.setCell ⟨w4.heap.size, 0, none⟩ (.slice r5 (Vc.live n.vs).length c5)).setCell ⟨w4.heap.size, 1, none⟩ (.slice b n.ks.length d)) w4.heap.size 25 (ndL (seenN n) r5 c5 b d)) := hide ((hv5.set 0 (.slice r5 (Vc.live n.vs).length c5)).set 1 (.slice b n.ks.length d))
        have hsvf : SV ((w5.setCell ⟨w4.heap.size, 0, none⟩ (.slice r5 (Vc.live n.vs).length c5)).setCell ⟨w4.heap.size, 1, none⟩ (.slice b n.ks.length d)) r5 (Vc.live n.vs) := hs5.beside hp5 ho.beside (fun h => by rcases h with h | h; exact Nat.lt_irrefl _ h; have h' : (w4.alloc (.cells #[.slice none 0 0, .slice none 0 0] 25)).heap.size ≤ w4.heap.size := h; rw [World.size_alloc] at h'; exact Nat.lt_irrefl _ h')
        have HATf := hide ((unhide HAT4).after hbf)
        have HAUf := hide ((unhide HAU4).after hbf)
        have HRf := hide ((unhide HR4).after hbf)
        have HTf := hide ((unhide HT4).after hbf)
        have HR5f := hide ((unhide HR54).after hbf)
        have HAT34f := hide ((unhide HAT34).after hbf)
        have HBf := hide (below_grow (unhide HB4) (Nat.le_refl _) hbf)
        have HAT6 : Hid (NdAt _ (seenN n) r5 c5 b d) := hide ⟨hc5, (unhide HATf).kc, hsvf, (unhide HATf).sk⟩
        have x0q : ∀ p : Regrown, _ := fun p => ((unhide HRf).after (below_regrown _ p.d p.os)).cell 0 (.slice a n.vs.length c) rfl
        have x1q : ∀ p : Regrown, _ := fun p => ((unhide HRf).after (below_regrown _ p.d p.os)).cell 1 (.slice b n.ks.length d) rfl
        obtain ⟨D, hD⟩ := bool_of (n = m)
        have HD := hide hD
        have KE := fun W => empty_any a c b d n W
        clear hD hc5 hs5 hp5 hb5 hbf hsvf n0 n1
        clear ho hv5 q0 q1 f0 f1
        rename_i hHeld
        clear hHeld
        generalize ((w5.setCell ⟨w4.heap.size, 0, none⟩ (.slice r5 (Vc.live n.vs).length c5)).setCell ⟨w4.heap.size, 1, none⟩ (.slice b n.ks.length d)) = wf at *
        generalize w4.heap.size = B6 at HR6 ⊢
        go_wp2_with fail
        by_cases hV : n.vs.length = 0
        · have hDD : (D == D) = true := by simp
          have HKB : Hid (empN n = decide (n.ks.length = 0)) := hide (by unfold empN; rw [decide_eq_true hV, Bool.true_and])
          have hke : (((n.ks.length : Nat) : Int) == 0) = decide (n.ks.length = 0) := by rw [Bool.eq_iff_iff, beq_iff_eq, decide_eq_true_eq]; omega
          have hve : (((n.vs.length : Nat) : Int) == 0) = true := by rw [beq_iff_eq]; omega
          rw [unhide HKB] at KE
          generalize decide (n.ks.length = 0) = KB at KE hke
          have hKK : (KB == KB) = true := by simp
          clear hV
          have KEH := hide KE
          clear KE
          refine wp_region_quiet_below (by kernel_rfl) (by kernel_rfl) ?_
          refine quiet_node (by rfl) (.tmp 5) (by rfl) w3.heap.size (by rfl) (ndL (seenN n) a3 c3 b3 d3) (by rintro w' ⟨p, rfl⟩; exact (unhide HR5f).after (below_regrown _ _ _)) rfl ?_
          refine quiet_node (by rfl) (.tmp 6) (by rfl) B6 (by rfl) (ndL (seenN n) r5 c5 b d) (by rintro w' ⟨p, rfl⟩; exact (unhide HR6).after (below_regrown _ _ _)) rfl ?_
          quiet_step (first | (go_at_call 12; exact Calls.regrown_of (refSameN_any a3 c3 b3 d3 (seenN n) (live_ok (unhide HOK)) r5 c5 b d (seenN n) (live_ok (unhide HOK)) _ ((unhide HAT34f).after (below_regrown _ _ _)) ((unhide HAT6).after (below_regrown _ _ _)) true (by simp))))
          quiet_step (fail)
          refine quiet_node (by rfl) (.tmp 2) (by rfl) w.heap.size (by rfl) (ndL n a c b d) (by rintro w' ⟨p, rfl⟩; exact (unhide HRf).after (below_regrown _ _ _)) rfl ?_
          refine quiet_node (by rfl) (.tmp 3) (by rfl) (w.heap.size + 1) (by rfl) (ndL m a2 c2 b2 d2) (by rintro w' ⟨p, rfl⟩; exact (unhide HTf).after (below_regrown _ _ _)) rfl ?_
          quiet_step (first | (go_at_call 9; exact Calls.regrown_of (sameN_any a c b d n (unhide HOK) a2 c2 b2 d2 m (unhide HOK2) _ ((unhide HATf).after (below_regrown _ _ _)) ((unhide HAUf).after (below_regrown _ _ _)) D (unhide HD))))
          refine quiet_node (by rfl) (.tmp 2) (by rfl) w.heap.size (by rfl) (ndL n a c b d) (by rintro w' ⟨p, rfl⟩; exact (unhide HRf).after (below_regrown _ _ _)) rfl ?_
          refine quiet_node (by rfl) (.tmp 3) (by rfl) (w.heap.size + 1) (by rfl) (ndL m a2 c2 b2 d2) (by rintro w' ⟨p, rfl⟩; exact (unhide HTf).after (below_regrown _ _ _)) rfl ?_
          quiet_step (first | (go_at_call 12; exact Calls.regrown_of (refSameN_any a c b d n (unhide HOK) a2 c2 b2 d2 m (unhide HOK2) _ ((unhide HATf).after (below_regrown _ _ _)) ((unhide HAUf).after (below_regrown _ _ _)) D (unhide HD))))
          iterate 3 (quiet_step (fail))
          refine quiet_node (by rfl) (.tmp 2) (by rfl) w.heap.size (by rfl) (ndL n a c b d) (by rintro w' ⟨p, rfl⟩; exact (unhide HRf).after (below_regrown _ _ _)) rfl ?_
          quiet_step (first | (go_at_call 13; exact Calls.regrown_of (unhide KEH _)))
          repeat (quiet_step (first | (go_at_call 6; exact Calls.regrown_of (awakeN_any _))))
          refine wpQuiet_nil ?_
          rintro _ ⟨⟨dq, osq⟩, rfl⟩
          go_wp2_with fail
          go_ret
          exact ⟨by first | rfl | simp, below_grow (unhide HBf) (Nat.le_refl _) (below_regrown _ _ _)⟩
        · have hDD : (D == D) = true := by simp
          have HKB : Hid (empN n = false) := hide (by unfold empN; rw [decide_eq_false hV, Bool.false_and])
          have hve : (((n.vs.length : Nat) : Int) == 0) = false := by rw [beq_eq_false_iff_ne]; omega
          rw [unhide HKB] at KE
          clear hV
          have KEH := hide KE
          clear KE
          refine wp_region_quiet_below (by kernel_rfl) (by kernel_rfl) ?_
          refine quiet_node (by rfl) (.tmp 5) (by rfl) w3.heap.size (by rfl) (ndL (seenN n) a3 c3 b3 d3) (by rintro w' ⟨p, rfl⟩; exact (unhide HR5f).after (below_regrown _ _ _)) rfl ?_
          refine quiet_node (by rfl) (.tmp 6) (by rfl) B6 (by rfl) (ndL (seenN n) r5 c5 b d) (by rintro w' ⟨p, rfl⟩; exact (unhide HR6).after (below_regrown _ _ _)) rfl ?_
          quiet_step (first | (go_at_call 12; exact Calls.regrown_of (refSameN_any a3 c3 b3 d3 (seenN n) (live_ok (unhide HOK)) r5 c5 b d (seenN n) (live_ok (unhide HOK)) _ ((unhide HAT34f).after (below_regrown _ _ _)) ((unhide HAT6).after (below_regrown _ _ _)) true (by simp))))
          quiet_step (fail)
          refine quiet_node (by rfl) (.tmp 2) (by rfl) w.heap.size (by rfl) (ndL n a c b d) (by rintro w' ⟨p, rfl⟩; exact (unhide HRf).after (below_regrown _ _ _)) rfl ?_
          refine quiet_node (by rfl) (.tmp 3) (by rfl) (w.heap.size + 1) (by rfl) (ndL m a2 c2 b2 d2) (by rintro w' ⟨p, rfl⟩; exact (unhide HTf).after (below_regrown _ _ _)) rfl ?_
          quiet_step (first | (go_at_call 9; exact Calls.regrown_of (sameN_any a c b d n (unhide HOK) a2 c2 b2 d2 m (unhide HOK2) _ ((unhide HATf).after (below_regrown _ _ _)) ((unhide HAUf).after (below_regrown _ _ _)) D (unhide HD))))
          refine quiet_node (by rfl) (.tmp 2) (by rfl) w.heap.size (by rfl) (ndL n a c b d) (by rintro w' ⟨p, rfl⟩; exact (unhide HRf).after (below_regrown _ _ _)) rfl ?_
          refine quiet_node (by rfl) (.tmp 3) (by rfl) (w.heap.size + 1) (by rfl) (ndL m a2 c2 b2 d2) (by rintro w' ⟨p, rfl⟩; exact (unhide HTf).after (below_regrown _ _ _)) rfl ?_
          quiet_step (first | (go_at_call 12; exact Calls.regrown_of (refSameN_any a c b d n (unhide HOK) a2 c2 b2 d2 m (unhide HOK2) _ ((unhide HATf).after (below_regrown _ _ _)) ((unhide HAUf).after (below_regrown _ _ _)) D (unhide HD))))
          iterate 3 (quiet_step (fail))
          refine quiet_node (by rfl) (.tmp 2) (by rfl) w.heap.size (by rfl) (ndL n a c b d) (by rintro w' ⟨p, rfl⟩; exact (unhide HRf).after (below_regrown _ _ _)) rfl ?_
          quiet_step (first | (go_at_call 13; exact Calls.regrown_of (unhide KEH _)))
          repeat (quiet_step (first | (go_at_call 6; exact Calls.regrown_of (awakeN_any _))))
          refine wpQuiet_nil ?_
          rintro _ ⟨⟨dq, osq⟩, rfl⟩
          go_wp2_with fail
          go_ret
          exact ⟨by first | rfl | simp, below_grow (unhide HBf) (Nat.le_refl _) (below_regrown _ _ _)⟩
end Go.Proofs.Ythchcjjpplcfnaa
