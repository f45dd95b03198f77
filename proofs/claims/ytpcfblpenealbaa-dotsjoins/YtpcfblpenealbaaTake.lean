/-
  What takeUp answers: the set of the counts and of the dots of two rising lists.
-/
import Derived.Test.YtpcfblpenealbaaTake0
namespace Go.Proofs.Ytpcfblpenealbaa
open Go.RowKit

theorem cell_two_new1 (w : World) (x y : Value) (o : Obj) : ∀ j u, [x, y][j]? = some u → ((w.alloc o).alloc (.cells #[x, y] 26)).cell? ((⟨w.heap.size + 1, 0, none⟩ : Addr).add j) = some u := by
  have h := cell_two_new (w.alloc o) x y 26
  rw [World.size_alloc] at h
  exact h

def JF (T : Vc.D → Prop) (n N : Nat) (w : World) (vs0 : List Value) (a' : Act) (w' : World) : Prop :=
  ∃ (u : Nat → Value) (v1 v2 v7 : Value), a' = { tmps := #[.agg vs0.toArray, v1, v2, .pointer (some ⟨w.heap.size, 0, none⟩), undef, undef, .pointer (some ⟨w.heap.size + 1, 0, none⟩), v7, .pointer (some ⟨w.heap.size + 1 + 1, 0, none⟩), u 9, u 10, u 11, u 12, u 13, u 14, u 15, u 16, u 17, u 18, u 19, u 20, u 21, u 22, u 23, u 24, u 25, u 26, u 27, u 28, u 29, u 30, u 31, u 32, u 33, u 34, u 35, u 36, u 37, u 38, u 39, u 40, u 41, u 42, u 43, u 44, u 45, u 46, u 47, u 48, u 49, u 50, u 51, u 52, u 53, u 54, u 55, u 56, u 57, u 58, u 59, u 60, u 61, u 62, u 63, u 64, u 65, u 66, u 67, u 68, u 69, u 70, u 71, u 72, u 73, u 74, u 75, u 76, u 77], defers := [] } ∧ TakeInv T n N w w' v1 v2 v7
theorem JF.mk {T : Vc.D → Prop} {n N : Nat} {w : World} {vs0 : List Value} {w' : World} {v1 v2 v7 x9 x10 x11 x12 x13 x14 x15 x16 x17 x18 x19 x20 x21 x22 x23 x24 x25 x26 x27 x28 x29 x30 x31 x32 x33 x34 x35 x36 x37 x38 x39 x40 x41 x42 x43 x44 x45 x46 x47 x48 x49 x50 x51 x52 x53 x54 x55 x56 x57 x58 x59 x60 x61 x62 x63 x64 x65 x66 x67 x68 x69 x70 x71 x72 x73 x74 x75 x76 x77 : Value} (h : TakeInv T n N w w' v1 v2 v7) : JF T n N w vs0 { tmps := #[.agg vs0.toArray, v1, v2, .pointer (some ⟨w.heap.size, 0, none⟩), undef, undef, .pointer (some ⟨w.heap.size + 1, 0, none⟩), v7, .pointer (some ⟨w.heap.size + 1 + 1, 0, none⟩), x9, x10, x11, x12, x13, x14, x15, x16, x17, x18, x19, x20, x21, x22, x23, x24, x25, x26, x27, x28, x29, x30, x31, x32, x33, x34, x35, x36, x37, x38, x39, x40, x41, x42, x43, x44, x45, x46, x47, x48, x49, x50, x51, x52, x53, x54, x55, x56, x57, x58, x59, x60, x61, x62, x63, x64, x65, x66, x67, x68, x69, x70, x71, x72, x73, x74, x75, x76, x77], defers := [] } w' :=
  ⟨fun i => (#[x9, x10, x11, x12, x13, x14, x15, x16, x17, x18, x19, x20, x21, x22, x23, x24, x25, x26, x27, x28, x29, x30, x31, x32, x33, x34, x35, x36, x37, x38, x39, x40, x41, x42, x43, x44, x45, x46, x47, x48, x49, x50, x51, x52, x53, x54, x55, x56, x57, x58, x59, x60, x61, x62, x63, x64, x65, x66, x67, x68, x69, x70, x71, x72, x73, x74, x75, x76, x77] : Array Value).getD (i - 9) undef, v1, v2, v7, rfl, h⟩
theorem JF.elim {T : Vc.D → Prop} {n N : Nat} {w : World} {vs0 : List Value} {a' : Act} {w' : World} {motive : Act → World → Prop} (h : JF T n N w vs0 a' w')
    (k : ∀ (w' : World) (u : Nat → Value) (v7 : Value) (f : Int → Int) (X a b : List Vc.D) (lp lc : Int) (ra : Option Addr) (ca : Nat) (rb : Option Addr) (cb : Nat), a.length ≤ ca → b.length ≤ cb → SlB w.heap.size w' ra a → SlB w.heap.size w' rb b →
      Vc.TU T f X a b (lp, lc) → VRow w' w.heap.size 54 (cntF f n) → VRow w' (w.heap.size + 1) 29 [.slice none 0 0, .slice none 0 0] → VRow w' (w.heap.size + 1 + 1) 26 [.int .i64 lp, .int .i64 lc] →
      w'.ownsRow (w.heap.size + 1 + 1 + 1) 26 2 v7 X.length (flat X) → X.length + a.length + b.length ≤ N → Below w.heap.size w w' → w.heap.size + 1 + 1 + 1 ≤ w'.heap.size → motive { tmps := #[.agg vs0.toArray, .slice ra a.length ca, .slice rb b.length cb, .pointer (some ⟨w.heap.size, 0, none⟩), undef, undef, .pointer (some ⟨w.heap.size + 1, 0, none⟩), v7, .pointer (some ⟨w.heap.size + 1 + 1, 0, none⟩), u 9, u 10, u 11, u 12, u 13, u 14, u 15, u 16, u 17, u 18, u 19, u 20, u 21, u 22, u 23, u 24, u 25, u 26, u 27, u 28, u 29, u 30, u 31, u 32, u 33, u 34, u 35, u 36, u 37, u 38, u 39, u 40, u 41, u 42, u 43, u 44, u 45, u 46, u 47, u 48, u 49, u 50, u 51, u 52, u 53, u 54, u 55, u 56, u 57, u 58, u 59, u 60, u 61, u 62, u 63, u 64, u 65, u 66, u 67, u 68, u 69, u 70, u 71, u 72, u 73, u 74, u 75, u 76, u 77], defers := [] } w') : motive a' w' := by
  obtain ⟨u, v1, v2, v7, rfl, f, X, a, b, ⟨lp, lc⟩, ra, ca, rb, cb, rfl, rfl, hca, hcb, hsa, hsb, htu, h54, h29, h26, hown, hN, hbw, hsz⟩ := h
  exact k w' u v7 f X a b lp lc ra ca rb cb hca hcb hsa hsb htu h54 h29 h26 hown hN hbw hsz

set_option maxRecDepth 100000 in
set_option maxHeartbeats 4000000 in
theorem take_any (T : Vc.D → Prop) (f0 : Int → Int) (n N : Nat) (hn : n = 64) (ra rb : Option Addr) (ca cb : Nat) (a b : List Vc.D) (hca : a.length ≤ ca) (hcb : b.length ≤ cb) (htu : Vc.TU T f0 [] a b (0, 0)) (hN : a.length + b.length ≤ N) (hN2 : N ≤ 100000) (w : World) (sa : Sl w ra a) (sb : Sl w rb b) :
    Calls Try.prog 43 #[.agg (cntF f0 n).toArray, .slice ra a.length ca, .slice rb b.length cb] w (MadeSet w T N) := by
  obtain ⟨i0, hi, hz0, hz1, hz2⟩ := info_parts info26
  have HN := hide hn
  have HTU0 := hide htu
  have SA := hide sa.b
  have SB := hide sb.b
  obtain ⟨vs0, hvs⟩ : ∃ vs0, cntF f0 n = vs0 := ⟨_, rfl⟩
  have HVS := hide hvs
  rw [hvs]
  clear hvs hn htu sa sb
  go_enter Try.func43, Try.ntmps43
  go_wp2_with fail
  refine wp_scope_jumps2 0 (JF T n N w vs0) (fun a' _ => lenOf (a'.tmps.getD 1 undef) + lenOf (a'.tmps.getD 2 undef)) rfl ?pass ?first
  case first =>
    intro H
    skip
    go_wp2_with fail
    go_step3
    rename_i hK
    refine hK _ _ (H _ _ (JF.mk ?_))
    refine ⟨f0, [], a, b, (0, 0), ra, ca, rb, cb, rfl, rfl, hca, hcb, ?_, ?_, unhide HTU0, ?_, ?_, VRow.newAt (by simp), World.ownsRow_nil _ _ _ _, by simpa using hN, ?_, by simp⟩
    · exact (unhide SA).below ((((Below.refl _ _).alloc (Nat.le_refl _) _).alloc (by simp) _).alloc (by simp; omega) _)
    · exact (unhide SB).below ((((Below.refl _ _).alloc (Nat.le_refl _) _).alloc (by simp) _).alloc (by simp; omega) _)
    · rw [unhide HVS]
      exact ((VRow.new w 54 vs0).alloc _).alloc _
    · exact (VRow.newAt (by simp)).alloc _
    · exact (((Below.refl _ _).alloc (Nat.le_refl _) _).alloc (by simp) _).alloc (by simp; omega) _
  case pass =>
    clear hca hcb hN HTU0 SA SB HVS
    clear ra rb ca cb a b
    intro a' w' hJ
    refine JF.elim (motive := fun a' w' => Code.wp Try.prog _ (Exit.jump 0 (fun a'' w'' => JF T n N w vs0 a'' w'' ∧ lenOf (a''.tmps.getD 1 undef) + lenOf (a''.tmps.getD 2 undef) < lenOf (a'.tmps.getD 1 undef) + lenOf (a'.tmps.getD 2 undef)) _) a' w') hJ ?_
    clear hJ w' a'
    intro w' u v7 f X a b lp lc ra ca rb cb hca hcb hsa hsb htu h54 h29 h26 hown hN hbw hsz
    have HTU := hide htu
    have H54 := hide h54
    have H29 := hide h29
    have H26 : Hid (VRow w' (w.heap.size + 1 + 1) 26 [.int .i64 lp, .int .i64 lc]) := hide h26
    have HO5 := hide hown
    have HW5 := hide hbw
    have HSA := hide hsa
    have HSB := hide hsb
    clear htu h54 h29 h26 hown hbw hsa hsb
    cases a with
    | nil =>
      cases b with
      | nil =>
        obtain ⟨rX, cX, rfl, hcX, hslX⟩ := own_sl rfl (unhide HO5)
        have HSX := hide hslX
        have HCX := hide hcX
        have KV := hide fun W => vector_any f n (unhide HN) W
        have HD := hide ((unhide HTU).done n (unhide HN))
        have HL : Hid ((cntF f n).length = 64) := hide (by rw [cntF_len]; exact unhide HN)
        have HNX : Hid (X.length ≤ N) := hide (by simpa using hN)
        obtain ⟨B, hB⟩ : ∃ B, Vc.vecOf f n = B := ⟨_, rfl⟩
        rw [hB] at KV HD
        generalize cntF f n = vs1 at H54 KV HL
        clear hslX hcX HO5 HTU hB
        go_wp2_with (refine load_row (by rfl) 54 _ (by rfl) w.heap.size (by rfl) 54 vs1 (unhide H54) 64 64 3 Try.underlying54 size54 (unhide HL) ?_)
        refine (unhide KV _).mono ?_
        rintro e w2 ⟨r, cap, rfl, hcap, hsl, hb2⟩
        have HB2 := hide hb2
        have HS2 := hide hsl
        have HC2 := hide hcap
        have HR2 := hide ((unhide H29).after hb2)
        have HSX2 := hide ((unhide HSX).after hb2)
        clear hb2 hsl hcap
        go_wp2_with (refine store_row (by rfl) 29 _ _ (by rfl) (w.heap.size + 1) [.slice r B.length cap, .slice rX X.length cX] (by rfl) (by rfl) 29 [.slice none 0 0, .slice none 0 0] (unhide HR2) 2 size29 rfl rfl (two_one _ _ _ _ _ _) ?_; intro w3 ho3 hr3; have HO3 := hide ho3; have HR3 := hide hr3; clear ho3 hr3)
        simp only [Exit.jump]
        refine bodyPost_ret (v := .agg #[.slice r B.length cap, .slice rX X.length cX]) ?_ rfl ?_
        · exact results_cell_row rfl _ _ (w.heap.size + 1) 29 _ (0, 0) _ rfl (unhide HR3) Try.underlying29 rfl (by rw [size29]; rfl)
        · exact ⟨_, B, X, rfl, ⟨r, cap, rX, cX, rfl, unhide HC2, unhide HCX, (unhide HS2).only (unhide HR2) (two_slices _ _ _ _ _ _) (unhide HO3), (unhide HSX2).only (unhide HR2) (two_slices _ _ _ _ _ _) (unhide HO3)⟩, (unhide HD).1, (unhide HD).2, unhide HNX, ((unhide HW5).trans ((unhide HB2).mono (unhide HW5).size)).trans ((unhide HO3).below (by omega))⟩
      | cons d a1 =>
        obtain ⟨p, c⟩ := d
        have HTU := hide (unhide HTU).swap
        have HLE : Hid (∀ x ∈ ([] : List Vc.D), Vc.Le (p, c) x) := hide (fun x hx => by cases hx)
        obtain ⟨g, o, rfl, _⟩ := unhide HSB (by simp)
        have HA := HSB
        have HB := HSA
        have hsw := hca
        clear hca HSA HSB
        have hca := hcb
        clear hcb
        have hcb := hsw
        clear hsw
        rw [List.length_cons] at hca ⊢
        go_wp2_with fail
        go_quiet (fail)
        have G54 := hide ((unhide H54).drewN nq)
        have G29 := hide ((unhide H29).drewN nq)
        have G26 := hide ((unhide H26).drewN nq)
        have GO5 : Hid ((w'.drewN nq).ownsRow (w.heap.size + 1 + 1 + 1) 26 2 v7 X.length (flat X)) := HO5
        have GW5 := hide (below_drewN (unhide HW5) nq)
        have GA5 : Hid (SlB w.heap.size (w'.drewN nq) (some ⟨g, o, none⟩) ((p, c) :: a1)) := HA
        have GB5 : Hid (SlB w.heap.size (w'.drewN nq) ra []) := HB
        have hs5 : w.heap.size + 1 + 1 + 1 ≤ (w'.drewN nq).heap.size := hsz
        clear H54 H29 H26 HO5 HW5 HA HB hsz
        have H54 := G54
        have H29 := G29
        have H26 := G26
        have HO5 := GO5
        have HW5 := GW5
        have HA5 := GA5
        have HB5 := GB5
        clear G54 G29 G26 GO5 GW5 GA5 GB5
        generalize w'.drewN nq = w5 at H54 H29 H26 HO5 HW5 HA5 HB5 hs5 ⊢
        have hok := (unhide HTU).aok (p, c) (List.mem_cons_self ..)
        obtain ⟨m, rfl⟩ : ∃ m : Nat, p = (m : Int) := ⟨p.toNat, by unfold Vc.Ok at hok; dsimp only at hok; omega⟩
        have hm : m < 64 := by unfold Vc.Ok at hok; dsimp only at hok; omega
        have hc1 : 1 ≤ c := by unfold Vc.Ok at hok; dsimp only at hok; omega
        have hc2 : c ≤ 1048576 := by unfold Vc.Ok at hok; dsimp only at hok; omega
        obtain ⟨F, hF⟩ : ∃ F, f (m : Int) = F := ⟨_, rfl⟩
        have hF0 : 0 ≤ F := by rw [← hF]; exact ((unhide HTU).f0 _).1
        have hF1 : F ≤ 1048576 := by rw [← hF]; exact ((unhide HTU).f0 _).2
        have HF := hide hF
        obtain ⟨A1, hsl, hA1⟩ := slice1 g o a1.length cb hca
        have HT := hide ((unhide HA5).cut hA1)
        have d0 : w5.cell? ⟨g, o, none⟩ = some (.int .i64 m) := by obtain ⟨_, _, e, _, hcell⟩ := unhide HA5 (by simp); cases e; exact (hcell 0 _ rfl).1
        have d1 : w5.cell? ⟨g, o + 1, none⟩ = some (.int .i64 c) := by obtain ⟨_, _, e, _, hcell⟩ := unhide HA5 (by simp); cases e; exact (hcell 0 _ rfl).2
        have R54 := hide ((unhide H54).alloc (.cells #[.int .i64 m, .int .i64 c] 26))
        have R29 := hide ((unhide H29).alloc (.cells #[.int .i64 m, .int .i64 c] 26))
        have R26 := hide ((unhide H26).alloc (.cells #[.int .i64 m, .int .i64 c] 26))
        have RD := hide (VRow.new w5 26 [.int .i64 m, .int .i64 c])
        have RO := hide ((unhide HO5).alloc (.cells #[.int .i64 m, .int .i64 c] 26))
        have HLT := hide (unhide HO5).lt
        have o0 := (unhide R54).cell m _ (cntF_get _ n m (by have := unhide HN; omega))
        have o1 := (unhide R54).frozen m
        have l0 := (unhide R26).cell 0 _ rfl
        have l1 := (unhide R26).cell 1 _ rfl
        have n0 := new0 w5 (.int .i64 m) (.int .i64 c) 26
        have n1 := new1 w5 (.int .i64 m) (.int .i64 c) 26
        have HWD := hide ((unhide HW5).alloc (unhide HW5).size (.cells #[.int .i64 m, .int .i64 c] 26))
        rw [hF] at o0
        clear hA1 hok HA5 H54 H29 H26 HO5 hF
        by_cases hb1 : c = F + 1
        · subst hb1
          have HTU2 := hide ((unhide HTU).bump (unhide HLE) (show F + 1 = f (m : Int) + 1 by rw [unhide HF]))
          have hw1 : IntKind.i64.wrap (F + 1) = F + 1 := wrap_small (by omega) (by omega)
          go_wp2_with fail
          have S_54 := hide ((unhide R54).set m (.int .i64 (F + 1)))
          rw [cntF_set] at S_54
          have S_29 := hide ((unhide R29).setNe (B := w.heap.size) (by omega) m (.int .i64 (F + 1)))
          have S_26 := hide ((unhide R26).setNe (B := w.heap.size) (by omega) m (.int .i64 (F + 1)))
          have S_D := hide ((unhide RD).setNe (B := w.heap.size) (by omega) m (.int .i64 (F + 1)))
          have S_O := hide (own_set (unhide RO) (B := w.heap.size) (by omega) m (.int .i64 (F + 1)))
          have S_W := hide (below_set (unhide HWD) (Nat.le_refl _) m (.int .i64 (F + 1)))
          have S_5 := hide (below_set ((Below.refl w.heap.size w5).alloc (by omega) (.cells #[.int .i64 m, .int .i64 (F + 1)] 26)) (Nat.le_refl _) m (.int .i64 (F + 1)))
          generalize (w5.alloc (.cells #[.int .i64 m, .int .i64 (F + 1)] 26)).setCell ⟨w.heap.size, m, none⟩ (.int .i64 (F + 1)) = w6 at S_54 S_29 S_26 S_D S_O S_W S_5 ⊢
          have e0 := (unhide S_D).cell 0 _ rfl
          have e1 := (unhide S_D).cell 1 _ rfl
          have k0 := (unhide S_26).cell 0 _ rfl
          have k1 := (unhide S_26).cell 1 _ rfl
          have k2 := (unhide S_26).frozen 0
          have k3 := (unhide S_26).frozen 1
          clear d0 d1 n0 n1 l0 l1 o0 o1
          go_region
          go_wp2_with fail
          go_step3
          refine ⟨rfl, ?_, ?_⟩
          · refine JF.mk ?_
            have hb := below_set (below_set (below_drew (Below.refl w.heap.size w6)) (show w.heap.size ≤ w.heap.size + 1 + 1 by omega) 0 (.int .i64 m)) (show w.heap.size ≤ w.heap.size + 1 + 1 by omega) 1 (.int .i64 (F + 1))
            exact ⟨Vc.upd f (m : Int) (F + 1), X, a1, [], ((m : Int), F + 1), A1, cb - 1, ra, ca, rfl, rfl, by omega, by omega, ((unhide HT).below (unhide S_5)).below hb, ((unhide HB5).below (unhide S_5)).below hb, unhide HTU2,
              ((unhide S_54).setNe (by omega) 0 _).setNe (by omega) 1 _, ((unhide S_29).setNe (by omega) 0 _).setNe (by omega) 1 _, ((unhide S_26).set 0 _).set 1 _, own_set (own_set (unhide S_O) (by omega) 0 _) (by omega) 1 _, by simp at hN ⊢; omega, (unhide S_W).trans hb, by have := (unhide S_5).size; simp; omega⟩
          · first | (simp [lenOf]; done) | (simp [lenOf]; omega)
        · have hb2 : (c == F + 1) = false := beq_eq_false_iff_ne.2 hb1
          by_cases hb3 : c < F + 1
          · have HTU2 := hide ((unhide HTU).drop (unhide HLE) (.inl (show c < f (m : Int) + 1 by rw [unhide HF]; exact hb3)))
            have hb4 : decide (F + 1 < c) = false := decide_eq_false (by omega)
            go_wp2_with fail
            have S_54 := R54
            have S_29 := R29
            have S_26 := R26
            have S_D := RD
            have S_O := RO
            have S_W := HWD
            have S_5 := hide ((Below.refl w.heap.size w5).alloc (by omega) (.cells #[.int .i64 m, .int .i64 c] 26))
            generalize w5.alloc (.cells #[.int .i64 m, .int .i64 c] 26) = w6 at S_54 S_29 S_26 S_D S_O S_W S_5 ⊢
            clear R54 R29 R26 RD RO HWD
            have e0 := (unhide S_D).cell 0 _ rfl
            have e1 := (unhide S_D).cell 1 _ rfl
            have k0 := (unhide S_26).cell 0 _ rfl
            have k1 := (unhide S_26).cell 1 _ rfl
            have k2 := (unhide S_26).frozen 0
            have k3 := (unhide S_26).frozen 1
            clear d0 d1 n0 n1 l0 l1 o0 o1
            go_region
            go_wp2_with fail
            go_step3
            refine ⟨rfl, ?_, ?_⟩
            · refine JF.mk ?_
              have hb := below_set (below_set (below_drew (Below.refl w.heap.size w6)) (show w.heap.size ≤ w.heap.size + 1 + 1 by omega) 0 (.int .i64 m)) (show w.heap.size ≤ w.heap.size + 1 + 1 by omega) 1 (.int .i64 c)
              exact ⟨f, X, a1, [], ((m : Int), c), A1, cb - 1, ra, ca, rfl, rfl, by omega, by omega, ((unhide HT).below (unhide S_5)).below hb, ((unhide HB5).below (unhide S_5)).below hb, unhide HTU2,
                ((unhide S_54).setNe (by omega) 0 _).setNe (by omega) 1 _, ((unhide S_29).setNe (by omega) 0 _).setNe (by omega) 1 _, ((unhide S_26).set 0 _).set 1 _, own_set (own_set (unhide S_O) (by omega) 0 _) (by omega) 1 _, by simp at hN ⊢; omega, (unhide S_W).trans hb, by have := (unhide S_5).size; simp; omega⟩
            · first | (simp [lenOf]; done) | (simp [lenOf]; omega)
          · have hb4 : decide (F + 1 < c) = true := decide_eq_true (by omega)
            have hgt : F + 1 < c := by omega
            by_cases hl : (m : Int) = lp ∧ c = lc
            · obtain ⟨rfl, rfl⟩ := hl
              have HTU2 := hide ((unhide HTU).drop (unhide HLE) (.inr ⟨show f (m : Int) + 1 < c by rw [unhide HF]; exact hgt, rfl⟩))
              go_wp2_with fail
              have S_54 := R54
              have S_29 := R29
              have S_26 := R26
              have S_D := RD
              have S_O := RO
              have S_W := HWD
              have S_5 := hide ((Below.refl w.heap.size w5).alloc (by omega) (.cells #[.int .i64 m, .int .i64 c] 26))
              generalize w5.alloc (.cells #[.int .i64 m, .int .i64 c] 26) = w6 at S_54 S_29 S_26 S_D S_O S_W S_5 ⊢
              clear R54 R29 R26 RD RO HWD
              have e0 := (unhide S_D).cell 0 _ rfl
              have e1 := (unhide S_D).cell 1 _ rfl
              have k0 := (unhide S_26).cell 0 _ rfl
              have k1 := (unhide S_26).cell 1 _ rfl
              have k2 := (unhide S_26).frozen 0
              have k3 := (unhide S_26).frozen 1
              clear d0 d1 n0 n1 l0 l1 o0 o1
              go_region
              go_wp2_with fail
              go_step3
              refine ⟨rfl, ?_, ?_⟩
              · refine JF.mk ?_
                have hb := below_set (below_set (below_drew (Below.refl w.heap.size w6)) (show w.heap.size ≤ w.heap.size + 1 + 1 by omega) 0 (.int .i64 m)) (show w.heap.size ≤ w.heap.size + 1 + 1 by omega) 1 (.int .i64 c)
                exact ⟨f, X, a1, [], ((m : Int), c), A1, cb - 1, ra, ca, rfl, rfl, by omega, by omega, ((unhide HT).below (unhide S_5)).below hb, ((unhide HB5).below (unhide S_5)).below hb, unhide HTU2,
                  ((unhide S_54).setNe (by omega) 0 _).setNe (by omega) 1 _, ((unhide S_29).setNe (by omega) 0 _).setNe (by omega) 1 _, ((unhide S_26).set 0 _).set 1 _, own_set (own_set (unhide S_O) (by omega) 0 _) (by omega) 1 _, by simp at hN ⊢; omega, (unhide S_W).trans hb, by have := (unhide S_5).size; simp; omega⟩
              · first | (simp [lenOf]; done) | (simp [lenOf]; omega)
            · by_cases hlp : (m : Int) = lp
              · subst hlp
                have hlc : c ≠ lc := fun e => hl ⟨rfl, e⟩
                have HTU2 := hide ((unhide HTU).push (unhide HLE) (show f (m : Int) + 1 < c by rw [unhide HF]; exact hgt) (fun e => hl ⟨congrArg Prod.fst e, congrArg Prod.snd e⟩))
                go_wp2_with (at_builtin; refine wpList_append_own _ rfl _ _ 22 rfl (w.heap.size + 1 + 1 + 1) 26 i0 _ 2 16 Try.underlying22 hi hz0 hz1 hz2 rfl (by decide) _ _ _ rfl ((unhide RO).alloc _) ⟨w5.heap.size + 1, 0, none⟩ 1 1 [.int .i64 m, .int .i64 c] rfl rfl (cell_two_new1 _ _ _ _) (by simp [Value.oneCell']) (by unfold maxLen; omega) (by omega) (by simp; omega) ?_; intro v' w6 hown' hgrow _; have HGR := hide hgrow; have HO2 := hide hown'; clear hgrow hown')
                have hnb : ∀ k, (k < w.heap.size + 1 + 1 + 1 ∨ k = w5.heap.size) → some k ≠ v7.ownBlock := fun k hk e => by have := unhide HLT k e.symm; omega
                have S_54 := hide (((unhide R54).alloc _).grown (unhide HGR) (hnb _ (by omega)))
                have S_29 := hide (((unhide R29).alloc _).grown (unhide HGR) (hnb _ (by omega)))
                have S_26 := hide (((unhide R26).alloc _).grown (unhide HGR) (hnb _ (by omega)))
                have S_D := hide (((unhide RD).alloc _).grown (unhide HGR) (hnb _ (by omega)))
                have HB6 := hide (grown_below ((unhide RO).alloc _) (unhide HGR) (by simp; omega))
                have S_5 := hide ((((Below.refl w.heap.size w5).alloc (by omega) (.cells #[.int .i64 m, .int .i64 c] 26)).alloc (by simp; omega) (.cells #[.int .i64 m, .int .i64 c] 26)).trans ((unhide HB6).mono (by omega)))
                have S_W := hide ((unhide HW5).trans (unhide S_5))
                have S_O : Hid (w6.ownsRow (w.heap.size + 1 + 1 + 1) 26 2 v' (X ++ [((m : Int), c)]).length (flat (X ++ [((m : Int), c)]))) := hide (by rw [List.length_append, flat_append]; exact unhide HO2)
                clear hnb HGR HB6 HO2 hl
                have e0 := (unhide S_D).cell 0 _ rfl
                have e1 := (unhide S_D).cell 1 _ rfl
                have k0 := (unhide S_26).cell 0 _ rfl
                have k1 := (unhide S_26).cell 1 _ rfl
                have k2 := (unhide S_26).frozen 0
                have k3 := (unhide S_26).frozen 1
                clear d0 d1 n0 n1 l0 l1 o0 o1
                go_region
                go_wp2_with fail
                go_step3
                refine ⟨rfl, ?_, ?_⟩
                · refine JF.mk ?_
                  have hb := below_set (below_set (below_drew (Below.refl w.heap.size w6)) (show w.heap.size ≤ w.heap.size + 1 + 1 by omega) 0 (.int .i64 m)) (show w.heap.size ≤ w.heap.size + 1 + 1 by omega) 1 (.int .i64 c)
                  exact ⟨f, X ++ [((m : Int), c)], a1, [], ((m : Int), c), A1, cb - 1, ra, ca, rfl, rfl, by omega, by omega, ((unhide HT).below (unhide S_5)).below hb, ((unhide HB5).below (unhide S_5)).below hb, unhide HTU2,
                    ((unhide S_54).setNe (by omega) 0 _).setNe (by omega) 1 _, ((unhide S_29).setNe (by omega) 0 _).setNe (by omega) 1 _, ((unhide S_26).set 0 _).set 1 _, own_set (own_set (unhide S_O) (by omega) 0 _) (by omega) 1 _, by simp at hN ⊢; omega, (unhide S_W).trans hb, by have := (unhide S_5).size; simp; omega⟩
                · first | (simp [lenOf]; done) | (simp [lenOf]; omega)
              · have HTU2 := hide ((unhide HTU).push (unhide HLE) (show f (m : Int) + 1 < c by rw [unhide HF]; exact hgt) (fun e => hl ⟨congrArg Prod.fst e, congrArg Prod.snd e⟩))
                go_wp2_with (at_builtin; refine wpList_append_own _ rfl _ _ 22 rfl (w.heap.size + 1 + 1 + 1) 26 i0 _ 2 16 Try.underlying22 hi hz0 hz1 hz2 rfl (by decide) _ _ _ rfl ((unhide RO).alloc _) ⟨w5.heap.size + 1, 0, none⟩ 1 1 [.int .i64 m, .int .i64 c] rfl rfl (cell_two_new1 _ _ _ _) (by simp [Value.oneCell']) (by unfold maxLen; omega) (by omega) (by simp; omega) ?_; intro v' w6 hown' hgrow _; have HGR := hide hgrow; have HO2 := hide hown'; clear hgrow hown')
                have hnb : ∀ k, (k < w.heap.size + 1 + 1 + 1 ∨ k = w5.heap.size) → some k ≠ v7.ownBlock := fun k hk e => by have := unhide HLT k e.symm; omega
                have S_54 := hide (((unhide R54).alloc _).grown (unhide HGR) (hnb _ (by omega)))
                have S_29 := hide (((unhide R29).alloc _).grown (unhide HGR) (hnb _ (by omega)))
                have S_26 := hide (((unhide R26).alloc _).grown (unhide HGR) (hnb _ (by omega)))
                have S_D := hide (((unhide RD).alloc _).grown (unhide HGR) (hnb _ (by omega)))
                have HB6 := hide (grown_below ((unhide RO).alloc _) (unhide HGR) (by simp; omega))
                have S_5 := hide ((((Below.refl w.heap.size w5).alloc (by omega) (.cells #[.int .i64 m, .int .i64 c] 26)).alloc (by simp; omega) (.cells #[.int .i64 m, .int .i64 c] 26)).trans ((unhide HB6).mono (by omega)))
                have S_W := hide ((unhide HW5).trans (unhide S_5))
                have S_O : Hid (w6.ownsRow (w.heap.size + 1 + 1 + 1) 26 2 v' (X ++ [((m : Int), c)]).length (flat (X ++ [((m : Int), c)]))) := hide (by rw [List.length_append, flat_append]; exact unhide HO2)
                clear hnb HGR HB6 HO2 hl
                have e0 := (unhide S_D).cell 0 _ rfl
                have e1 := (unhide S_D).cell 1 _ rfl
                have k0 := (unhide S_26).cell 0 _ rfl
                have k1 := (unhide S_26).cell 1 _ rfl
                have k2 := (unhide S_26).frozen 0
                have k3 := (unhide S_26).frozen 1
                clear d0 d1 n0 n1 l0 l1 o0 o1
                go_region
                go_wp2_with fail
                go_step3
                refine ⟨rfl, ?_, ?_⟩
                · refine JF.mk ?_
                  have hb := below_set (below_set (below_drew (Below.refl w.heap.size w6)) (show w.heap.size ≤ w.heap.size + 1 + 1 by omega) 0 (.int .i64 m)) (show w.heap.size ≤ w.heap.size + 1 + 1 by omega) 1 (.int .i64 c)
                  exact ⟨f, X ++ [((m : Int), c)], a1, [], ((m : Int), c), A1, cb - 1, ra, ca, rfl, rfl, by omega, by omega, ((unhide HT).below (unhide S_5)).below hb, ((unhide HB5).below (unhide S_5)).below hb, unhide HTU2,
                    ((unhide S_54).setNe (by omega) 0 _).setNe (by omega) 1 _, ((unhide S_29).setNe (by omega) 0 _).setNe (by omega) 1 _, ((unhide S_26).set 0 _).set 1 _, own_set (own_set (unhide S_O) (by omega) 0 _) (by omega) 1 _, by simp at hN ⊢; omega, (unhide S_W).trans hb, by have := (unhide S_5).size; simp; omega⟩
                · first | (simp [lenOf]; done) | (simp [lenOf]; omega)
    | cons d a1 =>
      obtain ⟨p, c⟩ := d
      cases b with
      | nil =>
        have HLE : Hid (∀ x ∈ ([] : List Vc.D), Vc.Le (p, c) x) := hide (fun x hx => by cases hx)
        obtain ⟨g, o, rfl, _⟩ := unhide HSA (by simp)
        have HA := HSA
        have HB := HSB
        clear HSA HSB
        rw [List.length_cons] at hca ⊢
        have hq1 : ((a1.length : Int) + 1 == 0) = false := beq_eq_false_iff_ne.2 (by omega)
        go_wp2_with fail
        go_quiet (fail)
        have G54 := hide ((unhide H54).drewN nq)
        have G29 := hide ((unhide H29).drewN nq)
        have G26 := hide ((unhide H26).drewN nq)
        have GO5 : Hid ((w'.drewN nq).ownsRow (w.heap.size + 1 + 1 + 1) 26 2 v7 X.length (flat X)) := HO5
        have GW5 := hide (below_drewN (unhide HW5) nq)
        have GA5 : Hid (SlB w.heap.size (w'.drewN nq) (some ⟨g, o, none⟩) ((p, c) :: a1)) := HA
        have GB5 : Hid (SlB w.heap.size (w'.drewN nq) rb []) := HB
        have hs5 : w.heap.size + 1 + 1 + 1 ≤ (w'.drewN nq).heap.size := hsz
        clear H54 H29 H26 HO5 HW5 HA HB hsz
        have H54 := G54
        have H29 := G29
        have H26 := G26
        have HO5 := GO5
        have HW5 := GW5
        have HA5 := GA5
        have HB5 := GB5
        clear G54 G29 G26 GO5 GW5 GA5 GB5
        generalize w'.drewN nq = w5 at H54 H29 H26 HO5 HW5 HA5 HB5 hs5 ⊢
        have hok := (unhide HTU).aok (p, c) (List.mem_cons_self ..)
        obtain ⟨m, rfl⟩ : ∃ m : Nat, p = (m : Int) := ⟨p.toNat, by unfold Vc.Ok at hok; dsimp only at hok; omega⟩
        have hm : m < 64 := by unfold Vc.Ok at hok; dsimp only at hok; omega
        have hc1 : 1 ≤ c := by unfold Vc.Ok at hok; dsimp only at hok; omega
        have hc2 : c ≤ 1048576 := by unfold Vc.Ok at hok; dsimp only at hok; omega
        obtain ⟨F, hF⟩ : ∃ F, f (m : Int) = F := ⟨_, rfl⟩
        have hF0 : 0 ≤ F := by rw [← hF]; exact ((unhide HTU).f0 _).1
        have hF1 : F ≤ 1048576 := by rw [← hF]; exact ((unhide HTU).f0 _).2
        have HF := hide hF
        obtain ⟨A1, hsl, hA1⟩ := slice1 g o a1.length ca hca
        have HT := hide ((unhide HA5).cut hA1)
        have d0 : w5.cell? ⟨g, o, none⟩ = some (.int .i64 m) := by obtain ⟨_, _, e, _, hcell⟩ := unhide HA5 (by simp); cases e; exact (hcell 0 _ rfl).1
        have d1 : w5.cell? ⟨g, o + 1, none⟩ = some (.int .i64 c) := by obtain ⟨_, _, e, _, hcell⟩ := unhide HA5 (by simp); cases e; exact (hcell 0 _ rfl).2
        have R54 := hide ((unhide H54).alloc (.cells #[.int .i64 m, .int .i64 c] 26))
        have R29 := hide ((unhide H29).alloc (.cells #[.int .i64 m, .int .i64 c] 26))
        have R26 := hide ((unhide H26).alloc (.cells #[.int .i64 m, .int .i64 c] 26))
        have RD := hide (VRow.new w5 26 [.int .i64 m, .int .i64 c])
        have RO := hide ((unhide HO5).alloc (.cells #[.int .i64 m, .int .i64 c] 26))
        have HLT := hide (unhide HO5).lt
        have o0 := (unhide R54).cell m _ (cntF_get _ n m (by have := unhide HN; omega))
        have o1 := (unhide R54).frozen m
        have l0 := (unhide R26).cell 0 _ rfl
        have l1 := (unhide R26).cell 1 _ rfl
        have n0 := new0 w5 (.int .i64 m) (.int .i64 c) 26
        have n1 := new1 w5 (.int .i64 m) (.int .i64 c) 26
        have HWD := hide ((unhide HW5).alloc (unhide HW5).size (.cells #[.int .i64 m, .int .i64 c] 26))
        rw [hF] at o0
        clear hA1 hok HA5 H54 H29 H26 HO5 hF
        by_cases hb1 : c = F + 1
        · subst hb1
          have HTU2 := hide ((unhide HTU).bump (unhide HLE) (show F + 1 = f (m : Int) + 1 by rw [unhide HF]))
          have hw1 : IntKind.i64.wrap (F + 1) = F + 1 := wrap_small (by omega) (by omega)
          go_wp2_with fail
          have S_54 := hide ((unhide R54).set m (.int .i64 (F + 1)))
          rw [cntF_set] at S_54
          have S_29 := hide ((unhide R29).setNe (B := w.heap.size) (by omega) m (.int .i64 (F + 1)))
          have S_26 := hide ((unhide R26).setNe (B := w.heap.size) (by omega) m (.int .i64 (F + 1)))
          have S_D := hide ((unhide RD).setNe (B := w.heap.size) (by omega) m (.int .i64 (F + 1)))
          have S_O := hide (own_set (unhide RO) (B := w.heap.size) (by omega) m (.int .i64 (F + 1)))
          have S_W := hide (below_set (unhide HWD) (Nat.le_refl _) m (.int .i64 (F + 1)))
          have S_5 := hide (below_set ((Below.refl w.heap.size w5).alloc (by omega) (.cells #[.int .i64 m, .int .i64 (F + 1)] 26)) (Nat.le_refl _) m (.int .i64 (F + 1)))
          generalize (w5.alloc (.cells #[.int .i64 m, .int .i64 (F + 1)] 26)).setCell ⟨w.heap.size, m, none⟩ (.int .i64 (F + 1)) = w6 at S_54 S_29 S_26 S_D S_O S_W S_5 ⊢
          have e0 := (unhide S_D).cell 0 _ rfl
          have e1 := (unhide S_D).cell 1 _ rfl
          have k0 := (unhide S_26).cell 0 _ rfl
          have k1 := (unhide S_26).cell 1 _ rfl
          have k2 := (unhide S_26).frozen 0
          have k3 := (unhide S_26).frozen 1
          clear d0 d1 n0 n1 l0 l1 o0 o1
          go_region
          go_wp2_with fail
          go_step3
          refine ⟨rfl, ?_, ?_⟩
          · refine JF.mk ?_
            have hb := below_set (below_set (below_drew (Below.refl w.heap.size w6)) (show w.heap.size ≤ w.heap.size + 1 + 1 by omega) 0 (.int .i64 m)) (show w.heap.size ≤ w.heap.size + 1 + 1 by omega) 1 (.int .i64 (F + 1))
            exact ⟨Vc.upd f (m : Int) (F + 1), X, a1, [], ((m : Int), F + 1), A1, ca - 1, rb, cb, rfl, rfl, by omega, by omega, ((unhide HT).below (unhide S_5)).below hb, ((unhide HB5).below (unhide S_5)).below hb, unhide HTU2,
              ((unhide S_54).setNe (by omega) 0 _).setNe (by omega) 1 _, ((unhide S_29).setNe (by omega) 0 _).setNe (by omega) 1 _, ((unhide S_26).set 0 _).set 1 _, own_set (own_set (unhide S_O) (by omega) 0 _) (by omega) 1 _, by simp at hN ⊢; omega, (unhide S_W).trans hb, by have := (unhide S_5).size; simp; omega⟩
          · first | (simp [lenOf]; done) | (simp [lenOf]; omega)
        · have hb2 : (c == F + 1) = false := beq_eq_false_iff_ne.2 hb1
          by_cases hb3 : c < F + 1
          · have HTU2 := hide ((unhide HTU).drop (unhide HLE) (.inl (show c < f (m : Int) + 1 by rw [unhide HF]; exact hb3)))
            have hb4 : decide (F + 1 < c) = false := decide_eq_false (by omega)
            go_wp2_with fail
            have S_54 := R54
            have S_29 := R29
            have S_26 := R26
            have S_D := RD
            have S_O := RO
            have S_W := HWD
            have S_5 := hide ((Below.refl w.heap.size w5).alloc (by omega) (.cells #[.int .i64 m, .int .i64 c] 26))
            generalize w5.alloc (.cells #[.int .i64 m, .int .i64 c] 26) = w6 at S_54 S_29 S_26 S_D S_O S_W S_5 ⊢
            clear R54 R29 R26 RD RO HWD
            have e0 := (unhide S_D).cell 0 _ rfl
            have e1 := (unhide S_D).cell 1 _ rfl
            have k0 := (unhide S_26).cell 0 _ rfl
            have k1 := (unhide S_26).cell 1 _ rfl
            have k2 := (unhide S_26).frozen 0
            have k3 := (unhide S_26).frozen 1
            clear d0 d1 n0 n1 l0 l1 o0 o1
            go_region
            go_wp2_with fail
            go_step3
            refine ⟨rfl, ?_, ?_⟩
            · refine JF.mk ?_
              have hb := below_set (below_set (below_drew (Below.refl w.heap.size w6)) (show w.heap.size ≤ w.heap.size + 1 + 1 by omega) 0 (.int .i64 m)) (show w.heap.size ≤ w.heap.size + 1 + 1 by omega) 1 (.int .i64 c)
              exact ⟨f, X, a1, [], ((m : Int), c), A1, ca - 1, rb, cb, rfl, rfl, by omega, by omega, ((unhide HT).below (unhide S_5)).below hb, ((unhide HB5).below (unhide S_5)).below hb, unhide HTU2,
                ((unhide S_54).setNe (by omega) 0 _).setNe (by omega) 1 _, ((unhide S_29).setNe (by omega) 0 _).setNe (by omega) 1 _, ((unhide S_26).set 0 _).set 1 _, own_set (own_set (unhide S_O) (by omega) 0 _) (by omega) 1 _, by simp at hN ⊢; omega, (unhide S_W).trans hb, by have := (unhide S_5).size; simp; omega⟩
            · first | (simp [lenOf]; done) | (simp [lenOf]; omega)
          · have hb4 : decide (F + 1 < c) = true := decide_eq_true (by omega)
            have hgt : F + 1 < c := by omega
            by_cases hl : (m : Int) = lp ∧ c = lc
            · obtain ⟨rfl, rfl⟩ := hl
              have HTU2 := hide ((unhide HTU).drop (unhide HLE) (.inr ⟨show f (m : Int) + 1 < c by rw [unhide HF]; exact hgt, rfl⟩))
              go_wp2_with fail
              have S_54 := R54
              have S_29 := R29
              have S_26 := R26
              have S_D := RD
              have S_O := RO
              have S_W := HWD
              have S_5 := hide ((Below.refl w.heap.size w5).alloc (by omega) (.cells #[.int .i64 m, .int .i64 c] 26))
              generalize w5.alloc (.cells #[.int .i64 m, .int .i64 c] 26) = w6 at S_54 S_29 S_26 S_D S_O S_W S_5 ⊢
              clear R54 R29 R26 RD RO HWD
              have e0 := (unhide S_D).cell 0 _ rfl
              have e1 := (unhide S_D).cell 1 _ rfl
              have k0 := (unhide S_26).cell 0 _ rfl
              have k1 := (unhide S_26).cell 1 _ rfl
              have k2 := (unhide S_26).frozen 0
              have k3 := (unhide S_26).frozen 1
              clear d0 d1 n0 n1 l0 l1 o0 o1
              go_region
              go_wp2_with fail
              go_step3
              refine ⟨rfl, ?_, ?_⟩
              · refine JF.mk ?_
                have hb := below_set (below_set (below_drew (Below.refl w.heap.size w6)) (show w.heap.size ≤ w.heap.size + 1 + 1 by omega) 0 (.int .i64 m)) (show w.heap.size ≤ w.heap.size + 1 + 1 by omega) 1 (.int .i64 c)
                exact ⟨f, X, a1, [], ((m : Int), c), A1, ca - 1, rb, cb, rfl, rfl, by omega, by omega, ((unhide HT).below (unhide S_5)).below hb, ((unhide HB5).below (unhide S_5)).below hb, unhide HTU2,
                  ((unhide S_54).setNe (by omega) 0 _).setNe (by omega) 1 _, ((unhide S_29).setNe (by omega) 0 _).setNe (by omega) 1 _, ((unhide S_26).set 0 _).set 1 _, own_set (own_set (unhide S_O) (by omega) 0 _) (by omega) 1 _, by simp at hN ⊢; omega, (unhide S_W).trans hb, by have := (unhide S_5).size; simp; omega⟩
              · first | (simp [lenOf]; done) | (simp [lenOf]; omega)
            · by_cases hlp : (m : Int) = lp
              · subst hlp
                have hlc : c ≠ lc := fun e => hl ⟨rfl, e⟩
                have HTU2 := hide ((unhide HTU).push (unhide HLE) (show f (m : Int) + 1 < c by rw [unhide HF]; exact hgt) (fun e => hl ⟨congrArg Prod.fst e, congrArg Prod.snd e⟩))
                go_wp2_with (at_builtin; refine wpList_append_own _ rfl _ _ 22 rfl (w.heap.size + 1 + 1 + 1) 26 i0 _ 2 16 Try.underlying22 hi hz0 hz1 hz2 rfl (by decide) _ _ _ rfl ((unhide RO).alloc _) ⟨w5.heap.size + 1, 0, none⟩ 1 1 [.int .i64 m, .int .i64 c] rfl rfl (cell_two_new1 _ _ _ _) (by simp [Value.oneCell']) (by unfold maxLen; omega) (by omega) (by simp; omega) ?_; intro v' w6 hown' hgrow _; have HGR := hide hgrow; have HO2 := hide hown'; clear hgrow hown')
                have hnb : ∀ k, (k < w.heap.size + 1 + 1 + 1 ∨ k = w5.heap.size) → some k ≠ v7.ownBlock := fun k hk e => by have := unhide HLT k e.symm; omega
                have S_54 := hide (((unhide R54).alloc _).grown (unhide HGR) (hnb _ (by omega)))
                have S_29 := hide (((unhide R29).alloc _).grown (unhide HGR) (hnb _ (by omega)))
                have S_26 := hide (((unhide R26).alloc _).grown (unhide HGR) (hnb _ (by omega)))
                have S_D := hide (((unhide RD).alloc _).grown (unhide HGR) (hnb _ (by omega)))
                have HB6 := hide (grown_below ((unhide RO).alloc _) (unhide HGR) (by simp; omega))
                have S_5 := hide ((((Below.refl w.heap.size w5).alloc (by omega) (.cells #[.int .i64 m, .int .i64 c] 26)).alloc (by simp; omega) (.cells #[.int .i64 m, .int .i64 c] 26)).trans ((unhide HB6).mono (by omega)))
                have S_W := hide ((unhide HW5).trans (unhide S_5))
                have S_O : Hid (w6.ownsRow (w.heap.size + 1 + 1 + 1) 26 2 v' (X ++ [((m : Int), c)]).length (flat (X ++ [((m : Int), c)]))) := hide (by rw [List.length_append, flat_append]; exact unhide HO2)
                clear hnb HGR HB6 HO2 hl
                have e0 := (unhide S_D).cell 0 _ rfl
                have e1 := (unhide S_D).cell 1 _ rfl
                have k0 := (unhide S_26).cell 0 _ rfl
                have k1 := (unhide S_26).cell 1 _ rfl
                have k2 := (unhide S_26).frozen 0
                have k3 := (unhide S_26).frozen 1
                clear d0 d1 n0 n1 l0 l1 o0 o1
                go_region
                go_wp2_with fail
                go_step3
                refine ⟨rfl, ?_, ?_⟩
                · refine JF.mk ?_
                  have hb := below_set (below_set (below_drew (Below.refl w.heap.size w6)) (show w.heap.size ≤ w.heap.size + 1 + 1 by omega) 0 (.int .i64 m)) (show w.heap.size ≤ w.heap.size + 1 + 1 by omega) 1 (.int .i64 c)
                  exact ⟨f, X ++ [((m : Int), c)], a1, [], ((m : Int), c), A1, ca - 1, rb, cb, rfl, rfl, by omega, by omega, ((unhide HT).below (unhide S_5)).below hb, ((unhide HB5).below (unhide S_5)).below hb, unhide HTU2,
                    ((unhide S_54).setNe (by omega) 0 _).setNe (by omega) 1 _, ((unhide S_29).setNe (by omega) 0 _).setNe (by omega) 1 _, ((unhide S_26).set 0 _).set 1 _, own_set (own_set (unhide S_O) (by omega) 0 _) (by omega) 1 _, by simp at hN ⊢; omega, (unhide S_W).trans hb, by have := (unhide S_5).size; simp; omega⟩
                · first | (simp [lenOf]; done) | (simp [lenOf]; omega)
              · have HTU2 := hide ((unhide HTU).push (unhide HLE) (show f (m : Int) + 1 < c by rw [unhide HF]; exact hgt) (fun e => hl ⟨congrArg Prod.fst e, congrArg Prod.snd e⟩))
                go_wp2_with (at_builtin; refine wpList_append_own _ rfl _ _ 22 rfl (w.heap.size + 1 + 1 + 1) 26 i0 _ 2 16 Try.underlying22 hi hz0 hz1 hz2 rfl (by decide) _ _ _ rfl ((unhide RO).alloc _) ⟨w5.heap.size + 1, 0, none⟩ 1 1 [.int .i64 m, .int .i64 c] rfl rfl (cell_two_new1 _ _ _ _) (by simp [Value.oneCell']) (by unfold maxLen; omega) (by omega) (by simp; omega) ?_; intro v' w6 hown' hgrow _; have HGR := hide hgrow; have HO2 := hide hown'; clear hgrow hown')
                have hnb : ∀ k, (k < w.heap.size + 1 + 1 + 1 ∨ k = w5.heap.size) → some k ≠ v7.ownBlock := fun k hk e => by have := unhide HLT k e.symm; omega
                have S_54 := hide (((unhide R54).alloc _).grown (unhide HGR) (hnb _ (by omega)))
                have S_29 := hide (((unhide R29).alloc _).grown (unhide HGR) (hnb _ (by omega)))
                have S_26 := hide (((unhide R26).alloc _).grown (unhide HGR) (hnb _ (by omega)))
                have S_D := hide (((unhide RD).alloc _).grown (unhide HGR) (hnb _ (by omega)))
                have HB6 := hide (grown_below ((unhide RO).alloc _) (unhide HGR) (by simp; omega))
                have S_5 := hide ((((Below.refl w.heap.size w5).alloc (by omega) (.cells #[.int .i64 m, .int .i64 c] 26)).alloc (by simp; omega) (.cells #[.int .i64 m, .int .i64 c] 26)).trans ((unhide HB6).mono (by omega)))
                have S_W := hide ((unhide HW5).trans (unhide S_5))
                have S_O : Hid (w6.ownsRow (w.heap.size + 1 + 1 + 1) 26 2 v' (X ++ [((m : Int), c)]).length (flat (X ++ [((m : Int), c)]))) := hide (by rw [List.length_append, flat_append]; exact unhide HO2)
                clear hnb HGR HB6 HO2 hl
                have e0 := (unhide S_D).cell 0 _ rfl
                have e1 := (unhide S_D).cell 1 _ rfl
                have k0 := (unhide S_26).cell 0 _ rfl
                have k1 := (unhide S_26).cell 1 _ rfl
                have k2 := (unhide S_26).frozen 0
                have k3 := (unhide S_26).frozen 1
                clear d0 d1 n0 n1 l0 l1 o0 o1
                go_region
                go_wp2_with fail
                go_step3
                refine ⟨rfl, ?_, ?_⟩
                · refine JF.mk ?_
                  have hb := below_set (below_set (below_drew (Below.refl w.heap.size w6)) (show w.heap.size ≤ w.heap.size + 1 + 1 by omega) 0 (.int .i64 m)) (show w.heap.size ≤ w.heap.size + 1 + 1 by omega) 1 (.int .i64 c)
                  exact ⟨f, X ++ [((m : Int), c)], a1, [], ((m : Int), c), A1, ca - 1, rb, cb, rfl, rfl, by omega, by omega, ((unhide HT).below (unhide S_5)).below hb, ((unhide HB5).below (unhide S_5)).below hb, unhide HTU2,
                    ((unhide S_54).setNe (by omega) 0 _).setNe (by omega) 1 _, ((unhide S_29).setNe (by omega) 0 _).setNe (by omega) 1 _, ((unhide S_26).set 0 _).set 1 _, own_set (own_set (unhide S_O) (by omega) 0 _) (by omega) 1 _, by simp at hN ⊢; omega, (unhide S_W).trans hb, by have := (unhide S_5).size; simp; omega⟩
                · first | (simp [lenOf]; done) | (simp [lenOf]; omega)
      | cons e b1 =>
        obtain ⟨p', c'⟩ := e
        obtain ⟨g, o, rfl, _, hcell⟩ := unhide HSA (by simp)
        obtain ⟨g2, o2, rfl, _, hcell2⟩ := unhide HSB (by simp)
        have x0 : w'.cell? ⟨g, o, none⟩ = some (.int .i64 p) := (hcell 0 _ rfl).1
        have x1 : w'.cell? ⟨g, o + 1, none⟩ = some (.int .i64 c) := (hcell 0 _ rfl).2
        have y0 : w'.cell? ⟨g2, o2, none⟩ = some (.int .i64 p') := (hcell2 0 _ rfl).1
        have y1 : w'.cell? ⟨g2, o2 + 1, none⟩ = some (.int .i64 c') := (hcell2 0 _ rfl).2
        have q0 := cell_regrown x0
        have q1 := cell_regrown x1
        have q2 := cell_regrown y0
        have q3 := cell_regrown y1
        have KC := hide (cmpD_any p' c' p c)
        have HLT := hide (cmpD_lt (p', c') (p, c))
        generalize cmpD (p', c') (p, c) = R at KC HLT
        clear hcell hcell2 x0 x1 y0 y1
        by_cases hR : R < 0
        · have hRb : decide (R < 0) = true := decide_eq_true hR
          have HAH := hide ((unhide HLT).1 hR)
          clear HLT hR
          have HTU := hide (unhide HTU).swap
          have HLE := hide (Vc.ris_le (unhide HTU).br (unhide HAH).le)
          have HA := HSB
          have HB := HSA
          have hsw := hca
          clear hca HSA HSB
          have hca := hcb
          clear hcb
          have hcb := hsw
          clear hsw
          rw [List.length_cons] at hca ⊢
          rw [List.length_cons] at hcb ⊢
          have hq1 : ((a1.length : Int) + 1 == 0) = false := beq_eq_false_iff_ne.2 (by omega)
          have hq2 : ((b1.length : Int) + 1 == 0) = false := beq_eq_false_iff_ne.2 (by omega)
          have hq3 : decide (0 < (b1.length : Int) + 1) = true := decide_eq_true (by omega)
          go_wp2_with fail
          refine wp_region_quiet_below (by kernel_rfl) (by kernel_rfl) ?_
          repeat (quiet_step (first | (go_at_call 30; exact Calls.regrown_of (unhide KC _))))
          refine wpQuiet_nil ?_
          intro _ hw'
          obtain ⟨⟨dq, osq⟩, hw''⟩ := hw'
          subst hw''
          have hbg := below_regrown w' dq osq
          have G54 := hide ((unhide H54).after hbg)
          have G29 := hide ((unhide H29).after hbg)
          have G26 := hide ((unhide H26).after hbg)
          have GO5 := hide (own_after (unhide HO5) hbg)
          have GW5 := hide ((unhide HW5).trans (hbg.mono (unhide HW5).size))
          have GA5 := hide ((unhide HA).below (hbg.mono (unhide HW5).size))
          have GB5 := hide ((unhide HB).below (hbg.mono (unhide HW5).size))
          have hs5 := Nat.le_trans hsz hbg.size
          clear H54 H29 H26 HO5 HW5 HA HB hsz hbg
          have H54 := G54
          have H29 := G29
          have H26 := G26
          have HO5 := GO5
          have HW5 := GW5
          have HA5 := GA5
          have HB5 := GB5
          clear G54 G29 G26 GO5 GW5 GA5 GB5
          generalize Go.Sort.grow (redrawn w' dq) osq = w5 at H54 H29 H26 HO5 HW5 HA5 HB5 hs5 ⊢
          have hok := (unhide HTU).aok (p', c') (List.mem_cons_self ..)
          obtain ⟨m, rfl⟩ : ∃ m : Nat, p' = (m : Int) := ⟨p'.toNat, by unfold Vc.Ok at hok; dsimp only at hok; omega⟩
          have hm : m < 64 := by unfold Vc.Ok at hok; dsimp only at hok; omega
          have hc1 : 1 ≤ c' := by unfold Vc.Ok at hok; dsimp only at hok; omega
          have hc2 : c' ≤ 1048576 := by unfold Vc.Ok at hok; dsimp only at hok; omega
          obtain ⟨F, hF⟩ : ∃ F, f (m : Int) = F := ⟨_, rfl⟩
          have hF0 : 0 ≤ F := by rw [← hF]; exact ((unhide HTU).f0 _).1
          have hF1 : F ≤ 1048576 := by rw [← hF]; exact ((unhide HTU).f0 _).2
          have HF := hide hF
          obtain ⟨A1, hsl, hA1⟩ := slice1 g2 o2 b1.length cb hca
          have HT := hide ((unhide HA5).cut hA1)
          have d0 : w5.cell? ⟨g2, o2, none⟩ = some (.int .i64 m) := by obtain ⟨_, _, e, _, hcell⟩ := unhide HA5 (by simp); cases e; exact (hcell 0 _ rfl).1
          have d1 : w5.cell? ⟨g2, o2 + 1, none⟩ = some (.int .i64 c') := by obtain ⟨_, _, e, _, hcell⟩ := unhide HA5 (by simp); cases e; exact (hcell 0 _ rfl).2
          have R54 := hide ((unhide H54).alloc (.cells #[.int .i64 m, .int .i64 c'] 26))
          have R29 := hide ((unhide H29).alloc (.cells #[.int .i64 m, .int .i64 c'] 26))
          have R26 := hide ((unhide H26).alloc (.cells #[.int .i64 m, .int .i64 c'] 26))
          have RD := hide (VRow.new w5 26 [.int .i64 m, .int .i64 c'])
          have RO := hide ((unhide HO5).alloc (.cells #[.int .i64 m, .int .i64 c'] 26))
          have HLT := hide (unhide HO5).lt
          have o0 := (unhide R54).cell m _ (cntF_get _ n m (by have := unhide HN; omega))
          have o1 := (unhide R54).frozen m
          have l0 := (unhide R26).cell 0 _ rfl
          have l1 := (unhide R26).cell 1 _ rfl
          have n0 := new0 w5 (.int .i64 m) (.int .i64 c') 26
          have n1 := new1 w5 (.int .i64 m) (.int .i64 c') 26
          have HWD := hide ((unhide HW5).alloc (unhide HW5).size (.cells #[.int .i64 m, .int .i64 c'] 26))
          rw [hF] at o0
          clear hA1 hok HA5 H54 H29 H26 HO5 hF
          by_cases hb1 : c' = F + 1
          · subst hb1
            have HTU2 := hide ((unhide HTU).bump (unhide HLE) (show F + 1 = f (m : Int) + 1 by rw [unhide HF]))
            have hw1 : IntKind.i64.wrap (F + 1) = F + 1 := wrap_small (by omega) (by omega)
            go_wp2_with fail
            have S_54 := hide ((unhide R54).set m (.int .i64 (F + 1)))
            rw [cntF_set] at S_54
            have S_29 := hide ((unhide R29).setNe (B := w.heap.size) (by omega) m (.int .i64 (F + 1)))
            have S_26 := hide ((unhide R26).setNe (B := w.heap.size) (by omega) m (.int .i64 (F + 1)))
            have S_D := hide ((unhide RD).setNe (B := w.heap.size) (by omega) m (.int .i64 (F + 1)))
            have S_O := hide (own_set (unhide RO) (B := w.heap.size) (by omega) m (.int .i64 (F + 1)))
            have S_W := hide (below_set (unhide HWD) (Nat.le_refl _) m (.int .i64 (F + 1)))
            have S_5 := hide (below_set ((Below.refl w.heap.size w5).alloc (by omega) (.cells #[.int .i64 m, .int .i64 (F + 1)] 26)) (Nat.le_refl _) m (.int .i64 (F + 1)))
            generalize (w5.alloc (.cells #[.int .i64 m, .int .i64 (F + 1)] 26)).setCell ⟨w.heap.size, m, none⟩ (.int .i64 (F + 1)) = w6 at S_54 S_29 S_26 S_D S_O S_W S_5 ⊢
            have e0 := (unhide S_D).cell 0 _ rfl
            have e1 := (unhide S_D).cell 1 _ rfl
            have k0 := (unhide S_26).cell 0 _ rfl
            have k1 := (unhide S_26).cell 1 _ rfl
            have k2 := (unhide S_26).frozen 0
            have k3 := (unhide S_26).frozen 1
            clear d0 d1 n0 n1 l0 l1 o0 o1
            go_region
            go_wp2_with fail
            go_step3
            refine ⟨rfl, ?_, ?_⟩
            · refine JF.mk ?_
              have hb := below_set (below_set (below_drew (Below.refl w.heap.size w6)) (show w.heap.size ≤ w.heap.size + 1 + 1 by omega) 0 (.int .i64 m)) (show w.heap.size ≤ w.heap.size + 1 + 1 by omega) 1 (.int .i64 (F + 1))
              exact ⟨Vc.upd f (m : Int) (F + 1), X, b1, ((p, c) :: a1), ((m : Int), F + 1), A1, cb - 1, (some ⟨g, o, none⟩), ca, rfl, rfl, by omega, by omega, ((unhide HT).below (unhide S_5)).below hb, ((unhide HB5).below (unhide S_5)).below hb, unhide HTU2,
                ((unhide S_54).setNe (by omega) 0 _).setNe (by omega) 1 _, ((unhide S_29).setNe (by omega) 0 _).setNe (by omega) 1 _, ((unhide S_26).set 0 _).set 1 _, own_set (own_set (unhide S_O) (by omega) 0 _) (by omega) 1 _, by simp at hN ⊢; omega, (unhide S_W).trans hb, by have := (unhide S_5).size; simp; omega⟩
            · first | (simp [lenOf]; done) | (simp [lenOf]; omega)
          · have hb2 : (c' == F + 1) = false := beq_eq_false_iff_ne.2 hb1
            by_cases hb3 : c' < F + 1
            · have HTU2 := hide ((unhide HTU).drop (unhide HLE) (.inl (show c' < f (m : Int) + 1 by rw [unhide HF]; exact hb3)))
              have hb4 : decide (F + 1 < c') = false := decide_eq_false (by omega)
              go_wp2_with fail
              have S_54 := R54
              have S_29 := R29
              have S_26 := R26
              have S_D := RD
              have S_O := RO
              have S_W := HWD
              have S_5 := hide ((Below.refl w.heap.size w5).alloc (by omega) (.cells #[.int .i64 m, .int .i64 c'] 26))
              generalize w5.alloc (.cells #[.int .i64 m, .int .i64 c'] 26) = w6 at S_54 S_29 S_26 S_D S_O S_W S_5 ⊢
              clear R54 R29 R26 RD RO HWD
              have e0 := (unhide S_D).cell 0 _ rfl
              have e1 := (unhide S_D).cell 1 _ rfl
              have k0 := (unhide S_26).cell 0 _ rfl
              have k1 := (unhide S_26).cell 1 _ rfl
              have k2 := (unhide S_26).frozen 0
              have k3 := (unhide S_26).frozen 1
              clear d0 d1 n0 n1 l0 l1 o0 o1
              go_region
              go_wp2_with fail
              go_step3
              refine ⟨rfl, ?_, ?_⟩
              · refine JF.mk ?_
                have hb := below_set (below_set (below_drew (Below.refl w.heap.size w6)) (show w.heap.size ≤ w.heap.size + 1 + 1 by omega) 0 (.int .i64 m)) (show w.heap.size ≤ w.heap.size + 1 + 1 by omega) 1 (.int .i64 c')
                exact ⟨f, X, b1, ((p, c) :: a1), ((m : Int), c'), A1, cb - 1, (some ⟨g, o, none⟩), ca, rfl, rfl, by omega, by omega, ((unhide HT).below (unhide S_5)).below hb, ((unhide HB5).below (unhide S_5)).below hb, unhide HTU2,
                  ((unhide S_54).setNe (by omega) 0 _).setNe (by omega) 1 _, ((unhide S_29).setNe (by omega) 0 _).setNe (by omega) 1 _, ((unhide S_26).set 0 _).set 1 _, own_set (own_set (unhide S_O) (by omega) 0 _) (by omega) 1 _, by simp at hN ⊢; omega, (unhide S_W).trans hb, by have := (unhide S_5).size; simp; omega⟩
              · first | (simp [lenOf]; done) | (simp [lenOf]; omega)
            · have hb4 : decide (F + 1 < c') = true := decide_eq_true (by omega)
              have hgt : F + 1 < c' := by omega
              by_cases hl : (m : Int) = lp ∧ c' = lc
              · obtain ⟨rfl, rfl⟩ := hl
                have HTU2 := hide ((unhide HTU).drop (unhide HLE) (.inr ⟨show f (m : Int) + 1 < c' by rw [unhide HF]; exact hgt, rfl⟩))
                go_wp2_with fail
                have S_54 := R54
                have S_29 := R29
                have S_26 := R26
                have S_D := RD
                have S_O := RO
                have S_W := HWD
                have S_5 := hide ((Below.refl w.heap.size w5).alloc (by omega) (.cells #[.int .i64 m, .int .i64 c'] 26))
                generalize w5.alloc (.cells #[.int .i64 m, .int .i64 c'] 26) = w6 at S_54 S_29 S_26 S_D S_O S_W S_5 ⊢
                clear R54 R29 R26 RD RO HWD
                have e0 := (unhide S_D).cell 0 _ rfl
                have e1 := (unhide S_D).cell 1 _ rfl
                have k0 := (unhide S_26).cell 0 _ rfl
                have k1 := (unhide S_26).cell 1 _ rfl
                have k2 := (unhide S_26).frozen 0
                have k3 := (unhide S_26).frozen 1
                clear d0 d1 n0 n1 l0 l1 o0 o1
                go_region
                go_wp2_with fail
                go_step3
                refine ⟨rfl, ?_, ?_⟩
                · refine JF.mk ?_
                  have hb := below_set (below_set (below_drew (Below.refl w.heap.size w6)) (show w.heap.size ≤ w.heap.size + 1 + 1 by omega) 0 (.int .i64 m)) (show w.heap.size ≤ w.heap.size + 1 + 1 by omega) 1 (.int .i64 c')
                  exact ⟨f, X, b1, ((p, c) :: a1), ((m : Int), c'), A1, cb - 1, (some ⟨g, o, none⟩), ca, rfl, rfl, by omega, by omega, ((unhide HT).below (unhide S_5)).below hb, ((unhide HB5).below (unhide S_5)).below hb, unhide HTU2,
                    ((unhide S_54).setNe (by omega) 0 _).setNe (by omega) 1 _, ((unhide S_29).setNe (by omega) 0 _).setNe (by omega) 1 _, ((unhide S_26).set 0 _).set 1 _, own_set (own_set (unhide S_O) (by omega) 0 _) (by omega) 1 _, by simp at hN ⊢; omega, (unhide S_W).trans hb, by have := (unhide S_5).size; simp; omega⟩
                · first | (simp [lenOf]; done) | (simp [lenOf]; omega)
              · by_cases hlp : (m : Int) = lp
                · subst hlp
                  have hlc : c' ≠ lc := fun e => hl ⟨rfl, e⟩
                  have HTU2 := hide ((unhide HTU).push (unhide HLE) (show f (m : Int) + 1 < c' by rw [unhide HF]; exact hgt) (fun e => hl ⟨congrArg Prod.fst e, congrArg Prod.snd e⟩))
                  go_wp2_with (at_builtin; refine wpList_append_own _ rfl _ _ 22 rfl (w.heap.size + 1 + 1 + 1) 26 i0 _ 2 16 Try.underlying22 hi hz0 hz1 hz2 rfl (by decide) _ _ _ rfl ((unhide RO).alloc _) ⟨w5.heap.size + 1, 0, none⟩ 1 1 [.int .i64 m, .int .i64 c'] rfl rfl (cell_two_new1 _ _ _ _) (by simp [Value.oneCell']) (by unfold maxLen; omega) (by omega) (by simp; omega) ?_; intro v' w6 hown' hgrow _; have HGR := hide hgrow; have HO2 := hide hown'; clear hgrow hown')
                  have hnb : ∀ k, (k < w.heap.size + 1 + 1 + 1 ∨ k = w5.heap.size) → some k ≠ v7.ownBlock := fun k hk e => by have := unhide HLT k e.symm; omega
                  have S_54 := hide (((unhide R54).alloc _).grown (unhide HGR) (hnb _ (by omega)))
                  have S_29 := hide (((unhide R29).alloc _).grown (unhide HGR) (hnb _ (by omega)))
                  have S_26 := hide (((unhide R26).alloc _).grown (unhide HGR) (hnb _ (by omega)))
                  have S_D := hide (((unhide RD).alloc _).grown (unhide HGR) (hnb _ (by omega)))
                  have HB6 := hide (grown_below ((unhide RO).alloc _) (unhide HGR) (by simp; omega))
                  have S_5 := hide ((((Below.refl w.heap.size w5).alloc (by omega) (.cells #[.int .i64 m, .int .i64 c'] 26)).alloc (by simp; omega) (.cells #[.int .i64 m, .int .i64 c'] 26)).trans ((unhide HB6).mono (by omega)))
                  have S_W := hide ((unhide HW5).trans (unhide S_5))
                  have S_O : Hid (w6.ownsRow (w.heap.size + 1 + 1 + 1) 26 2 v' (X ++ [((m : Int), c')]).length (flat (X ++ [((m : Int), c')]))) := hide (by rw [List.length_append, flat_append]; exact unhide HO2)
                  clear hnb HGR HB6 HO2 hl
                  have e0 := (unhide S_D).cell 0 _ rfl
                  have e1 := (unhide S_D).cell 1 _ rfl
                  have k0 := (unhide S_26).cell 0 _ rfl
                  have k1 := (unhide S_26).cell 1 _ rfl
                  have k2 := (unhide S_26).frozen 0
                  have k3 := (unhide S_26).frozen 1
                  clear d0 d1 n0 n1 l0 l1 o0 o1
                  go_region
                  go_wp2_with fail
                  go_step3
                  refine ⟨rfl, ?_, ?_⟩
                  · refine JF.mk ?_
                    have hb := below_set (below_set (below_drew (Below.refl w.heap.size w6)) (show w.heap.size ≤ w.heap.size + 1 + 1 by omega) 0 (.int .i64 m)) (show w.heap.size ≤ w.heap.size + 1 + 1 by omega) 1 (.int .i64 c')
                    exact ⟨f, X ++ [((m : Int), c')], b1, ((p, c) :: a1), ((m : Int), c'), A1, cb - 1, (some ⟨g, o, none⟩), ca, rfl, rfl, by omega, by omega, ((unhide HT).below (unhide S_5)).below hb, ((unhide HB5).below (unhide S_5)).below hb, unhide HTU2,
                      ((unhide S_54).setNe (by omega) 0 _).setNe (by omega) 1 _, ((unhide S_29).setNe (by omega) 0 _).setNe (by omega) 1 _, ((unhide S_26).set 0 _).set 1 _, own_set (own_set (unhide S_O) (by omega) 0 _) (by omega) 1 _, by simp at hN ⊢; omega, (unhide S_W).trans hb, by have := (unhide S_5).size; simp; omega⟩
                  · first | (simp [lenOf]; done) | (simp [lenOf]; omega)
                · have HTU2 := hide ((unhide HTU).push (unhide HLE) (show f (m : Int) + 1 < c' by rw [unhide HF]; exact hgt) (fun e => hl ⟨congrArg Prod.fst e, congrArg Prod.snd e⟩))
                  go_wp2_with (at_builtin; refine wpList_append_own _ rfl _ _ 22 rfl (w.heap.size + 1 + 1 + 1) 26 i0 _ 2 16 Try.underlying22 hi hz0 hz1 hz2 rfl (by decide) _ _ _ rfl ((unhide RO).alloc _) ⟨w5.heap.size + 1, 0, none⟩ 1 1 [.int .i64 m, .int .i64 c'] rfl rfl (cell_two_new1 _ _ _ _) (by simp [Value.oneCell']) (by unfold maxLen; omega) (by omega) (by simp; omega) ?_; intro v' w6 hown' hgrow _; have HGR := hide hgrow; have HO2 := hide hown'; clear hgrow hown')
                  have hnb : ∀ k, (k < w.heap.size + 1 + 1 + 1 ∨ k = w5.heap.size) → some k ≠ v7.ownBlock := fun k hk e => by have := unhide HLT k e.symm; omega
                  have S_54 := hide (((unhide R54).alloc _).grown (unhide HGR) (hnb _ (by omega)))
                  have S_29 := hide (((unhide R29).alloc _).grown (unhide HGR) (hnb _ (by omega)))
                  have S_26 := hide (((unhide R26).alloc _).grown (unhide HGR) (hnb _ (by omega)))
                  have S_D := hide (((unhide RD).alloc _).grown (unhide HGR) (hnb _ (by omega)))
                  have HB6 := hide (grown_below ((unhide RO).alloc _) (unhide HGR) (by simp; omega))
                  have S_5 := hide ((((Below.refl w.heap.size w5).alloc (by omega) (.cells #[.int .i64 m, .int .i64 c'] 26)).alloc (by simp; omega) (.cells #[.int .i64 m, .int .i64 c'] 26)).trans ((unhide HB6).mono (by omega)))
                  have S_W := hide ((unhide HW5).trans (unhide S_5))
                  have S_O : Hid (w6.ownsRow (w.heap.size + 1 + 1 + 1) 26 2 v' (X ++ [((m : Int), c')]).length (flat (X ++ [((m : Int), c')]))) := hide (by rw [List.length_append, flat_append]; exact unhide HO2)
                  clear hnb HGR HB6 HO2 hl
                  have e0 := (unhide S_D).cell 0 _ rfl
                  have e1 := (unhide S_D).cell 1 _ rfl
                  have k0 := (unhide S_26).cell 0 _ rfl
                  have k1 := (unhide S_26).cell 1 _ rfl
                  have k2 := (unhide S_26).frozen 0
                  have k3 := (unhide S_26).frozen 1
                  clear d0 d1 n0 n1 l0 l1 o0 o1
                  go_region
                  go_wp2_with fail
                  go_step3
                  refine ⟨rfl, ?_, ?_⟩
                  · refine JF.mk ?_
                    have hb := below_set (below_set (below_drew (Below.refl w.heap.size w6)) (show w.heap.size ≤ w.heap.size + 1 + 1 by omega) 0 (.int .i64 m)) (show w.heap.size ≤ w.heap.size + 1 + 1 by omega) 1 (.int .i64 c')
                    exact ⟨f, X ++ [((m : Int), c')], b1, ((p, c) :: a1), ((m : Int), c'), A1, cb - 1, (some ⟨g, o, none⟩), ca, rfl, rfl, by omega, by omega, ((unhide HT).below (unhide S_5)).below hb, ((unhide HB5).below (unhide S_5)).below hb, unhide HTU2,
                      ((unhide S_54).setNe (by omega) 0 _).setNe (by omega) 1 _, ((unhide S_29).setNe (by omega) 0 _).setNe (by omega) 1 _, ((unhide S_26).set 0 _).set 1 _, own_set (own_set (unhide S_O) (by omega) 0 _) (by omega) 1 _, by simp at hN ⊢; omega, (unhide S_W).trans hb, by have := (unhide S_5).size; simp; omega⟩
                  · first | (simp [lenOf]; done) | (simp [lenOf]; omega)
        · have hRb : decide (R < 0) = false := decide_eq_false hR
          have HAH := hide (Vc.not_ah.1 fun h => hR ((unhide HLT).2 h))
          clear HLT hR
          have HLE := hide (Vc.ris_le (unhide HTU).br (unhide HAH))
          have HA := HSA
          have HB := HSB
          clear HSA HSB
          rw [List.length_cons] at hca ⊢
          rw [List.length_cons] at hcb ⊢
          have hq1 : ((a1.length : Int) + 1 == 0) = false := beq_eq_false_iff_ne.2 (by omega)
          have hq2 : ((b1.length : Int) + 1 == 0) = false := beq_eq_false_iff_ne.2 (by omega)
          have hq3 : decide (0 < (b1.length : Int) + 1) = true := decide_eq_true (by omega)
          go_wp2_with fail
          refine wp_region_quiet_below (by kernel_rfl) (by kernel_rfl) ?_
          repeat (quiet_step (first | (go_at_call 30; exact Calls.regrown_of (unhide KC _))))
          refine wpQuiet_nil ?_
          intro _ hw'
          obtain ⟨⟨dq, osq⟩, hw''⟩ := hw'
          subst hw''
          have hbg := below_regrown w' dq osq
          have G54 := hide ((unhide H54).after hbg)
          have G29 := hide ((unhide H29).after hbg)
          have G26 := hide ((unhide H26).after hbg)
          have GO5 := hide (own_after (unhide HO5) hbg)
          have GW5 := hide ((unhide HW5).trans (hbg.mono (unhide HW5).size))
          have GA5 := hide ((unhide HA).below (hbg.mono (unhide HW5).size))
          have GB5 := hide ((unhide HB).below (hbg.mono (unhide HW5).size))
          have hs5 := Nat.le_trans hsz hbg.size
          clear H54 H29 H26 HO5 HW5 HA HB hsz hbg
          have H54 := G54
          have H29 := G29
          have H26 := G26
          have HO5 := GO5
          have HW5 := GW5
          have HA5 := GA5
          have HB5 := GB5
          clear G54 G29 G26 GO5 GW5 GA5 GB5
          generalize Go.Sort.grow (redrawn w' dq) osq = w5 at H54 H29 H26 HO5 HW5 HA5 HB5 hs5 ⊢
          have hok := (unhide HTU).aok (p, c) (List.mem_cons_self ..)
          obtain ⟨m, rfl⟩ : ∃ m : Nat, p = (m : Int) := ⟨p.toNat, by unfold Vc.Ok at hok; dsimp only at hok; omega⟩
          have hm : m < 64 := by unfold Vc.Ok at hok; dsimp only at hok; omega
          have hc1 : 1 ≤ c := by unfold Vc.Ok at hok; dsimp only at hok; omega
          have hc2 : c ≤ 1048576 := by unfold Vc.Ok at hok; dsimp only at hok; omega
          obtain ⟨F, hF⟩ : ∃ F, f (m : Int) = F := ⟨_, rfl⟩
          have hF0 : 0 ≤ F := by rw [← hF]; exact ((unhide HTU).f0 _).1
          have hF1 : F ≤ 1048576 := by rw [← hF]; exact ((unhide HTU).f0 _).2
          have HF := hide hF
          obtain ⟨A1, hsl, hA1⟩ := slice1 g o a1.length ca hca
          have HT := hide ((unhide HA5).cut hA1)
          have d0 : w5.cell? ⟨g, o, none⟩ = some (.int .i64 m) := by obtain ⟨_, _, e, _, hcell⟩ := unhide HA5 (by simp); cases e; exact (hcell 0 _ rfl).1
          have d1 : w5.cell? ⟨g, o + 1, none⟩ = some (.int .i64 c) := by obtain ⟨_, _, e, _, hcell⟩ := unhide HA5 (by simp); cases e; exact (hcell 0 _ rfl).2
          have R54 := hide ((unhide H54).alloc (.cells #[.int .i64 m, .int .i64 c] 26))
          have R29 := hide ((unhide H29).alloc (.cells #[.int .i64 m, .int .i64 c] 26))
          have R26 := hide ((unhide H26).alloc (.cells #[.int .i64 m, .int .i64 c] 26))
          have RD := hide (VRow.new w5 26 [.int .i64 m, .int .i64 c])
          have RO := hide ((unhide HO5).alloc (.cells #[.int .i64 m, .int .i64 c] 26))
          have HLT := hide (unhide HO5).lt
          have o0 := (unhide R54).cell m _ (cntF_get _ n m (by have := unhide HN; omega))
          have o1 := (unhide R54).frozen m
          have l0 := (unhide R26).cell 0 _ rfl
          have l1 := (unhide R26).cell 1 _ rfl
          have n0 := new0 w5 (.int .i64 m) (.int .i64 c) 26
          have n1 := new1 w5 (.int .i64 m) (.int .i64 c) 26
          have HWD := hide ((unhide HW5).alloc (unhide HW5).size (.cells #[.int .i64 m, .int .i64 c] 26))
          rw [hF] at o0
          clear hA1 hok HA5 H54 H29 H26 HO5 hF
          by_cases hb1 : c = F + 1
          · subst hb1
            have HTU2 := hide ((unhide HTU).bump (unhide HLE) (show F + 1 = f (m : Int) + 1 by rw [unhide HF]))
            have hw1 : IntKind.i64.wrap (F + 1) = F + 1 := wrap_small (by omega) (by omega)
            go_wp2_with fail
            have S_54 := hide ((unhide R54).set m (.int .i64 (F + 1)))
            rw [cntF_set] at S_54
            have S_29 := hide ((unhide R29).setNe (B := w.heap.size) (by omega) m (.int .i64 (F + 1)))
            have S_26 := hide ((unhide R26).setNe (B := w.heap.size) (by omega) m (.int .i64 (F + 1)))
            have S_D := hide ((unhide RD).setNe (B := w.heap.size) (by omega) m (.int .i64 (F + 1)))
            have S_O := hide (own_set (unhide RO) (B := w.heap.size) (by omega) m (.int .i64 (F + 1)))
            have S_W := hide (below_set (unhide HWD) (Nat.le_refl _) m (.int .i64 (F + 1)))
            have S_5 := hide (below_set ((Below.refl w.heap.size w5).alloc (by omega) (.cells #[.int .i64 m, .int .i64 (F + 1)] 26)) (Nat.le_refl _) m (.int .i64 (F + 1)))
            generalize (w5.alloc (.cells #[.int .i64 m, .int .i64 (F + 1)] 26)).setCell ⟨w.heap.size, m, none⟩ (.int .i64 (F + 1)) = w6 at S_54 S_29 S_26 S_D S_O S_W S_5 ⊢
            have e0 := (unhide S_D).cell 0 _ rfl
            have e1 := (unhide S_D).cell 1 _ rfl
            have k0 := (unhide S_26).cell 0 _ rfl
            have k1 := (unhide S_26).cell 1 _ rfl
            have k2 := (unhide S_26).frozen 0
            have k3 := (unhide S_26).frozen 1
            clear d0 d1 n0 n1 l0 l1 o0 o1
            go_region
            go_wp2_with fail
            go_step3
            refine ⟨rfl, ?_, ?_⟩
            · refine JF.mk ?_
              have hb := below_set (below_set (below_drew (Below.refl w.heap.size w6)) (show w.heap.size ≤ w.heap.size + 1 + 1 by omega) 0 (.int .i64 m)) (show w.heap.size ≤ w.heap.size + 1 + 1 by omega) 1 (.int .i64 (F + 1))
              exact ⟨Vc.upd f (m : Int) (F + 1), X, a1, ((p', c') :: b1), ((m : Int), F + 1), A1, ca - 1, (some ⟨g2, o2, none⟩), cb, rfl, rfl, by omega, by omega, ((unhide HT).below (unhide S_5)).below hb, ((unhide HB5).below (unhide S_5)).below hb, unhide HTU2,
                ((unhide S_54).setNe (by omega) 0 _).setNe (by omega) 1 _, ((unhide S_29).setNe (by omega) 0 _).setNe (by omega) 1 _, ((unhide S_26).set 0 _).set 1 _, own_set (own_set (unhide S_O) (by omega) 0 _) (by omega) 1 _, by simp at hN ⊢; omega, (unhide S_W).trans hb, by have := (unhide S_5).size; simp; omega⟩
            · first | (simp [lenOf]; done) | (simp [lenOf]; omega)
          · have hb2 : (c == F + 1) = false := beq_eq_false_iff_ne.2 hb1
            by_cases hb3 : c < F + 1
            · have HTU2 := hide ((unhide HTU).drop (unhide HLE) (.inl (show c < f (m : Int) + 1 by rw [unhide HF]; exact hb3)))
              have hb4 : decide (F + 1 < c) = false := decide_eq_false (by omega)
              go_wp2_with fail
              have S_54 := R54
              have S_29 := R29
              have S_26 := R26
              have S_D := RD
              have S_O := RO
              have S_W := HWD
              have S_5 := hide ((Below.refl w.heap.size w5).alloc (by omega) (.cells #[.int .i64 m, .int .i64 c] 26))
              generalize w5.alloc (.cells #[.int .i64 m, .int .i64 c] 26) = w6 at S_54 S_29 S_26 S_D S_O S_W S_5 ⊢
              clear R54 R29 R26 RD RO HWD
              have e0 := (unhide S_D).cell 0 _ rfl
              have e1 := (unhide S_D).cell 1 _ rfl
              have k0 := (unhide S_26).cell 0 _ rfl
              have k1 := (unhide S_26).cell 1 _ rfl
              have k2 := (unhide S_26).frozen 0
              have k3 := (unhide S_26).frozen 1
              clear d0 d1 n0 n1 l0 l1 o0 o1
              go_region
              go_wp2_with fail
              go_step3
              refine ⟨rfl, ?_, ?_⟩
              · refine JF.mk ?_
                have hb := below_set (below_set (below_drew (Below.refl w.heap.size w6)) (show w.heap.size ≤ w.heap.size + 1 + 1 by omega) 0 (.int .i64 m)) (show w.heap.size ≤ w.heap.size + 1 + 1 by omega) 1 (.int .i64 c)
                exact ⟨f, X, a1, ((p', c') :: b1), ((m : Int), c), A1, ca - 1, (some ⟨g2, o2, none⟩), cb, rfl, rfl, by omega, by omega, ((unhide HT).below (unhide S_5)).below hb, ((unhide HB5).below (unhide S_5)).below hb, unhide HTU2,
                  ((unhide S_54).setNe (by omega) 0 _).setNe (by omega) 1 _, ((unhide S_29).setNe (by omega) 0 _).setNe (by omega) 1 _, ((unhide S_26).set 0 _).set 1 _, own_set (own_set (unhide S_O) (by omega) 0 _) (by omega) 1 _, by simp at hN ⊢; omega, (unhide S_W).trans hb, by have := (unhide S_5).size; simp; omega⟩
              · first | (simp [lenOf]; done) | (simp [lenOf]; omega)
            · have hb4 : decide (F + 1 < c) = true := decide_eq_true (by omega)
              have hgt : F + 1 < c := by omega
              by_cases hl : (m : Int) = lp ∧ c = lc
              · obtain ⟨rfl, rfl⟩ := hl
                have HTU2 := hide ((unhide HTU).drop (unhide HLE) (.inr ⟨show f (m : Int) + 1 < c by rw [unhide HF]; exact hgt, rfl⟩))
                go_wp2_with fail
                have S_54 := R54
                have S_29 := R29
                have S_26 := R26
                have S_D := RD
                have S_O := RO
                have S_W := HWD
                have S_5 := hide ((Below.refl w.heap.size w5).alloc (by omega) (.cells #[.int .i64 m, .int .i64 c] 26))
                generalize w5.alloc (.cells #[.int .i64 m, .int .i64 c] 26) = w6 at S_54 S_29 S_26 S_D S_O S_W S_5 ⊢
                clear R54 R29 R26 RD RO HWD
                have e0 := (unhide S_D).cell 0 _ rfl
                have e1 := (unhide S_D).cell 1 _ rfl
                have k0 := (unhide S_26).cell 0 _ rfl
                have k1 := (unhide S_26).cell 1 _ rfl
                have k2 := (unhide S_26).frozen 0
                have k3 := (unhide S_26).frozen 1
                clear d0 d1 n0 n1 l0 l1 o0 o1
                go_region
                go_wp2_with fail
                go_step3
                refine ⟨rfl, ?_, ?_⟩
                · refine JF.mk ?_
                  have hb := below_set (below_set (below_drew (Below.refl w.heap.size w6)) (show w.heap.size ≤ w.heap.size + 1 + 1 by omega) 0 (.int .i64 m)) (show w.heap.size ≤ w.heap.size + 1 + 1 by omega) 1 (.int .i64 c)
                  exact ⟨f, X, a1, ((p', c') :: b1), ((m : Int), c), A1, ca - 1, (some ⟨g2, o2, none⟩), cb, rfl, rfl, by omega, by omega, ((unhide HT).below (unhide S_5)).below hb, ((unhide HB5).below (unhide S_5)).below hb, unhide HTU2,
                    ((unhide S_54).setNe (by omega) 0 _).setNe (by omega) 1 _, ((unhide S_29).setNe (by omega) 0 _).setNe (by omega) 1 _, ((unhide S_26).set 0 _).set 1 _, own_set (own_set (unhide S_O) (by omega) 0 _) (by omega) 1 _, by simp at hN ⊢; omega, (unhide S_W).trans hb, by have := (unhide S_5).size; simp; omega⟩
                · first | (simp [lenOf]; done) | (simp [lenOf]; omega)
              · by_cases hlp : (m : Int) = lp
                · subst hlp
                  have hlc : c ≠ lc := fun e => hl ⟨rfl, e⟩
                  have HTU2 := hide ((unhide HTU).push (unhide HLE) (show f (m : Int) + 1 < c by rw [unhide HF]; exact hgt) (fun e => hl ⟨congrArg Prod.fst e, congrArg Prod.snd e⟩))
                  go_wp2_with (at_builtin; refine wpList_append_own _ rfl _ _ 22 rfl (w.heap.size + 1 + 1 + 1) 26 i0 _ 2 16 Try.underlying22 hi hz0 hz1 hz2 rfl (by decide) _ _ _ rfl ((unhide RO).alloc _) ⟨w5.heap.size + 1, 0, none⟩ 1 1 [.int .i64 m, .int .i64 c] rfl rfl (cell_two_new1 _ _ _ _) (by simp [Value.oneCell']) (by unfold maxLen; omega) (by omega) (by simp; omega) ?_; intro v' w6 hown' hgrow _; have HGR := hide hgrow; have HO2 := hide hown'; clear hgrow hown')
                  have hnb : ∀ k, (k < w.heap.size + 1 + 1 + 1 ∨ k = w5.heap.size) → some k ≠ v7.ownBlock := fun k hk e => by have := unhide HLT k e.symm; omega
                  have S_54 := hide (((unhide R54).alloc _).grown (unhide HGR) (hnb _ (by omega)))
                  have S_29 := hide (((unhide R29).alloc _).grown (unhide HGR) (hnb _ (by omega)))
                  have S_26 := hide (((unhide R26).alloc _).grown (unhide HGR) (hnb _ (by omega)))
                  have S_D := hide (((unhide RD).alloc _).grown (unhide HGR) (hnb _ (by omega)))
                  have HB6 := hide (grown_below ((unhide RO).alloc _) (unhide HGR) (by simp; omega))
                  have S_5 := hide ((((Below.refl w.heap.size w5).alloc (by omega) (.cells #[.int .i64 m, .int .i64 c] 26)).alloc (by simp; omega) (.cells #[.int .i64 m, .int .i64 c] 26)).trans ((unhide HB6).mono (by omega)))
                  have S_W := hide ((unhide HW5).trans (unhide S_5))
                  have S_O : Hid (w6.ownsRow (w.heap.size + 1 + 1 + 1) 26 2 v' (X ++ [((m : Int), c)]).length (flat (X ++ [((m : Int), c)]))) := hide (by rw [List.length_append, flat_append]; exact unhide HO2)
                  clear hnb HGR HB6 HO2 hl
                  have e0 := (unhide S_D).cell 0 _ rfl
                  have e1 := (unhide S_D).cell 1 _ rfl
                  have k0 := (unhide S_26).cell 0 _ rfl
                  have k1 := (unhide S_26).cell 1 _ rfl
                  have k2 := (unhide S_26).frozen 0
                  have k3 := (unhide S_26).frozen 1
                  clear d0 d1 n0 n1 l0 l1 o0 o1
                  go_region
                  go_wp2_with fail
                  go_step3
                  refine ⟨rfl, ?_, ?_⟩
                  · refine JF.mk ?_
                    have hb := below_set (below_set (below_drew (Below.refl w.heap.size w6)) (show w.heap.size ≤ w.heap.size + 1 + 1 by omega) 0 (.int .i64 m)) (show w.heap.size ≤ w.heap.size + 1 + 1 by omega) 1 (.int .i64 c)
                    exact ⟨f, X ++ [((m : Int), c)], a1, ((p', c') :: b1), ((m : Int), c), A1, ca - 1, (some ⟨g2, o2, none⟩), cb, rfl, rfl, by omega, by omega, ((unhide HT).below (unhide S_5)).below hb, ((unhide HB5).below (unhide S_5)).below hb, unhide HTU2,
                      ((unhide S_54).setNe (by omega) 0 _).setNe (by omega) 1 _, ((unhide S_29).setNe (by omega) 0 _).setNe (by omega) 1 _, ((unhide S_26).set 0 _).set 1 _, own_set (own_set (unhide S_O) (by omega) 0 _) (by omega) 1 _, by simp at hN ⊢; omega, (unhide S_W).trans hb, by have := (unhide S_5).size; simp; omega⟩
                  · first | (simp [lenOf]; done) | (simp [lenOf]; omega)
                · have HTU2 := hide ((unhide HTU).push (unhide HLE) (show f (m : Int) + 1 < c by rw [unhide HF]; exact hgt) (fun e => hl ⟨congrArg Prod.fst e, congrArg Prod.snd e⟩))
                  go_wp2_with (at_builtin; refine wpList_append_own _ rfl _ _ 22 rfl (w.heap.size + 1 + 1 + 1) 26 i0 _ 2 16 Try.underlying22 hi hz0 hz1 hz2 rfl (by decide) _ _ _ rfl ((unhide RO).alloc _) ⟨w5.heap.size + 1, 0, none⟩ 1 1 [.int .i64 m, .int .i64 c] rfl rfl (cell_two_new1 _ _ _ _) (by simp [Value.oneCell']) (by unfold maxLen; omega) (by omega) (by simp; omega) ?_; intro v' w6 hown' hgrow _; have HGR := hide hgrow; have HO2 := hide hown'; clear hgrow hown')
                  have hnb : ∀ k, (k < w.heap.size + 1 + 1 + 1 ∨ k = w5.heap.size) → some k ≠ v7.ownBlock := fun k hk e => by have := unhide HLT k e.symm; omega
                  have S_54 := hide (((unhide R54).alloc _).grown (unhide HGR) (hnb _ (by omega)))
                  have S_29 := hide (((unhide R29).alloc _).grown (unhide HGR) (hnb _ (by omega)))
                  have S_26 := hide (((unhide R26).alloc _).grown (unhide HGR) (hnb _ (by omega)))
                  have S_D := hide (((unhide RD).alloc _).grown (unhide HGR) (hnb _ (by omega)))
                  have HB6 := hide (grown_below ((unhide RO).alloc _) (unhide HGR) (by simp; omega))
                  have S_5 := hide ((((Below.refl w.heap.size w5).alloc (by omega) (.cells #[.int .i64 m, .int .i64 c] 26)).alloc (by simp; omega) (.cells #[.int .i64 m, .int .i64 c] 26)).trans ((unhide HB6).mono (by omega)))
                  have S_W := hide ((unhide HW5).trans (unhide S_5))
                  have S_O : Hid (w6.ownsRow (w.heap.size + 1 + 1 + 1) 26 2 v' (X ++ [((m : Int), c)]).length (flat (X ++ [((m : Int), c)]))) := hide (by rw [List.length_append, flat_append]; exact unhide HO2)
                  clear hnb HGR HB6 HO2 hl
                  have e0 := (unhide S_D).cell 0 _ rfl
                  have e1 := (unhide S_D).cell 1 _ rfl
                  have k0 := (unhide S_26).cell 0 _ rfl
                  have k1 := (unhide S_26).cell 1 _ rfl
                  have k2 := (unhide S_26).frozen 0
                  have k3 := (unhide S_26).frozen 1
                  clear d0 d1 n0 n1 l0 l1 o0 o1
                  go_region
                  go_wp2_with fail
                  go_step3
                  refine ⟨rfl, ?_, ?_⟩
                  · refine JF.mk ?_
                    have hb := below_set (below_set (below_drew (Below.refl w.heap.size w6)) (show w.heap.size ≤ w.heap.size + 1 + 1 by omega) 0 (.int .i64 m)) (show w.heap.size ≤ w.heap.size + 1 + 1 by omega) 1 (.int .i64 c)
                    exact ⟨f, X ++ [((m : Int), c)], a1, ((p', c') :: b1), ((m : Int), c), A1, ca - 1, (some ⟨g2, o2, none⟩), cb, rfl, rfl, by omega, by omega, ((unhide HT).below (unhide S_5)).below hb, ((unhide HB5).below (unhide S_5)).below hb, unhide HTU2,
                      ((unhide S_54).setNe (by omega) 0 _).setNe (by omega) 1 _, ((unhide S_29).setNe (by omega) 0 _).setNe (by omega) 1 _, ((unhide S_26).set 0 _).set 1 _, own_set (own_set (unhide S_O) (by omega) 0 _) (by omega) 1 _, by simp at hN ⊢; omega, (unhide S_W).trans hb, by have := (unhide S_5).size; simp; omega⟩
                  · first | (simp [lenOf]; done) | (simp [lenOf]; omega)
end Go.Proofs.Ytpcfblpenealbaa
