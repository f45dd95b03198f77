/-
  The walk of the statement on which dot comes next.
-/
import Derived.Test.YthjbkghpfbdbcaaJoins
import Derived.Test.YthjbkghpfbdbcaaHas
import Derived.Test.YthjbkghpfbdbcaaNext
namespace Go.Proofs.Ythjbkghpfbdbcaa
open Go.RowKit

theorem next_ok {ds : List Vc.D} {q : Int} (h : nextE ds q = 0) : Vc.check ds = 0 ∧ Vc.dotErr (q, Vc.get ds q + 1) = 0 ∧ nextD ds q = (q, Vc.get ds q + 1) := by
  unfold nextE at h
  by_cases hz : Vc.check ds = 0
  · rw [if_pos hz] at h
    refine ⟨hz, h, ?_⟩
    unfold nextD
    rw [if_pos hz, if_pos h]
  · rw [if_neg hz] at h
    exact absurd h hz
theorem next_new {ds : List Vc.D} {q : Int} (h : nextE ds q = 0) : has ds (nextD ds q) = false := by
  rw [(next_ok h).2.2]
  unfold has
  rw [Bool.and_eq_false_iff]
  right
  exact decide_eq_false (by show ¬ Vc.get ds q + 1 ≤ Vc.get ds q; omega)
theorem next_with {ds : List Vc.D} {q : Int} (h : nextE ds q = 0) : has (Vc.joins ds [nextD ds q]) (nextD ds q) = true := by
  obtain ⟨h1, h2, h3⟩ := next_ok h
  have hb := Vc.get_bd ds q
  rw [h3]
  have hok := (Vc.dotErr_zero _).1 h2
  have hu : Vc.Up (-1) [(q, Vc.get ds q + 1)] := ⟨hok, by have := hok.1; show -1 < q; have : 0 ≤ q := this; omega, trivial⟩
  have hds := (Vc.check_zero ds).1 h1
  have e : Vc.joins ds [(q, Vc.get ds q + 1)] = Vc.join ds [(q, Vc.get ds q + 1)] := joins_vec h1 ((Vc.check_zero _).2 hu)
  rw [e]
  unfold has
  rw [Bool.and_eq_true, decide_eq_true_eq, decide_eq_true_eq]
  refine ⟨by show 1 ≤ Vc.get ds q + 1; omega, ?_⟩
  show Vc.get ds q + 1 ≤ Vc.get (Vc.join ds [(q, Vc.get ds q + 1)]) q
  rw [Vc.get_vec (Vc.join_up hds hu), Vc.join_look hds hu]
  have : Vc.look [(q, Vc.get ds q + 1)] q = Vc.get ds q + 1 := by simp [Vc.look]
  omega

theorem keepS4 {W0 w w' : World} {g k : Nat} {x y : Value} (hg : g < W0.heap.size) (hk : k < W0.heap.size)
    (h : w.cell? ⟨g, 0, none⟩ = some x ∧ w.cell? ⟨g, 1, none⟩ = some y ∧ w.cell? ⟨k, 0, none⟩ = some x ∧ w.cell? ⟨k, 1, none⟩ = some y ∧ Below W0.heap.size W0 w) (hb : Below w.heap.size w w') :
    w'.cell? ⟨g, 0, none⟩ = some x ∧ w'.cell? ⟨g, 1, none⟩ = some y ∧ w'.cell? ⟨k, 0, none⟩ = some x ∧ w'.cell? ⟨k, 1, none⟩ = some y ∧ Below W0.heap.size W0 w' := by
  obtain ⟨h1, h2, h3, h4, h5⟩ := h
  have hgw : g < w.heap.size := Nat.lt_of_lt_of_le hg h5.size
  have hkw : k < w.heap.size := Nat.lt_of_lt_of_le hk h5.size
  exact ⟨(hb.cell (p := ⟨g, 0, none⟩) hgw).trans h1, (hb.cell (p := ⟨g, 1, none⟩) hgw).trans h2, (hb.cell (p := ⟨k, 0, none⟩) hkw).trans h3, (hb.cell (p := ⟨k, 1, none⟩) hkw).trans h4, below_grow h5 (Nat.le_refl _) hb⟩
theorem drewS4 {W0 : World} {g k : Nat} {x y : Value} (h0 : W0.cell? ⟨g, 0, none⟩ = some x) (h1 : W0.cell? ⟨g, 1, none⟩ = some y) (h2 : W0.cell? ⟨k, 0, none⟩ = some x) (h3 : W0.cell? ⟨k, 1, none⟩ = some y) :
    W0.drew.cell? ⟨g, 0, none⟩ = some x ∧ W0.drew.cell? ⟨g, 1, none⟩ = some y ∧ W0.drew.cell? ⟨k, 0, none⟩ = some x ∧ W0.drew.cell? ⟨k, 1, none⟩ = some y ∧ Below W0.heap.size W0 W0.drew := ⟨h0, h1, h2, h3, below_drew (Below.refl _ _)⟩
theorem end_s4 {w W0 w' : World} {P Q R T : Prop} (hb : Below w.heap.size w W0) (h : P ∧ Q ∧ R ∧ T ∧ Below W0.heap.size W0 w') : Below w.heap.size w w' := below_grow hb (Nat.le_refl _) h.2.2.2.2
theorem bel_s4 {W0 w' : World} {P Q R T : Prop} (h : P ∧ Q ∧ R ∧ T ∧ Below W0.heap.size W0 w') : Below W0.heap.size W0 w' := h.2.2.2.2

set_option maxRecDepth 100000 in
set_option maxHeartbeats 4000000 in
theorem next_walk (a : Option Addr) (ca : Nat) (xs : List Vc.D) (hca : xs.length ≤ ca) (q : Int) (w : World) (sa : Sl w a xs) :
    Calls Try.prog 6 #[.slice a xs.length ca, .int .i64 q] w fun e w' => e = .returned (.bool true) ∧ Below w.heap.size w w' := by
  have KM := hide (many1 w a xs.length ca)
  have HB := hide (below_alloc (w := w) (.cells #[.slice a xs.length ca] 22))
  have SA := hide (sa.after (unhide HB))
  clear sa
  by_cases h8 : 80 < xs.length
  · rw [decide_eq_true h8] at KM
    clear h8
    go_enter Try.func6, Try.ntmps6
    go_wp2_with fail
    refine (unhide KM).mono ?_
    rintro e w0 ⟨rfl, hw⟩
    subst hw
    go_wp2_with fail
    refine (awake_any _).mono ?_
    rintro e w9 ⟨rfl, hb⟩
    replace HB := hide (below_grow (unhide HB) (Nat.le_refl _) hb)
    clear hb
    go_wp2_with fail
    go_ret
    exact ⟨rfl, unhide HB⟩
  · rw [decide_eq_false h8] at KM
    have hx : xs.length ≤ 100000 := by omega
    clear h8
    have K1 := hide fun W (h : Sl W a xs) => next_any a ca xs hx q W h
    have K2 := hide fun W (h : Sl W a xs) => refNext_any a ca xs hx q W h
    have K3 := hide fun W (h : Sl W a xs) => has_any a ca xs hx (nextD xs q).1 (nextD xs q).2 W h
    have K4 := hide fun W (h : Sl W a xs) => with_any a ca xs (nextD xs q).1 (nextD xs q).2 hx hca W h
    have HV : Hid ((Vc.joins xs [((nextD xs q).1, (nextD xs q).2)]).length ≤ 100000) := hide (by have := Vc.joins_len xs [((nextD xs q).1, (nextD xs q).2)]; omega)
    have K5 := hide fun W r cap (h : Sl W r (Vc.joins xs [((nextD xs q).1, (nextD xs q).2)])) => has_any r cap (Vc.joins xs [((nextD xs q).1, (nextD xs q).2)]) (unhide HV) (nextD xs q).1 (nextD xs q).2 W h
    by_cases hE : nextE xs q = 0
    · have h1 := next_new hE
      have h2 := next_with hE
      rw [hE] at K1 K2
      rw [show ((nextD xs q).1, (nextD xs q).2) = nextD xs q from rfl] at K3 K4 K5 HV
      rw [h1] at K3
      rw [h2] at K5
      generalize Vc.joins xs [nextD xs q] = V at K4 K5 HV
      clear h1 h2 hE hx hca
      generalize (nextD xs q).1 = p at K1 K2 K3 K4 K5
      generalize (nextD xs q).2 = c at K1 K2 K3 K4 K5
      go_enter Try.func6, Try.ntmps6
      go_wp2_with fail
      refine (unhide KM).mono ?_
      rintro e w0 ⟨rfl, hw⟩
      subst hw
      go_wp2_with fail
      refine (unhide K1 _ (unhide SA)).mono ?_
      rintro e w1 ⟨rfl, hb⟩
      replace HB := hide (below_grow (unhide HB) (Nat.le_refl _) hb)
      replace SA := hide ((unhide SA).after hb)
      clear hb
      go_wp2_with fail
      have HB1 := hide ((unhide HB).alloc (unhide HB).size (.cells #[.int .i64 p, .int .i64 c] 24))
      have SA1 := hide ((unhide SA).after (below_alloc (.cells #[.int .i64 p, .int .i64 c] 24)))
      refine (unhide K2 _ (unhide SA1)).mono ?_
      rintro e w2 ⟨rfl, hb⟩
      have g0 : w2.cell? ⟨w1.heap.size, 0, none⟩ = some (.int .i64 p) := (hb.cell (p := ⟨w1.heap.size, 0, none⟩) (lt_new _ _)).trans (new0 _ _ _ _)
      have g1 : w2.cell? ⟨w1.heap.size, 1, none⟩ = some (.int .i64 c) := (hb.cell (p := ⟨w1.heap.size, 1, none⟩) (lt_new _ _)).trans (new1 _ _ _ _)
      have hlt : w1.heap.size < w2.heap.size := Nat.lt_of_lt_of_le (lt_new _ _) hb.size
      replace HB := hide (below_grow (unhide HB1) (Nat.le_refl _) hb)
      replace SA := hide ((unhide SA1).after hb)
      clear hb HB1 SA1
      go_wp2_with fail
      have m0 := ((below_alloc (w := w2) (.cells #[.int .i64 p, .int .i64 c] 24)).cell (p := ⟨w1.heap.size, 0, none⟩) hlt).trans g0
      have m1 := ((below_alloc (w := w2) (.cells #[.int .i64 p, .int .i64 c] 24)).cell (p := ⟨w1.heap.size, 1, none⟩) hlt).trans g1
      have m2 := new0 w2 (.int .i64 p) (.int .i64 c) 24
      have m3 := new1 w2 (.int .i64 p) (.int .i64 c) 24
      replace SA := hide ((unhide SA).after (below_alloc (.cells #[.int .i64 p, .int .i64 c] 24)))
      replace HB := hide ((unhide HB).alloc (unhide HB).size (.cells #[.int .i64 p, .int .i64 c] 24))
      have HG : Hid (w1.heap.size < (w2.alloc (.cells #[.int .i64 p, .int .i64 c] 24)).heap.size) := hide (by simp; omega)
      have HK : Hid (w2.heap.size < (w2.alloc (.cells #[.int .i64 p, .int .i64 c] 24)).heap.size) := hide (lt_new _ _)
      obtain ⟨W0, hW0⟩ : ∃ W0, w2.alloc (.cells #[.int .i64 p, .int .i64 c] 24) = W0 := ⟨_, rfl⟩
      rw [hW0] at m0 m1 m2 m3 SA HB HG HK ⊢
      clear hW0 g0 g1 hlt
      generalize w1.heap.size = g at m0 m1 HG ⊢
      generalize w2.heap.size = k at m2 m3 HK ⊢
      go_region_held3 (fun w' => w'.cell? ⟨g, 0, none⟩ = some (.int .i64 p) ∧ w'.cell? ⟨g, 1, none⟩ = some (.int .i64 c) ∧ w'.cell? ⟨k, 0, none⟩ = some (.int .i64 p) ∧ w'.cell? ⟨k, 1, none⟩ = some (.int .i64 c) ∧ Below W0.heap.size W0 w')
        (first | exact keepS4 (unhide HG) (unhide HK) (by assumption) (by assumption) | exact drewS4 m0 m1 m2 m3)
        (first
          | (go_at_call_of 15 r5; refine (unhide K5 _ r5 cap5 hsl5).mono ?_; rintro e w6 ⟨rfl, hb6⟩)
          | (go_at_call 15; refine (unhide K3 _ ((unhide SA).after (bel_s4 (by assumption)))).mono ?_; rintro e w4 ⟨rfl, hb4⟩)
          | (go_at_call 24; refine (unhide K4 _ ((unhide SA).after (bel_s4 (by assumption)))).mono ?_; rintro e w5 ⟨r5, cap5, rfl, _, hsl5, hb5⟩))
      rename_i hS
      have z0 := hS.1
      have z1 := hS.2.1
      have z2 := hS.2.2.1
      have z3 := hS.2.2.2.1
      replace HB := hide (end_s4 (unhide HB) hS)
      go_wp2_with fail
      refine (awake_any _).mono ?_
      rintro e w9 ⟨rfl, hb⟩
      replace HB := hide (below_grow (unhide HB) (Nat.le_refl _) hb)
      clear hb
      go_wp2_with fail
      go_ret
      exact ⟨rfl, unhide HB⟩
    · have hEb : (nextE xs q == 0) = false := beq_eq_false_iff_ne.2 hE
      generalize nextE xs q = E at K1 K2 hEb
      clear hE hx hca K3 K4 K5 HV
      generalize (nextD xs q).1 = p at K1 K2
      generalize (nextD xs q).2 = c at K1 K2
      go_enter Try.func6, Try.ntmps6
      go_wp2_with fail
      refine (unhide KM).mono ?_
      rintro e w0 ⟨rfl, hw⟩
      subst hw
      go_wp2_with fail
      refine (unhide K1 _ (unhide SA)).mono ?_
      rintro e w1 ⟨rfl, hb⟩
      replace HB := hide (below_grow (unhide HB) (Nat.le_refl _) hb)
      replace SA := hide ((unhide SA).after hb)
      clear hb
      go_wp2_with fail
      have HB1 := hide ((unhide HB).alloc (unhide HB).size (.cells #[.int .i64 p, .int .i64 c] 24))
      have SA1 := hide ((unhide SA).after (below_alloc (.cells #[.int .i64 p, .int .i64 c] 24)))
      refine (unhide K2 _ (unhide SA1)).mono ?_
      rintro e w2 ⟨rfl, hb⟩
      have g0 : w2.cell? ⟨w1.heap.size, 0, none⟩ = some (.int .i64 p) := (hb.cell (p := ⟨w1.heap.size, 0, none⟩) (lt_new _ _)).trans (new0 _ _ _ _)
      have g1 : w2.cell? ⟨w1.heap.size, 1, none⟩ = some (.int .i64 c) := (hb.cell (p := ⟨w1.heap.size, 1, none⟩) (lt_new _ _)).trans (new1 _ _ _ _)
      have hlt : w1.heap.size < w2.heap.size := Nat.lt_of_lt_of_le (lt_new _ _) hb.size
      replace HB := hide (below_grow (unhide HB1) (Nat.le_refl _) hb)
      clear hb HB1 SA1
      go_wp2_with fail
      have m0 := ((below_alloc (w := w2) (.cells #[.int .i64 p, .int .i64 c] 24)).cell (p := ⟨w1.heap.size, 0, none⟩) hlt).trans g0
      have m1 := ((below_alloc (w := w2) (.cells #[.int .i64 p, .int .i64 c] 24)).cell (p := ⟨w1.heap.size, 1, none⟩) hlt).trans g1
      have m2 := new0 w2 (.int .i64 p) (.int .i64 c) 24
      have m3 := new1 w2 (.int .i64 p) (.int .i64 c) 24
      replace HB := hide ((unhide HB).alloc (unhide HB).size (.cells #[.int .i64 p, .int .i64 c] 24))
      obtain ⟨W0, hW0⟩ : ∃ W0, w2.alloc (.cells #[.int .i64 p, .int .i64 c] 24) = W0 := ⟨_, rfl⟩
      rw [hW0] at m0 m1 m2 m3 HB ⊢
      clear hW0 g0 g1 hlt SA
      generalize w1.heap.size = g at m0 m1 ⊢
      generalize w2.heap.size = k at m2 m3 ⊢
      go_quiet (fail)
      go_wp2_with fail
      refine (awake_any _).mono ?_
      rintro e w9 ⟨rfl, hb⟩
      replace HB := hide (below_grow (below_drewN (unhide HB) _) (Nat.le_refl _) hb)
      clear hb
      go_wp2_with fail
      go_ret
      exact ⟨rfl, unhide HB⟩
end Go.Proofs.Ythjbkghpfbdbcaa
