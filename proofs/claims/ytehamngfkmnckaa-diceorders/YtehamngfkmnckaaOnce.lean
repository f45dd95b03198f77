/-
  Each number once: the law's walk.
-/
import Derived.Test.YtehamngfkmnckaaPrg
namespace Go.Proofs.Ytehamngfkmnckaa
open Go.RowKit

theorem ordI_nat (draw : Int) {N : Nat} (h : N ≤ 1000) : ordI draw N = ints (Dc.order (drawN draw) N) := by
  unfold ordI
  by_cases h0 : N = 0
  · subst h0
    rfl
  · rw [if_neg (by omega), Int.toNat_natCast]
theorem hundred (n : Int) : ∃ K : Nat, K < 100 ∧ wrap64 ((IntKind.u64.wrap n).tmod 100) = (K : Int) := by
  rw [IntKind.wrap_u64]
  have h0 : 0 ≤ n % 18446744073709551616 := Int.emod_nonneg _ (by decide)
  generalize n % 18446744073709551616 = x at h0
  rw [Int.tmod_eq_emod_of_nonneg h0]
  refine ⟨(x % 100).toNat, by omega, ?_⟩
  simp only [wrap64]
  omega

set_option maxRecDepth 100000 in
set_option maxHeartbeats 1000000 in
theorem once_any (P : Prg) (draw n : Int) (hd : I64 draw) (w : World) : Calls Try.prog 5 #[.int .i64 draw, .int .i64 n] w fun e w' => e = .returned (.bool true) ∧ Below w.heap.size w w' := by
  obtain ⟨K, hK, hKn⟩ := hundred n
  have K1 := hide fun W => P.order draw K W hd (by unfold I64; omega)
  rw [ordI_nat draw (by omega)] at K1
  have HO := hide (Dc.order_once (drawN draw) K)
  have hlen : (ints (Dc.order (drawN draw) K)).length = K := by rw [ints_len, Dc.order_len]
  generalize Dc.order (drawN draw) K = L at K1 HO hlen
  have K5 := hide fun W => awake_any P W
  clear P hd
  go_enter Try.func5, Try.ntmps5
  go_wp2_with fail
  try rw [hKn]
  refine (unhide K1 _).mono ?_
  rintro e w1 ⟨r1, c1, rfl, hc1, hs1, hb1⟩
  obtain ⟨wm, hmk, hrm, hbm⟩ := make_bools K (by omega) w1
  have HS := hide hs1
  have HRM := hide hrm
  have HB1 := hide hb1
  have HBM := hide hbm
  have HLEN := hide hlen
  obtain ⟨LI, hLI⟩ : ∃ LI, ints L = LI := ⟨_, rfl⟩
  have HLI := hide hLI
  rw [hLI] at HS HLEN ⊢
  have hlz : ((LI.length : Int) == (K : Int)) = true := by have := unhide HLEN; simp [this]
  have hl100 : LI.length < 100 := by have := unhide HLEN; omega
  clear hs1 hrm hb1 hbm hc1 hLI hlen K1
  go_wp2_with fail
  go_loopw [8] (fun i wr => ∃ (j : Nat) (g : List Bool), j ≤ LI.length ∧ i = .int .i64 j ∧ Hid (g.length = K ∧ Dc.Once g (L.drop j) ∧ VRow wr w1.heap.size 4 (bools g) ∧ Below w1.heap.size w1 wr)) (fun i _ => LI.length - (intOf i).toNat)
  case atStart => exact ⟨0, List.replicate K false, Nat.zero_le _, rfl, hide ⟨by simp, unhide HO, unhide HRM, unhide HBM⟩⟩
  case round =>
    obtain ⟨j, g, hj, rfl, HR⟩ := hrel
    by_cases hlt : j < LI.length
    · have hjz : decide ((j : Int) < (LI.length : Int)) = true := decide_eq_true (by omega)
      have hjz2 : (j : Int) < (LI.length : Int) := by omega
      have hLl : LI.length = L.length := by rw [← unhide HLI, ints_len]
      obtain ⟨x, hx⟩ : ∃ x, L[j]? = some x := ⟨_, List.getElem?_eq_getElem (by omega)⟩
      have hxI : LI[j]? = some (x : Int) := by rw [← unhide HLI, ints, List.getElem?_map, hx]; rfl
      have hdrop : L.drop j = x :: L.drop (j + 1) := by
        rw [List.drop_eq_getElem_cons (by omega), (List.getElem?_eq_some_iff.1 hx).2]
      obtain ⟨hg, hon, hrow, hbel⟩ := unhide HR
      rw [hdrop] at hon
      obtain ⟨hgx, hon2⟩ := hon
      have hxK : x < K := by rw [← hg]; exact (List.getElem?_eq_some_iff.1 hgx).1
      obtain ⟨gb, o, rfl, hgb, hcell⟩ := (unhide HS).after hbel (by omega)
      have x0 := hcell j _ hxI
      have x1 := hrow.cell x _ (bools_at hgx)
      have f1 := hrow.frozen x
      have hd0 : decide ((x : Int) < 0) = false := decide_eq_false (by omega)
      have hd1 : decide ((K : Int) ≤ (x : Int)) = false := decide_eq_false (by omega)
      have hxz : (x : Int) < (K : Int) := by omega
      have HE : Hid ((g.set x true).length = K ∧ Dc.Once (g.set x true) (L.drop (j + 1)) ∧ VRow (wr.setCell ⟨w1.heap.size, x, none⟩ (.bool true)) w1.heap.size 4 (bools (g.set x true)) ∧ Below w1.heap.size w1 (wr.setCell ⟨w1.heap.size, x, none⟩ (.bool true))) := hide ⟨by rw [List.length_set]; exact hg, hon2, by rw [← bools_set]; exact hrow.set x _, below_set hbel (Nat.le_refl _) _ _⟩
      clear hcell hxI hx hdrop hg hrow hbel hgx hon2 hgb hLl
      go_wp2_with fail
      go_roundw
      case rel => exact ⟨j + 1, g.set x true, by omega, by go_num, HE⟩
      case measure => simp [intOf]; omega
    · obtain rfl : j = LI.length := by omega
      have hjz : decide ((LI.length : Int) < (LI.length : Int)) = false := decide_eq_false (by omega)
      have HB := hide (below_grow (unhide HB1) (Nat.le_refl _) (unhide HR).2.2.2)
      clear HR
      go_wp2_with fail
      refine (unhide K5 _).mono ?_
      rintro e w3 ⟨rfl, hb⟩
      have HE := hide (below_grow (unhide HB) (Nat.le_refl _) hb)
      clear hb
      go_wp2_with fail
      go_ret
      exact ⟨rfl, unhide HE⟩
end Go.Proofs.Ytehamngfkmnckaa
