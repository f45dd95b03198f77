/-
  Chapter 8's example.
-/
import Derived.Test.YtbgpdiinkkgieaaPrg
namespace Go.Proofs.Ytbgpdiinkkgieaa
open Go.RowKit

theorem ex1 : learnL [[], []] 0 [(0, 3)] = ([[(0, 3)], []], 0) := by kernel_rfl
theorem ex2 : learnL [[(0, 3)], []] 1 [(0, 2), (1, 1)] = ([[(0, 3)], [(0, 2), (1, 1)]], 0) := by kernel_rfl
theorem ex3 : stableL [[(0, 3)], [(0, 2), (1, 1)]] = [(0, 2)] := by kernel_rfl
theorem ex4 : has [(0, 2)] (0, 2) = true := by kernel_rfl
theorem new_sl (w : World) (ds : List Vc.D) : Sl (w.alloc (.cells (flat ds).toArray 24)) (some ⟨w.heap.size, 0, none⟩) ds := fun _ => by
  have hr := VRow.new w 24 (flat ds)
  refine ⟨w.heap.size, 0, rfl, hr.lt, fun j d hj => ?_⟩
  obtain ⟨h1, h2⟩ := flat_get ds j d hj
  rw [Nat.zero_add]
  exact ⟨hr.cell _ _ h1, hr.cell _ _ h2⟩

set_option maxRecDepth 100000 in
set_option maxHeartbeats 2000000 in
theorem awake_any {M} (P : Prg M) (w : World) : Calls Try.prog 7 #[] w fun e w' => e = .returned (.bool true) ∧ Below w.heap.size w w' := by
  have PP := hide P
  have K0 := hide (P.new 2 w (by omega) (by omega))
  go_enter Try.func7, Try.ntmps7
  go_wp2_with fail
  refine (unhide K0).mono ?_
  rintro e w1 ⟨p, own, rfl, hm, ho, hb⟩
  have HB := hide hb
  have HM : Hid (M w1 p [[], []] own) := hide hm
  have HO := hide ho
  clear hb hm ho K0
  go_wp2_with fail
  have K1 := P.learn (P.after (unhide HM) (below_alloc' (.cells (flat [(0, 3)]).toArray 24))) 0 (some ⟨w1.heap.size, 0, none⟩) 1 [(0, 3)] (by decide) (by decide) (new_sl w1 _) (fun ad e _ h => by injection e with e; subst e; exact Nat.lt_irrefl _ (P.lt (unhide HM) _ h))
  rw [ex1] at K1
  refine K1.mono ?_
  clear K1
  rintro e w2 ⟨own2, rfl, hm, ho, hb⟩
  replace HB := hide (below_grow (unhide HB) (Nat.le_refl _) (below_alloc' (w := w1) (.cells (flat [(0, 3)]).toArray 24)))
  have HO2 := hide (own_beside (unhide HB) (Nat.le_refl _) (unhide HO) ho)
  replace HB := hide (below_beside (unhide HB) (Nat.le_refl _) (unhide HO) hb)
  replace HM := hide hm
  clear hb hm ho HO
  go_wp2_with fail
  have K1 := P.learn (P.after (unhide HM) (below_alloc' (.cells (flat [(0, 2), (1, 1)]).toArray 24))) 1 (some ⟨w2.heap.size, 0, none⟩) 2 [(0, 2), (1, 1)] (by decide) (by decide) (new_sl w2 _) (fun ad e _ h => by injection e with e; subst e; exact Nat.lt_irrefl _ (P.lt (unhide HM) _ h))
  rw [ex2] at K1
  refine K1.mono ?_
  clear K1
  rintro e w3 ⟨own3, rfl, hm, ho, hb⟩
  replace HB := hide (below_grow (unhide HB) (Nat.le_refl _) (below_alloc' (w := w2) (.cells (flat [(0, 2), (1, 1)]).toArray 24)))
  replace HB := hide (below_beside (unhide HB) (Nat.le_refl _) (unhide HO2) hb)
  replace HM := hide hm
  clear hb hm ho HO2
  have K2 := P.stable (unhide HM)
  rw [ex3] at K2
  replace K2 := hide K2
  go_wp2_with fail
  refine (unhide K2).mono ?_
  rintro e w4 ⟨r, c, rfl, hc, hs, _, hb⟩
  replace HM := hide (P.after (unhide HM) hb)
  replace HB := hide (below_grow (unhide HB) (Nat.le_refl _) hb)
  have K3 := P.steady (unhide HM) 0 2
  rw [ex3, ex4] at K3
  replace K3 := hide K3
  obtain ⟨g, o, rfl, hg, hcell⟩ := hs (by decide)
  obtain ⟨x0, x1⟩ := hcell 0 (0, 2) rfl
  rw [Nat.zero_mul, Nat.add_zero] at x0 x1
  clear hb hc hs K2 hcell
  go_wp2_with fail
  refine (unhide K3).mono ?_
  rintro e w5 ⟨rfl, hb⟩
  replace HB := hide (below_grow (unhide HB) (Nat.le_refl _) hb)
  clear hb
  go_wp2_with fail
  go_ret
  exact ⟨rfl, unhide HB⟩
end Go.Proofs.Ytbgpdiinkkgieaa
