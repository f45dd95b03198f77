/-
  The walk of the statement on what two lists come to together.
-/
import Derived.Test.YthjbkghpfbdbcaaLeast
import Derived.Test.YthjbkghpfbdbcaaRefJoin
import Derived.Deep.RegionHeld3
namespace Go.Proofs.Ythjbkghpfbdbcaa
open Go.RowKit

theorem keepS {W0 w w' : World} {g : Nat} {x y : Value} (hg : g < W0.heap.size) (h : w.cell? ⟨g, 0, none⟩ = some x ∧ w.cell? ⟨g, 1, none⟩ = some y ∧ Below W0.heap.size W0 w) (hb : Below w.heap.size w w') :
    w'.cell? ⟨g, 0, none⟩ = some x ∧ w'.cell? ⟨g, 1, none⟩ = some y ∧ Below W0.heap.size W0 w' := by
  have hgw : g < w.heap.size := Nat.lt_of_lt_of_le hg h.2.2.size
  exact ⟨(hb.cell (p := ⟨g, 0, none⟩) hgw).trans h.1, (hb.cell (p := ⟨g, 1, none⟩) hgw).trans h.2.1, below_grow h.2.2 (Nat.le_refl _) hb⟩
theorem drewS {W0 : World} {g : Nat} {x y : Value} (h0 : W0.cell? ⟨g, 0, none⟩ = some x) (h1 : W0.cell? ⟨g, 1, none⟩ = some y) :
    W0.drew.cell? ⟨g, 0, none⟩ = some x ∧ W0.drew.cell? ⟨g, 1, none⟩ = some y ∧ Below W0.heap.size W0 W0.drew := ⟨h0, h1, below_drew (Below.refl _ _)⟩

theorem end_s {w W0 w' : World} {P Q : Prop} (hb : Below w.heap.size w W0) (h : P ∧ Q ∧ Below W0.heap.size W0 w') : Below w.heap.size w w' := below_grow hb (Nat.le_refl _) h.2.2

set_option maxRecDepth 100000 in
set_option maxHeartbeats 4000000 in
theorem joins_walk (a b : Option Addr) (ca cb : Nat) (xs ys : List Vc.D) (hca : xs.length ≤ ca) (hcb : ys.length ≤ cb) (p c : Int) (w : World) (sa : Sl w a xs) (sb : Sl w b ys) :
    Calls Try.prog 4 #[.slice a xs.length ca, .slice b ys.length cb, .agg #[.int .i64 p, .int .i64 c]] w fun e w' => e = .returned (.bool true) ∧ Below w.heap.size w w' := by
  have HB1 := hide (below_alloc (w := w) (.cells #[.int .i64 p, .int .i64 c] 24))
  have KM := hide (many2 (w.alloc (.cells #[.int .i64 p, .int .i64 c] 24)) a b xs.length ca ys.length cb)
  rw [World.size_alloc] at KM
  have HB := hide ((unhide HB1).alloc (unhide HB1).size (.cells #[.slice a xs.length ca, .slice b ys.length cb] 22))
  have n0 := (below_alloc (w := w.alloc (.cells #[.int .i64 p, .int .i64 c] 24)) (.cells #[.slice a xs.length ca, .slice b ys.length cb] 22)).cell (p := ⟨w.heap.size, 0, none⟩) (lt_new _ _) |>.trans (new0 w (.int .i64 p) (.int .i64 c) 24)
  have n1 := (below_alloc (w := w.alloc (.cells #[.int .i64 p, .int .i64 c] 24)) (.cells #[.slice a xs.length ca, .slice b ys.length cb] 22)).cell (p := ⟨w.heap.size, 1, none⟩) (lt_new _ _) |>.trans (new1 w (.int .i64 p) (.int .i64 c) 24)
  have SA := hide (sa.after (unhide HB))
  have SB := hide (sb.after (unhide HB))
  have HLT : Hid (w.heap.size < ((w.alloc (.cells #[.int .i64 p, .int .i64 c] 24)).alloc (.cells #[.slice a xs.length ca, .slice b ys.length cb] 22)).heap.size) := hide (by simp; omega)
  clear sa sb
  by_cases h8 : 80 < xs.length ∨ 80 < ys.length
  · rw [decide_eq_true h8] at KM
    clear h8
    go_enter Try.func4, Try.ntmps4
    go_wp2_with fail
    refine (unhide KM).mono ?_
    rintro e w0 ⟨rfl, hw⟩
    subst hw
    go_wp2_with fail
    refine (awake_any _).mono ?_
    rintro e w9 ⟨rfl, hb⟩
    replace HB := hide (below_grow (unhide HB) (Nat.le_refl _) hb)
    clear hb
    go_wp2_with fail
    go_ret
    exact ⟨rfl, unhide HB⟩
  · rw [decide_eq_false h8] at KM
    have hx : xs.length ≤ 100000 := by omega
    have hy : ys.length ≤ 100000 := by omega
    clear h8
    go_enter Try.func4, Try.ntmps4
    go_wp2_with fail
    refine (unhide KM).mono ?_
    rintro e w0 ⟨rfl, hw⟩
    subst hw
    go_wp2_with fail
    generalize (w.alloc (.cells #[.int .i64 p, .int .i64 c] 24)).alloc (.cells #[.slice a xs.length ca, .slice b ys.length cb] 22) = W0 at HB SA SB n0 n1 HLT ⊢
    have K1 := hide fun W (h1 : Sl W a xs) (h2 : Sl W b ys) => join_any a b ca cb xs ys hx hy hca hcb W h1 h2
    have K2 := hide fun W (h1 : Sl W a xs) (h2 : Sl W b ys) => refJoin_any a b ca cb xs ys hx hy W h1 h2
    have K3 := hide fun W (h1 : Sl W a xs) (h2 : Sl W b ys) => meet_any a b ca cb xs ys hx hy hca hcb W h1 h2
    have K4 := hide fun W (h1 : Sl W a xs) (h2 : Sl W b ys) => refMeet_any a b ca cb xs ys hx hy W h1 h2
    have K5 := hide fun W (h1 : Sl W a xs) => with_any a ca xs p c hx hca W h1
    have K6 := hide fun W (h1 : Sl W a xs) => refWith_any a ca xs hx p c W h1
    have HJ : Hid ((Vc.joins xs ys).length ≤ 100000) := hide (by have := Vc.joins_len xs ys; omega)
    have HM : Hid ((Vc.meets xs ys).length ≤ 100000) := hide (by have := Vc.meets_len xs ys; omega)
    have HW : Hid ((Vc.joins xs [(p, c)]).length ≤ 100000) := hide (by have := Vc.joins_len xs [(p, c)]; omega)
    generalize Vc.joins xs ys = J at K1 K2 HJ
    generalize Vc.meets xs ys = M at K3 K4 HM
    generalize Vc.joins xs [(p, c)] = V at K5 K6 HW
    clear hx hy hca hcb
    go_region_held3 (fun w' => w'.cell? ⟨w.heap.size, 0, none⟩ = some (.int .i64 p) ∧ w'.cell? ⟨w.heap.size, 1, none⟩ = some (.int .i64 c) ∧ Below W0.heap.size W0 w')
      (first | exact keepS (unhide HLT) (by assumption) (by assumption) | exact drewS n0 n1)
      (first
        | (go_at_call 20; refine (unhide K1 _ ((unhide SA).after (And.right (And.right (by assumption)))) ((unhide SB).after (And.right (And.right (by assumption))))).mono ?_; rintro e w1 ⟨r1, cap1, rfl, _, hsl1, hb1⟩)
        | (go_at_call 21; refine (unhide K2 _ ((unhide SA).after (And.right (And.right (by assumption)))) ((unhide SB).after (And.right (And.right (by assumption))))).mono ?_; rintro e w2 ⟨r2, cap2, rfl, _, hsl2, hb2⟩)
        | (go_at_call_of 19 r5; refine (refSame_is r5 r6 cap5 cap6 _ _ (unhide HW) rfl _ (hsl5.after hb6) hsl6).mono ?_; rintro e w15 ⟨rfl, hb15⟩)
        | (go_at_call_of 19 r3; refine (refSame_is r3 r4 cap3 cap4 _ _ (unhide HM) rfl _ (hsl3.after hb4) hsl4).mono ?_; rintro e w13 ⟨rfl, hb13⟩)
        | (go_at_call_of 19 r1; refine (refSame_is r1 r2 cap1 cap2 _ _ (unhide HJ) rfl _ (hsl1.after hb2) hsl2).mono ?_; rintro e w11 ⟨rfl, hb11⟩)
        | (go_at_call 22; refine (unhide K3 _ ((unhide SA).after (And.right (And.right (by assumption)))) ((unhide SB).after (And.right (And.right (by assumption))))).mono ?_; rintro e w3 ⟨r3, cap3, rfl, _, hsl3, hb3⟩)
        | (go_at_call 23; refine (unhide K4 _ ((unhide SA).after (And.right (And.right (by assumption)))) ((unhide SB).after (And.right (And.right (by assumption))))).mono ?_; rintro e w4 ⟨r4, cap4, rfl, _, hsl4, hb4⟩)
        | (go_at_call 24; refine (unhide K5 _ ((unhide SA).after (And.right (And.right (by assumption))))).mono ?_; rintro e w5 ⟨r5, cap5, rfl, _, hsl5, hb5⟩)
        | (go_at_call 25; refine (unhide K6 _ ((unhide SA).after (And.right (And.right (by assumption))))).mono ?_; rintro e w6 ⟨r6, cap6, rfl, _, hsl6, hb6⟩)
        | (go_at_call 10; refine (awake_any _).mono ?_; rintro e w16 ⟨rfl, hb16⟩))
    go_wp2_with fail
    go_ret
    exact ⟨rfl, end_s (unhide HB) (by assumption)⟩
end Go.Proofs.Ythjbkghpfbdbcaa
