/-
  What Next answers, the program's and the document's: the dot that comes next, or why none does.
-/
import Derived.Test.YthjbkghpfbdbcaaGet
namespace Go.Proofs.Ythjbkghpfbdbcaa
open Go.RowKit

def nextD (ds : List Vc.D) (q : Int) : Vc.D := if Vc.check ds = 0 then (if Vc.dotErr (q, Vc.get ds q + 1) = 0 then (q, Vc.get ds q + 1) else (0, 0)) else (0, 0)
def nextE (ds : List Vc.D) (q : Int) : Int := if Vc.check ds = 0 then Vc.dotErr (q, Vc.get ds q + 1) else Vc.check ds

theorem size24 : (Try.prog.info? 24).map (·.size) = some 2 := by kernel_rfl
theorem one_two (p c : Int) : ∀ v ∈ [Value.int .i64 p, .int .i64 c], v.oneCell' = true := by simp [Value.oneCell']

/-- A dot in a row and a number in a slot. -/
theorem results_dot {fn : Func} {p q : Tmp} (h : fn.results = #[.cell p 24, .tmp q]) (tmps : Array Value) (w : World) (g : Nat) (x y : Value) {v : Value}
    (hp : tmps.getD p undef = .pointer (some ⟨g, 0, none⟩)) (hq : tmps.getD q undef = v) (hr : VRow w g 24 [x, y]) : (results fn tmps).run Try.prog w = .ok (.tuple #[.agg #[x, y], v]) w := by
  rw [results_cell_tmp h, hp, hq]
  simp only [asAddr, Sem.run_pure, Result.andThen_ok, run_loadVar_row w g 24 24 [x, y].toArray (0, 0) _ hr Try.underlying24 rfl (by rw [size24]; rfl)]

theorem ret_dot {a b : Vc.D} {x y : Int} (h : a = b) (h2 : x = y) : Ending.returned (.tuple #[.agg #[.int .i64 a.1, .int .i64 a.2], .int .i64 x]) = .returned (.tuple #[.agg #[.int .i64 b.1, .int .i64 b.2], .int .i64 y]) := by rw [h, h2]

set_option maxRecDepth 100000 in
set_option maxHeartbeats 1000000 in
theorem next_any (a : Option Addr) (cap : Nat) (ds : List Vc.D) (hl : ds.length ≤ 100000) (q : Int) (w : World) (h : Sl w a ds) :
    Calls Try.prog 31 #[.slice a ds.length cap, .int .i64 q] w fun e w' => e = .returned (.tuple #[.agg #[.int .i64 (nextD ds q).1, .int .i64 (nextD ds q).2], .int .i64 (nextE ds q)]) ∧ Below w.heap.size w w' := by
  have HS := hide h
  have HB0 := hide ((Below.refl w.heap.size w).alloc (Nat.le_refl _) (.cells #[.int .i64 0, .int .i64 0] 24))
  have HR0 := hide (VRow.new w 24 [.int .i64 0, .int .i64 0])
  have KC := hide (check_any a cap ds hl _ (h.after (unhide HB0)))
  obtain ⟨D, hD⟩ : ∃ D, nextD ds q = D := ⟨_, rfl⟩
  obtain ⟨E, hE⟩ : ∃ E, nextE ds q = E := ⟨_, rfl⟩
  rw [hD, hE]
  unfold nextD at hD
  unfold nextE at hE
  by_cases hz : Vc.check ds = 0
  · rw [if_pos hz] at hD hE
    rw [hz] at KC
    have KG := hide fun W (h : Sl W a ds) => get_any a cap ds hl q W h
    have hbd := Vc.get_bd ds q
    generalize Vc.get ds q = G at hD hE KG hbd
    have KD := hide (dot_any q (G + 1))
    by_cases he : Vc.dotErr (q, G + 1) = 0
    · rw [if_pos he] at hD
      rw [he] at hE KD
      have HD := hide hD
      have HE := hide hE
      clear h hD hE hz he
      go_enter Try.func31, Try.ntmps31
      go_wp2_with fail
      refine (unhide KC).mono ?_
      rintro e w1 ⟨rfl, hb1⟩
      have HB1 := hide (below_grow (unhide HB0) (Nat.le_refl _) hb1)
      have HR1 := hide ((unhide HR0).below hb1 (lt_new _ _))
      clear hb1
      go_wp2_with fail
      refine (unhide KG _ ((unhide HS).after (unhide HB1))).mono ?_
      rintro e w2 ⟨rfl, hb2⟩
      have HB2 := hide (below_grow (unhide HB1) (Nat.le_refl _) hb2)
      have HR2 := hide ((unhide HR1).below hb2 (unhide HR1).lt)
      clear hb2
      go_wp2_with fail
      refine (unhide KD _).mono ?_
      rintro e w3 ⟨rfl, hb3⟩
      have n0 : w3.cell? ⟨w2.heap.size, 0, none⟩ = some (.int .i64 q) := (hb3.cell (p := ⟨w2.heap.size, 0, none⟩) (lt_new _ _)).trans (new0 _ _ _ _)
      have n1 : w3.cell? ⟨w2.heap.size, 1, none⟩ = some (.int .i64 (G + 1)) := (hb3.cell (p := ⟨w2.heap.size, 1, none⟩) (lt_new _ _)).trans (new1 _ _ _ _)
      have HR3 := hide (((unhide HR2).alloc _).below hb3 (by have := (unhide HR2).lt; simp; omega))
      have HB3 := hide (((unhide HB2).alloc (unhide HB2).size _).trans (hb3.mono (by have := (unhide HB2).size; simp; omega)))
      clear hb3
      go_wp2_with (refine store_row (by rfl) 24 (.tmp 4) (.tmp 27) (by rfl) w.heap.size [.int .i64 q, .int .i64 (G + 1)] (by rfl) (by rfl) 24 [.int .i64 0, .int .i64 0] (unhide HR3) 2 size24 rfl rfl (one_two _ _) ?_; intro w4 ho4 hr4; have HB4 := hide ((unhide HB3).trans (ho4.below (Nat.le_refl _))); have HR4 := hide hr4; clear ho4 hr4)
      refine bodyPost_ret (v := .tuple #[.agg #[.int .i64 q, .int .i64 (G + 1)], .int .i64 0]) ?_ rfl ⟨?_, unhide HB4⟩
      · exact results_dot rfl _ _ w.heap.size _ _ rfl rfl (unhide HR4)
      · exact ret_dot (unhide HD) (unhide HE)
    · rw [if_neg he] at hD
      have HD := hide hD
      have HE := hide hE
      have heb : (Vc.dotErr (q, G + 1) != 0) = true := bne_iff_ne.2 he
      generalize Vc.dotErr (q, G + 1) = X at *
      clear h hD hE hz he
      go_enter Try.func31, Try.ntmps31
      go_wp2_with fail
      refine (unhide KC).mono ?_
      rintro e w1 ⟨rfl, hb1⟩
      have HB1 := hide (below_grow (unhide HB0) (Nat.le_refl _) hb1)
      have HR1 := hide ((unhide HR0).below hb1 (lt_new _ _))
      clear hb1
      go_wp2_with fail
      refine (unhide KG _ ((unhide HS).after (unhide HB1))).mono ?_
      rintro e w2 ⟨rfl, hb2⟩
      have HB2 := hide (below_grow (unhide HB1) (Nat.le_refl _) hb2)
      have HR2 := hide ((unhide HR1).below hb2 (unhide HR1).lt)
      clear hb2
      go_wp2_with fail
      refine (unhide KD _).mono ?_
      rintro e w3 ⟨rfl, hb3⟩
      have HR3 := hide (((unhide HR2).alloc _).below hb3 (by have := (unhide HR2).lt; simp; omega))
      have HB3 := hide (((unhide HB2).alloc (unhide HB2).size _).trans (hb3.mono (by have := (unhide HB2).size; simp; omega)))
      clear hb3
      go_wp2_with (refine store_row (by rfl) 24 (.tmp 4) (.tmp 25) (by rfl) w.heap.size [.int .i64 0, .int .i64 0] (by rfl) (by rfl) 24 [.int .i64 0, .int .i64 0] (unhide HR3) 2 size24 rfl rfl (one_two _ _) ?_; intro w4 ho4 hr4; have HB4 := hide ((unhide HB3).trans (ho4.below (Nat.le_refl _))); have HR4 := hide hr4; clear ho4 hr4)
      refine bodyPost_ret (v := .tuple #[.agg #[.int .i64 0, .int .i64 0], .int .i64 X]) ?_ rfl ⟨?_, unhide HB4⟩
      · exact results_dot rfl _ _ w.heap.size _ _ rfl rfl (unhide HR4)
      · exact ret_dot (unhide HD) (unhide HE)
  · rw [if_neg hz] at hD hE
    have HD := hide hD
    have HE := hide hE
    have hzb : (Vc.check ds != 0) = true := bne_iff_ne.2 hz
    generalize Vc.check ds = C at *
    clear h hD hE hz
    go_enter Try.func31, Try.ntmps31
    go_wp2_with fail
    refine (unhide KC).mono ?_
    rintro e w1 ⟨rfl, hb1⟩
    have HB1 := hide (below_grow (unhide HB0) (Nat.le_refl _) hb1)
    have HR1 := hide ((unhide HR0).below hb1 (lt_new _ _))
    clear hb1
    go_wp2_with (refine store_row (by rfl) 24 (.tmp 4) (.tmp 13) (by rfl) w.heap.size [.int .i64 0, .int .i64 0] (by rfl) (by rfl) 24 [.int .i64 0, .int .i64 0] (unhide HR1) 2 size24 rfl rfl (one_two _ _) ?_; intro w4 ho4 hr4; have HB4 := hide ((unhide HB1).trans (ho4.below (Nat.le_refl _))); have HR4 := hide hr4; clear ho4 hr4)
    refine bodyPost_ret (v := .tuple #[.agg #[.int .i64 0, .int .i64 0], .int .i64 C]) ?_ rfl ⟨?_, unhide HB4⟩
    · exact results_dot rfl _ _ w.heap.size _ _ rfl rfl (unhide HR4)
    · exact ret_dot (unhide HD) (unhide HE)

set_option maxRecDepth 100000 in
set_option maxHeartbeats 1000000 in
theorem refNext_any (a : Option Addr) (cap : Nat) (ds : List Vc.D) (hl : ds.length ≤ 100000) (q : Int) (w : World) (h : Sl w a ds) :
    Calls Try.prog 32 #[.slice a ds.length cap, .int .i64 q] w fun e w' => e = .returned (.tuple #[.agg #[.int .i64 (nextD ds q).1, .int .i64 (nextD ds q).2], .int .i64 (nextE ds q)]) ∧ Below w.heap.size w w' := by
  have HS := hide h
  have HB0 := hide ((Below.refl w.heap.size w).alloc (Nat.le_refl _) (.cells #[.int .i64 0, .int .i64 0] 24))
  have HR0 := hide (VRow.new w 24 [.int .i64 0, .int .i64 0])
  have KC := hide (refCheck_any a cap ds hl _ (h.after (unhide HB0)))
  obtain ⟨D, hD⟩ : ∃ D, nextD ds q = D := ⟨_, rfl⟩
  obtain ⟨E, hE⟩ : ∃ E, nextE ds q = E := ⟨_, rfl⟩
  rw [hD, hE]
  unfold nextD at hD
  unfold nextE at hE
  by_cases hz : Vc.check ds = 0
  · rw [if_pos hz] at hD hE
    rw [hz] at KC
    have KG := hide fun W (h : Sl W a ds) => refGet_any a cap ds hl q W h
    have hbd := Vc.get_bd ds q
    generalize Vc.get ds q = G at hD hE KG hbd
    have KD := hide (refDot_any q (G + 1))
    by_cases he : Vc.dotErr (q, G + 1) = 0
    · rw [if_pos he] at hD
      rw [he] at hE KD
      have HD := hide hD
      have HE := hide hE
      clear h hD hE hz he
      go_enter Try.func32, Try.ntmps32
      go_wp2_with fail
      refine (unhide KC).mono ?_
      rintro e w1 ⟨rfl, hb1⟩
      have HB1 := hide (below_grow (unhide HB0) (Nat.le_refl _) hb1)
      have HR1 := hide ((unhide HR0).below hb1 (lt_new _ _))
      clear hb1
      go_wp2_with fail
      refine (unhide KG _ ((unhide HS).after (unhide HB1))).mono ?_
      rintro e w2 ⟨rfl, hb2⟩
      have HB2 := hide (below_grow (unhide HB1) (Nat.le_refl _) hb2)
      have HR2 := hide ((unhide HR1).below hb2 (unhide HR1).lt)
      clear hb2
      go_wp2_with fail
      refine (unhide KD _).mono ?_
      rintro e w3 ⟨rfl, hb3⟩
      have HR3 := hide ((unhide HR2).below hb3 (unhide HR2).lt)
      have HB3 := hide (below_grow (unhide HB2) (Nat.le_refl _) hb3)
      clear hb3
      go_wp2_with fail
      refine (unhide KG _ ((unhide HS).after (unhide HB3))).mono ?_
      rintro e w5 ⟨rfl, hb5⟩
      have HB5 := hide (below_grow (unhide HB3) (Nat.le_refl _) hb5)
      have HR5 := hide ((unhide HR3).below hb5 (unhide HR3).lt)
      clear hb5
      go_wp2_with (refine store_row (by rfl) 24 (.tmp 4) (.tmp 27) (by rfl) w.heap.size [.int .i64 q, .int .i64 (G + 1)] (by rfl) (by rfl) 24 [.int .i64 0, .int .i64 0] (unhide HR5) 2 size24 rfl rfl (one_two _ _) ?_; intro w4 ho4 hr4; have HB4 := hide ((unhide HB5).trans (ho4.below (Nat.le_refl _))); have HR4 := hide hr4; clear ho4 hr4)
      refine bodyPost_ret (v := .tuple #[.agg #[.int .i64 q, .int .i64 (G + 1)], .int .i64 0]) ?_ rfl ⟨?_, unhide HB4⟩
      · exact results_dot rfl _ _ w.heap.size _ _ rfl rfl (unhide HR4)
      · exact ret_dot (unhide HD) (unhide HE)
    · rw [if_neg he] at hD
      have HD := hide hD
      have HE := hide hE
      have heb : (Vc.dotErr (q, G + 1) != 0) = true := bne_iff_ne.2 he
      generalize Vc.dotErr (q, G + 1) = X at *
      clear h hD hE hz he
      go_enter Try.func32, Try.ntmps32
      go_wp2_with fail
      refine (unhide KC).mono ?_
      rintro e w1 ⟨rfl, hb1⟩
      have HB1 := hide (below_grow (unhide HB0) (Nat.le_refl _) hb1)
      have HR1 := hide ((unhide HR0).below hb1 (lt_new _ _))
      clear hb1
      go_wp2_with fail
      refine (unhide KG _ ((unhide HS).after (unhide HB1))).mono ?_
      rintro e w2 ⟨rfl, hb2⟩
      have HB2 := hide (below_grow (unhide HB1) (Nat.le_refl _) hb2)
      have HR2 := hide ((unhide HR1).below hb2 (unhide HR1).lt)
      clear hb2
      go_wp2_with fail
      refine (unhide KD _).mono ?_
      rintro e w3 ⟨rfl, hb3⟩
      have HR3 := hide ((unhide HR2).below hb3 (unhide HR2).lt)
      have HB3 := hide (below_grow (unhide HB2) (Nat.le_refl _) hb3)
      clear hb3
      go_wp2_with (refine store_row (by rfl) 24 (.tmp 4) (.tmp 20) (by rfl) w.heap.size [.int .i64 0, .int .i64 0] (by rfl) (by rfl) 24 [.int .i64 0, .int .i64 0] (unhide HR3) 2 size24 rfl rfl (one_two _ _) ?_; intro w4 ho4 hr4; have HB4 := hide ((unhide HB3).trans (ho4.below (Nat.le_refl _))); have HR4 := hide hr4; clear ho4 hr4)
      refine bodyPost_ret (v := .tuple #[.agg #[.int .i64 0, .int .i64 0], .int .i64 X]) ?_ rfl ⟨?_, unhide HB4⟩
      · exact results_dot rfl _ _ w.heap.size _ _ rfl rfl (unhide HR4)
      · exact ret_dot (unhide HD) (unhide HE)
  · rw [if_neg hz] at hD hE
    have HD := hide hD
    have HE := hide hE
    have hzb : (Vc.check ds != 0) = true := bne_iff_ne.2 hz
    have hzb2 : (Vc.check ds == 0) = false := beq_eq_false_iff_ne.2 hz
    generalize Vc.check ds = C at *
    clear h hD hE hz
    go_enter Try.func32, Try.ntmps32
    go_wp2_with fail
    refine (unhide KC).mono ?_
    rintro e w1 ⟨rfl, hb1⟩
    have HB1 := hide (below_grow (unhide HB0) (Nat.le_refl _) hb1)
    have HR1 := hide ((unhide HR0).below hb1 (lt_new _ _))
    clear hb1
    go_wp2_with (refine store_row (by rfl) 24 (.tmp 4) (.tmp 20) (by rfl) w.heap.size [.int .i64 0, .int .i64 0] (by rfl) (by rfl) 24 [.int .i64 0, .int .i64 0] (unhide HR1) 2 size24 rfl rfl (one_two _ _) ?_; intro w4 ho4 hr4; have HB4 := hide ((unhide HB1).trans (ho4.below (Nat.le_refl _))); have HR4 := hide hr4; clear ho4 hr4)
    refine bodyPost_ret (v := .tuple #[.agg #[.int .i64 0, .int .i64 0], .int .i64 C]) ?_ rfl ⟨?_, unhide HB4⟩
    · exact results_dot rfl _ _ w.heap.size _ _ rfl rfl (unhide HR4)
    · exact ret_dot (unhide HD) (unhide HE)
end Go.Proofs.Ythjbkghpfbdbcaa
