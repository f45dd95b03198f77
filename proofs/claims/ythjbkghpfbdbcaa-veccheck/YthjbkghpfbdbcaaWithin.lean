/-
  What Within and Compare answer: whether one vector has all that another one has, and how two stand to one another; nothing that lay in memory turns.
-/
import Derived.Test.YthjbkghpfbdbcaaJoin
namespace Go.Proofs.Ythjbkghpfbdbcaa
open Go.RowKit Go.Shelf

attribute [local go_sem] Oper.semAt_some

theorem within_vec {xs ys : List Vc.D} (h : Vc.check xs = 0 ∧ Vc.check ys = 0) : Vc.within xs ys = (Vc.sides xs ys).all Vc.le := by
  unfold Vc.within
  rw [h.1, h.2]
  rfl
theorem within_not {xs ys : List Vc.D} (h : ¬ (Vc.check xs = 0 ∧ Vc.check ys = 0)) : Vc.within xs ys = false := by
  cases hw : Vc.within xs ys with
  | false => rfl
  | true =>
    have := (Vc.within_iff xs ys).1 hw
    exact absurd ⟨(Vc.check_zero xs).2 this.1, (Vc.check_zero ys).2 this.2.1⟩ h
theorem all_prefix {pre L : List (Vc.D × Vc.D)} (h : pre <+: L) (hp : pre.all Vc.le = false) : L.all Vc.le = false := by
  obtain ⟨r, rfl⟩ := h
  rw [List.all_append, hp, Bool.false_and]
theorem all_snoc (pre : List (Vc.D × Vc.D)) (s : Vc.D × Vc.D) : (pre ++ [s]).all Vc.le = (pre.all Vc.le && Vc.le s) := by simp [List.all_append]

/-- A result that is one cell of memory. -/
theorem results_cell_bool (tmps : Array Value) (w : World) (g : Nat) (v : Bool) (hp : tmps.getD 4 undef = .pointer (some ⟨g, 0, none⟩)) (hc : w.cell? ⟨g, 0, none⟩ = some (.bool v)) : (results Try.f26 tmps).run Try.prog w = .ok (.bool v) w := by
  have hp' : tmps[4]?.getD undef = .pointer (some ⟨g, 0, none⟩) := by simpa using hp
  simp [results, hp', asAddr]
  go_simp

/-- Whether all are so, under a name. -/
def allLe (l : List (Vc.D × Vc.D)) : Bool := l.all Vc.le

set_option maxRecDepth 100000 in
set_option maxHeartbeats 2000000 in
theorem within_in (a b : Option Addr) (ca cb : Nat) (xs ys : List Vc.D) (hx : xs.length ≤ 100000) (hy : ys.length ≤ 100000) (hca : xs.length ≤ ca) (hcb : ys.length ≤ cb) (w : World) (sa : Sl w a xs) (sb : Sl w b ys) :
    CallsIn Fence.wide 3 Try.prog 26 #[.slice a xs.length ca, .slice b ys.length cb] w fun e w' => e = .returned (.bool (Vc.within xs ys)) ∧ Below w.heap.size w w' := by
  have h35 : Fence.wide.fn 35 := trivial
  have h36 : Fence.wide.fn 36 := trivial
  have HBa := hide ((Below.refl w.heap.size w).alloc (Nat.le_refl _) (.cells #[.bool false] 4))
  have KV := hide (vectors_any a b ca cb xs ys hx hy _ (sa.after (unhide HBa)) (sb.after (unhide HBa)))
  have HSA := hide sa.b
  have HSB := hide sb.b
  have HBx := hide (Boxed.new w 4 (.bool false))
  clear sa sb
  by_cases hv : isVec xs ys = true
  · have hvs := (isVec_iff xs ys).1 hv
    have ua := (Vc.check_zero xs).1 hvs.1
    have ub := (Vc.check_zero ys).1 hvs.2
    have HJ : Hid (Vc.within xs ys = allLe (Vc.sides xs ys)) := hide (within_vec hvs)
    have hla := Vc.vec_len ua
    have hlb := Vc.vec_len ub
    have HUA := hide ua
    have HUB := hide ub
    rw [hv] at KV
    generalize Vc.within xs ys = R at HJ ⊢
    clear hv hvs ua ub
    refine callsIn_of_wp_marks Try.func26 rfl trivial ?_ rfl
    simp only [Try.ntmps26, List.size_toArray, List.length_cons, List.length_nil, Nat.reduceAdd, Nat.reduceSub, Array.replicate_succ, Array.replicate_zero, List.push_toArray, List.append_toArray, List.nil_append, List.cons_append]
    gi_wp2_with (first
      | (gi_at_call 35; refine (callsIn_wide.2 (unhide KV)).mono ?_; rintro e w1 ⟨rfl, hb1⟩; have HB1 := hide (below_grow (unhide HBa) (Nat.le_refl _) hb1); have HX1 := hide ((hb1.block w.heap.size (lt_new _ _)).trans (unhide HBx)); clear hb1)
      | (gi_at_call 36; refine (sides_in Fence.wide 2 h36 rfl _ _ _ _ _ _ _).mono ?_; rintro e w' ⟨rfl, rfl⟩))
    have hs1 := (unhide HB1).size
    have hx1 : w.heap.size < w1.heap.size := Boxed.lt (unhide HX1)
    have bO := (Boxed.alloc (unhide HX1) (.cells #[.slice a xs.length ca] 22)).alloc (.cells #[.slice b ys.length cb] 22)
    have bA := (Boxed.new w1 22 (.slice a xs.length ca)).alloc (.cells #[.slice b ys.length cb] 22)
    have bB := Boxed.new (w1.alloc (.cells #[.slice a xs.length ca] 22)) 22 (.slice b ys.length cb)
    simp only [World.size_alloc] at bA bB
    have hB0 : Below w.heap.size w ((w1.alloc (.cells #[.slice a xs.length ca] 22)).alloc (.cells #[.slice b ys.length cb] 22)) := ((unhide HB1).alloc hs1 _).alloc (by simp; omega) _
    have hsz : ((w1.alloc (.cells #[.slice a xs.length ca] 22)).alloc (.cells #[.slice b ys.length cb] 22)).heap.size = w1.heap.size + 2 := by simp
    obtain ⟨W0, hW0⟩ : ∃ W0, (w1.alloc (.cells #[.slice a xs.length ca] 22)).alloc (.cells #[.slice b ys.length cb] 22) = W0 := ⟨_, rfl⟩
    rw [hW0] at bO bA bB hB0 hsz ⊢
    clear hW0
    refine wpIn_rangeFunc_ownH rfl (by decide) (gf := 39) (lb := #[.pointer (some ⟨w1.heap.size, 0, none⟩), .pointer (some ⟨w1.heap.size + 1, 0, none⟩)]) rfl trivial (enters_of Try.func39 (by kernel_rfl) rfl)
      (sides_stops 2 (Nat.le_refl _) w1.heap.size (w1.heap.size + 1) w.heap.size a b ca cb xs ys hla hlb hca hcb (unhide HUA) (unhide HUB) W0 hB0.size bA bB ((unhide HSA).below hB0) ((unhide HSB).below hB0)) belowK_t (belowK_b (by omega)) (Below.refl _ _) (fun _ => rfl)
      (fun pre W => (allLe pre = true ∧ Boxed W w.heap.size 4 (.bool false)) ∧ Below w.heap.size w W)
      (fun cd pre W => (cd = .ret ∧ allLe pre = false ∧ Boxed W w.heap.size 4 (.bool false)) ∧ Below w.heap.size w W)
      (OwnFrom.and (OwnFrom.and (ownFrom_pure _ _) (Own.from (boxed_own _ _ _) _)) (ownFrom_below (Nat.le_refl _) (by omega)))
      (fun cd => OwnFrom.and (OwnFrom.and (ownFrom_pure _ _) (OwnFrom.and (ownFrom_pure _ _) (Own.from (boxed_own _ _ _) _))) (ownFrom_below (Nat.le_refl _) (by omega)))
      ⟨⟨rfl, bO⟩, hB0⟩
      (fun s a' W => ∃ Bx, w.heap.size < Bx ∧ VRow W Bx 24 [.int .i64 s.1.1, .int .i64 s.1.2] ∧ VRow W (Bx + 1) 24 [.int .i64 s.2.1, .int .i64 s.2.2] ∧ a' = { tmps := #[.slice a xs.length ca, .slice b ys.length cb, undef, undef, .pointer (some ⟨w.heap.size, 0, none⟩), .pointer (some ⟨Bx, 0, none⟩), .pointer (some ⟨Bx + 1, 0, none⟩), .slice a xs.length ca, .slice b ys.length cb, .bool true, .bool false, .slice a xs.length ca, .slice b ys.length cb, .func (.func 39) #[] #[.pointer (some ⟨w1.heap.size, 0, none⟩), .pointer (some ⟨w1.heap.size + 1, 0, none⟩)], dotV s.1, dotV s.2, undef, undef, undef, undef, undef], defers := [] })
      (fun s a' _ X Y row hs hg hr => by obtain ⟨Bx, h1, h2, h3, h4⟩ := hs; exact ⟨Bx, h1, VRow.own Bx 24 _ () X Y row h2 hg (fun r e => (hr r e).2), VRow.own (Bx + 1) 24 _ () X Y row h3 hg (fun r e => (hr r e).2), h4⟩)
      ?assign ?body ?done ?stop
    case assign =>
      rintro l pre ⟨⟨p, c⟩, ⟨p', c'⟩⟩ W K ⟨⟨hal, hv⟩, hB⟩ hK
      simp only [dotV]
      gi_wp2
      have hsW := hB.size
      exact hK _ _ (((KeepsOthers.alloc _ _).trans (KeepsOthers.alloc _ _)).from _) (((Below.refl _ W).alloc hsW _).alloc (by simp; omega) _) ⟨⟨hal, (hv.alloc _).alloc _⟩, (hB.alloc hsW _).alloc (by simp; omega) _⟩
        ⟨W.heap.size, hv.lt, (VRow.new W 24 [.int .i64 p, .int .i64 c]).alloc _, VRow.newAt (vs := [.int .i64 p', .int .i64 c']) (by simp), rfl⟩
    case body =>
      rintro l pre ⟨⟨p, c⟩, ⟨p', c'⟩⟩ a' W hl _ ⟨⟨hal, hv⟩, hB⟩ ⟨Bx, hBx, hX, hY, rfl⟩ hlt
      have hc := hv.cell
      have hf := hv.frozen
      have x1 : W.cell? ⟨Bx, 1, none⟩ = some (.int .i64 c) := hX.cell 1 _ rfl
      have y1 : W.cell? ⟨Bx + 1, 1, none⟩ = some (.int .i64 c') := hY.cell 1 _ rfl
      have HAL := hide hal
      have HS := hide (hv.set (.bool false))
      clear hX hY hal
      by_cases hcc : c ≤ c'
      · have hgd : ¬ c' < c := by omega
        have HN : Hid (allLe (pre ++ [((p, c), (p', c'))]) = true) := hide (by unfold allLe; rw [all_snoc]; show (allLe pre && decide (c ≤ c')) = true; rw [unhide HAL, decide_eq_true hcc]; rfl)
        gi_wp2_with fail
        exact ⟨KeepsFrom.refl _ _, Below.refl _ _, ⟨unhide HN, hv⟩, hB⟩
      · have hgd : c' < c := by omega
        have HN : Hid (allLe (pre ++ [((p, c), (p', c'))]) = false) := hide (by unfold allLe; rw [all_snoc]; show (allLe pre && decide (c ≤ c')) = false; rw [decide_eq_false hcc, Bool.and_false])
        gi_wp2_with fail
        exact ⟨(KeepsOthers.setCell _ _ _).from _, ⟨rfl, unhide HN, unhide HS⟩, hB.setCell (p := ⟨w.heap.size, 0, none⟩) (Nat.le_refl _) _⟩
    case done =>
      rintro D zs W hD rfl ⟨⟨hal, hv⟩, hB⟩ hK
      have hc := hv.cell
      have hf := hv.frozen
      have HR : Hid (R = true) := hide (by rw [unhide HJ, hal])
      clear hal
      have HV := hide (hv.set (.bool true))
      have HK : Hid ((W.setCell ⟨w.heap.size, 0, none⟩ (.bool true)).heap[D]? = some (.deferred (some []))) := hide ((KeepsOthers.setCell W ⟨w.heap.size, 0, none⟩ (.bool true)).same _ _ hK rfl)
      have HBs := hide (hB.setCell (p := ⟨w.heap.size, 0, none⟩) (Nat.le_refl _) (.bool true))
      gi_wp2
      generalize W.setCell ⟨w.heap.size, 0, none⟩ (.bool true) = W5 at HV HK HBs ⊢
      refine ⟨by simp, .inl ⟨_, _, rfl, run_takeDeferred (unhide HK), ?_⟩⟩
      have hbl := belowK_b (w := w) (n₀ := w.heap.size) (Nat.le_refl _) W5 D _ (.deferred none) (by omega) (unhide HK) rfl rfl
      refine ⟨_, results_cell_bool _ _ w.heap.size true rfl ?_, ret_bool (unhide HR).symm, (unhide HBs).trans hbl⟩
      exact cell_kept (unhide HV).cell (grownBy_putObj' W5 D (.deferred none)) (fun r e => by cases e; exact ⟨_, unhide HK, rfl⟩)
    case stop =>
      rintro D cd pre W hD hSp ⟨⟨rfl, hal, hv⟩, hB⟩ hK
      have hc := hv.cell
      have HR : Hid (R = false) := hide (by rw [unhide HJ]; exact all_prefix hSp hal)
      clear hal
      gi_wp2
      refine ⟨by simp, .inl ⟨_, _, rfl, run_takeDeferred hK, ?_⟩⟩
      have hbl := belowK_b (w := w) (n₀ := w.heap.size) (Nat.le_refl _) W D _ (.deferred none) (by omega) hK rfl rfl
      refine ⟨_, results_cell_bool _ _ w.heap.size false rfl ?_, ret_bool (unhide HR).symm, hB.trans hbl⟩
      exact cell_kept hc (grownBy_putObj' W D (.deferred none)) (fun r e => by cases e; exact ⟨_, hK, rfl⟩)
  · have hvs : ¬ (Vc.check xs = 0 ∧ Vc.check ys = 0) := fun h => hv ((isVec_iff xs ys).2 h)
    have hvf : isVec xs ys = false := by cases h : isVec xs ys with
      | false => rfl
      | true => exact absurd h hv
    rw [hvf] at KV
    rw [within_not hvs]
    clear hv hvs hvf
    refine callsIn_of_wp_marks Try.func26 rfl trivial ?_ rfl
    simp only [Try.ntmps26, List.size_toArray, List.length_cons, List.length_nil, Nat.reduceAdd, Nat.reduceSub, Array.replicate_succ, Array.replicate_zero, List.push_toArray, List.append_toArray, List.nil_append, List.cons_append]
    gi_wp2_with (gi_at_call 35; refine (callsIn_wide.2 (unhide KV)).mono ?_; rintro e w1 ⟨rfl, hb1⟩; have HB1 := hide (below_grow (unhide HBa) (Nat.le_refl _) hb1); have HX1 : Hid (Boxed w1 w.heap.size 4 (.bool false)) := hide ((hb1.block w.heap.size (lt_new _ _)).trans (unhide HBx)); have hc1 := (unhide HX1).cell; have hf1 := (unhide HX1).frozen; clear hb1)
    exact ⟨_, results_cell_bool _ _ w.heap.size false rfl ((unhide HX1).set _).cell, rfl, (unhide HB1).setCell (p := ⟨w.heap.size, 0, none⟩) (Nat.le_refl _) _⟩

theorem within_any (a b : Option Addr) (ca cb : Nat) (xs ys : List Vc.D) (hx : xs.length ≤ 100000) (hy : ys.length ≤ 100000) (hca : xs.length ≤ ca) (hcb : ys.length ≤ cb) (w : World) (sa : Sl w a xs) (sb : Sl w b ys) :
    Calls Try.prog 26 #[.slice a xs.length ca, .slice b ys.length cb] w fun e w' => e = .returned (.bool (Vc.within xs ys)) ∧ Below w.heap.size w w' :=
  callsIn_wide.1 (within_in a b ca cb xs ys hx hy hca hcb w sa sb)

set_option maxRecDepth 100000 in
set_option maxHeartbeats 400000 in
theorem compare_any (a b : Option Addr) (ca cb : Nat) (xs ys : List Vc.D) (hx : xs.length ≤ 100000) (hy : ys.length ≤ 100000) (hca : xs.length ≤ ca) (hcb : ys.length ≤ cb) (w : World) (sa : Sl w a xs) (sb : Sl w b ys) :
    Calls Try.prog 28 #[.slice a xs.length ca, .slice b ys.length cb] w fun e w' => e = .returned (.int .i64 (Vc.compare xs ys)) ∧ Below w.heap.size w w' := by
  have K1 := hide (within_any a b ca cb xs ys hx hy hca hcb w sa sb)
  have K2 := hide fun w' (h1 : Sl w' b ys) (h2 : Sl w' a xs) => within_any b a cb ca ys xs hy hx hcb hca w' h1 h2
  have HSA := hide sa
  have HSB := hide sb
  unfold Vc.compare
  clear sa sb hx hy hca hcb
  generalize Vc.within xs ys = X at K1 ⊢
  generalize Vc.within ys xs = Y at K2 ⊢
  cases X <;> cases Y
  all_goals
    go_enter Try.func28, Try.ntmps28
    go_wp2_with fail
    refine (unhide K1).mono ?_
    rintro e w1 ⟨rfl, hb1⟩
    have HB1 := hide hb1
    have HS1 := hide ((unhide HSA).after hb1)
    have HS2 := hide ((unhide HSB).after hb1)
    clear hb1
    go_wp2_with fail
    refine (unhide K2 _ (unhide HS2) (unhide HS1)).mono ?_
    rintro e w2 ⟨rfl, hb2⟩
    have HB2 := hide (below_grow (unhide HB1) (Nat.le_refl _) hb2)
    clear hb2
    go_wp2_with fail
    go_ret
    exact ⟨rfl, unhide HB2⟩

theorem one_sl (w : World) (p c : Int) : Sl (w.alloc (.cells #[.int .i64 p, .int .i64 c] 24)) (some ⟨w.heap.size, 0, none⟩) [(p, c)] := fun _ => by
  refine ⟨w.heap.size, 0, rfl, lt_new _ _, fun j d hj => ?_⟩
  have hj0 : j = 0 := by have := (List.getElem?_eq_some_iff.1 hj).1; simp at this; exact this
  subst hj0
  simp at hj
  subst hj
  exact ⟨new0 _ _ _ _, new1 _ _ _ _⟩

set_option maxRecDepth 100000 in
set_option maxHeartbeats 400000 in
theorem with_any (a : Option Addr) (ca : Nat) (xs : List Vc.D) (p c : Int) (hx : xs.length ≤ 100000) (hca : xs.length ≤ ca) (w : World) (sa : Sl w a xs) :
    Calls Try.prog 24 #[.slice a xs.length ca, .agg #[.int .i64 p, .int .i64 c]] w fun e w' => ∃ r cap, e = .returned (.slice r (Vc.joins xs [(p, c)]).length cap) ∧ (Vc.joins xs [(p, c)]).length ≤ cap ∧ Sl w' r (Vc.joins xs [(p, c)]) ∧ Below w.heap.size w w' := by
  have HB2 := hide (((Below.refl w.heap.size w).alloc (Nat.le_refl _) (.cells #[.int .i64 p, .int .i64 c] 24)).alloc (Nat.le_of_lt (lt_new _ _)) (.cells #[.int .i64 p, .int .i64 c] 24))
  have ho := one_sl (w.alloc (.cells #[.int .i64 p, .int .i64 c] 24)) p c
  rw [World.size_alloc] at ho
  have KJ := hide (join_any a (some ⟨w.heap.size + 1, 0, none⟩) ca 1 xs [(p, c)] hx (by simp) hca (by simp) _ (sa.after (unhide HB2)) ho)
  rw [show [(p, c)].length = 1 from rfl] at KJ
  clear sa ho
  generalize Vc.joins xs [(p, c)] = J at KJ ⊢
  go_enter Try.func24, Try.ntmps24
  go_wp2_with fail
  refine (unhide KJ).mono ?_
  rintro e w1 ⟨r, cap, rfl, hcap, hsl, hb1⟩
  have HB3 := hide (below_grow (unhide HB2) (Nat.le_refl _) hb1)
  have HS3 := hide hsl
  clear hb1 hsl
  go_wp2_with fail
  go_ret
  exact ⟨r, cap, rfl, hcap, unhide HS3, unhide HB3⟩
end Go.Proofs.Ythjbkghpfbdbcaa
