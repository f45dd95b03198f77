/-
  What Join answers: of each peer the greater count; nothing that lay in memory turns.
-/
import Derived.Test.YtebjlmnhpfoglaaGreatDoorB04
import Derived.WalkSmall
import Derived.Lib.SliceRun
import Derived.Test.YtebjlmnhpfoglaaGreatDoorB03
import Derived.Outline
import Derived.Deep.MidRow
import Derived.Deep.WholeRow
import Derived.RegionTactic
import Derived.BigRegion
import Derived.OwnWalk
import Derived.Laws.ResultCell
namespace Go.Proofs.YtebjlmnhpfoglaaGreatDoor
open Go.RowKit Go.Shelf

attribute [local go_sem] Oper.semAt_some

def isVec (xs ys : List Vc.D) : Bool := (Vc.check xs == 0) && (Vc.check ys == 0)
theorem isVec_iff (xs ys : List Vc.D) : isVec xs ys = true ↔ Vc.check xs = 0 ∧ Vc.check ys = 0 := by
  unfold isVec
  rw [Bool.and_eq_true, beq_iff_eq, beq_iff_eq]

set_option maxRecDepth 100000 in
set_option maxHeartbeats 400000 in
theorem vectors_any (a b : Option Addr) (ca cb : Nat) (xs ys : List Vc.D) (hx : xs.length ≤ 9223372036854775807) (hy : ys.length ≤ 9223372036854775807) (w : World) (sa : Sl w a xs) (sb : Sl w b ys) :
    Calls Tryz.prog 138 #[.slice a xs.length ca, .slice b ys.length cb] w fun e w' => e = .returned (.bool (isVec xs ys)) ∧ Below w.heap.size w w' := by
  have K1 := hide (check_any a ca xs hx w sa)
  have K2 := hide fun w' (h : Sl w' b ys) => check_any b cb ys hy w' h
  have HSB := hide sb
  unfold isVec
  clear sa sb hx hy
  by_cases hz : Vc.check xs = 0
  · rw [hz] at K1 ⊢
    obtain ⟨C, hC⟩ : ∃ C, Vc.check ys = C := ⟨_, rfl⟩
    rw [hC] at K2 ⊢
    clear hC hz
    go_enter Tryz.func138, Tryz.ntmps138
    go_wp2_with fail
    refine (unhide K1).mono ?_
    rintro e w1 ⟨rfl, hb1⟩
    have HB1 := hide hb1
    have HS1 := hide ((unhide HSB).after hb1)
    clear hb1
    go_wp2_with fail
    refine (unhide K2 _ (unhide HS1)).mono ?_
    rintro e w2 ⟨rfl, hb2⟩
    have HB2 := hide (below_grow (unhide HB1) (Nat.le_refl _) hb2)
    clear hb2
    go_wp2_with fail
    go_ret
    exact ⟨by first | rfl | simp, unhide HB2⟩
  · have hzb : (Vc.check xs == 0) = false := beq_eq_false_iff_ne.2 hz
    rw [hzb, Bool.false_and]
    generalize Vc.check xs = C at *
    clear hz
    go_enter Tryz.func138, Tryz.ntmps138
    go_wp2_with fail
    refine (unhide K1).mono ?_
    rintro e w1 ⟨rfl, hb1⟩
    have HB1 := hide hb1
    clear hb1
    go_wp2_with fail
    go_ret
    exact ⟨rfl, unhide HB1⟩

/-- The cells of dots. -/
def flat : List Vc.D → List Value
  | [] => []
  | d :: l => .int .i64 d.1 :: .int .i64 d.2 :: flat l
theorem flat_len : ∀ l : List Vc.D, (flat l).length = l.length * 2
  | [] => rfl
  | d :: l => by simp [flat, flat_len l]; omega
theorem flat_append : ∀ l m : List Vc.D, flat (l ++ m) = flat l ++ flat m
  | [], _ => rfl
  | d :: l, m => by simp [flat, flat_append l m]
theorem flat_get : ∀ (l : List Vc.D) (j : Nat) (d : Vc.D), l[j]? = some d → (flat l)[j * 2]? = some (.int .i64 d.1) ∧ (flat l)[j * 2 + 1]? = some (.int .i64 d.2)
  | [], j, d, h => by simp at h
  | e :: l, 0, d, h => by
    simp at h
    subst h
    exact ⟨rfl, rfl⟩
  | e :: l, j + 1, d, h => by
    have := flat_get l j d (by simpa using h)
    rw [show (j + 1) * 2 = j * 2 + 1 + 1 by omega]
    simpa [flat] using this

theorem own_sl {W : World} {base : Nat} {v : Value} {n : Nat} {ds : List Vc.D} (hn : ds.length = n) (h : W.ownsRow base 61 2 v n (flat ds)) : ∃ a cap, v = .slice a ds.length cap ∧ ds.length ≤ cap ∧ Sl W a ds := by
  subst hn
  rcases h.2 with ⟨rfl, h0⟩ | ⟨g, cap, cur, rfl, hg, hh, h1, h2, h3, h4⟩
  · exact ⟨none, 0, by rw [h0], by omega, fun h => by omega⟩
  · refine ⟨_, cap, rfl, h1, fun _ => ⟨g, 0, rfl, (Array.getElem?_eq_some_iff.1 hh).1, fun j d hj => ?_⟩⟩
    have hjl : j < ds.length := (List.getElem?_eq_some_iff.1 hj).1
    obtain ⟨f1, f2⟩ := flat_get ds j d hj
    have e1 : ∀ k u, k < ds.length * 2 → (flat ds)[k]? = some u → W.cell? ⟨g, k, none⟩ = some u := by
      intro k u hk hu
      rw [cell_of_row W g k cur 61 (0, 0) hh]
      have h5 : (cur.toList.take (ds.length * 2))[k]? = (flat ds)[k]? := by rw [h4]
      rw [List.getElem?_take_of_lt hk, hu] at h5
      simpa using h5
    rw [Nat.zero_add]
    exact ⟨e1 _ _ (by omega) f1, e1 _ _ (by omega) f2⟩

/-- What lies in blocks that are new. -/
def Fresh (n : Nat) (r : Option Addr) (ds : List Vc.D) : Prop := ∀ ad, r = some ad → 0 < ds.length → n ≤ ad.block
theorem own_slF {W : World} {base : Nat} {v : Value} {n : Nat} {ds : List Vc.D} (hn : ds.length = n) (h : W.ownsRow base 61 2 v n (flat ds)) : ∃ a cap, v = .slice a ds.length cap ∧ ds.length ≤ cap ∧ Sl W a ds ∧ Fresh base a ds := by
  obtain ⟨a, cap, rfl, h1, h2⟩ := own_sl hn h
  refine ⟨a, cap, rfl, h1, h2, fun ad e h0 => ?_⟩
  rcases h.2 with ⟨e1, h0'⟩ | ⟨g, cap', cur, e1, hg, _⟩
  · omega
  · injection e1 with e1
    rw [e] at e1
    injection e1 with e1
    subst e1
    exact hg

theorem sides_stops (n : Nat) (hn : 2 ≤ n) (B1 B2 n₀ : Nat) (a b : Option Addr) (ca cb : Nat) (xs ys : List Vc.D) (hla : xs.length ≤ 64) (hlb : ys.length ≤ 64) (hca : xs.length ≤ ca) (hcb : ys.length ≤ cb)
    (ua : Vc.Up (-1) xs) (ub : Vc.Up (-1) ys) (w : World) (hn₀ : n₀ ≤ w.heap.size) (h1 : Boxed w B1 62 (.slice a xs.length ca)) (h2 : Boxed w B2 62 (.slice b ys.length cb)) (sa : SlB n₀ w a xs) (sb : SlB n₀ w b ys) :
    SeqStopsK Fence.wide n Tryz.prog 159 #[.pointer (some ⟨B1, 0, none⟩), .pointer (some ⟨B2, 0, none⟩)] (fun s : Vc.D × Vc.D => #[dotV s.1, dotV s.2]) (Below n₀) (fun zs => zs = Vc.sides xs ys) (fun pre => pre <+: Vc.sides xs ys) 128 w := fun l J Jx W hW hJ _ hY h0 =>
  sides1_in n hn l B1 B2 n₀ a b ca cb xs ys hla hlb hca hcb ua ub J Jx (fun pre A B h hb => hJ pre A B none h ⟨hb.os, hb.tape, hb.output, hb.size, fun k hk _ => hb.block k hk⟩ (fun r e => by cases e)) hY
    W (Nat.le_trans hn₀ hW.size) ((hW.cell (p := ⟨B1, 0, none⟩) h1.lt).trans h1.cell) ((hW.cell (p := ⟨B2, 0, none⟩) h2.lt).trans h2.cell) (sa.below (hW.mono hn₀)) (sb.below (hW.mono hn₀)) h0

theorem VRow.own {β : Type} (B T : Nat) (vs : List Value) : Own (fun (_ : β) W => VRow W B T vs) := fun _ X _ _ hs hg hrow =>
  (hg.block B hs.lt (fun e' => by obtain ⟨o, ho, hc⟩ := hrow B e'.symm; rw [show X.heap[B]? = _ from hs] at ho; cases ho; cases hc)).trans hs

theorem info61 : (Tryz.prog.info? 61).map (fun i => (i.zero, i.size, i.bytes)) = some (some (.agg #[.int .i64 0, .int .i64 0]), 2, 16) := by kernel_rfl

set_option maxRecDepth 100000 in
set_option maxHeartbeats 2000000 in
theorem join_in (a b : Option Addr) (ca cb : Nat) (xs ys : List Vc.D) (hx : xs.length ≤ 9223372036854775807) (hy : ys.length ≤ 9223372036854775807) (hca : xs.length ≤ ca) (hcb : ys.length ≤ cb) (w : World) (sa : Sl w a xs) (sb : Sl w b ys) :
    CallsIn Fence.wide 3 Tryz.prog 122 #[.slice a xs.length ca, .slice b ys.length cb] w fun e w' => ∃ r cap, e = .returned (.slice r (Vc.joins xs ys).length cap) ∧ (Vc.joins xs ys).length ≤ cap ∧ Sl w' r (Vc.joins xs ys) ∧ Below w.heap.size w w' ∧ Fresh w.heap.size r (Vc.joins xs ys) := by
  have h53 : Fence.wide.fn 138 := trivial
  have h67 : Fence.wide.fn 139 := trivial
  obtain ⟨i0, hi, hz0, hz1, hz2⟩ := info_parts info61
  have KV := hide (vectors_any a b ca cb xs ys hx hy w sa sb)
  have HSA := hide sa.b
  have HSB := hide sb.b
  clear sa sb
  by_cases hv : isVec xs ys = true
  · have hvs := (isVec_iff xs ys).1 hv
    have ua := (Vc.check_zero xs).1 hvs.1
    have ub := (Vc.check_zero ys).1 hvs.2
    have HJ : Hid (Vc.joins xs ys = (Vc.sides xs ys).map Vc.jn) := by unfold Vc.joins; rw [if_pos hvs]; exact hide rfl
    have hla := Vc.vec_len ua
    have hlb := Vc.vec_len ub
    have HUA := hide ua
    have HUB := hide ub
    rw [hv] at KV
    clear hv hvs ua ub
    refine callsIn_of_wp_marks Tryz.func122 rfl trivial ?_ rfl
    simp only [Tryz.ntmps122, List.size_toArray, List.length_cons, List.length_nil, Nat.reduceAdd, Nat.reduceSub, Array.replicate_succ, Array.replicate_zero, List.push_toArray, List.append_toArray, List.nil_append, List.cons_append]
    gi_wp2_with (first
      | (gi_at_call 138; refine (callsIn_wide.2 (unhide KV)).mono ?_; rintro e w1 ⟨rfl, hb1⟩; have HB1 := hide hb1; clear hb1)
      | (gi_at_call 139; refine (sides_in Fence.wide 2 h67 rfl _ _ _ _ _ _ _).mono ?_; rintro e w' ⟨rfl, rfl⟩))
    have hs1 := (unhide HB1).size
    have bO := ((Boxed.new w1 62 (.slice none 0 0)).alloc (.cells #[.slice a xs.length ca] 62)).alloc (.cells #[.slice b ys.length cb] 62)
    have bA := (Boxed.new (w1.alloc (.cells #[.slice none 0 0] 62)) 62 (.slice a xs.length ca)).alloc (.cells #[.slice b ys.length cb] 62)
    have bB := Boxed.new ((w1.alloc (.cells #[.slice none 0 0] 62)).alloc (.cells #[.slice a xs.length ca] 62)) 62 (.slice b ys.length cb)
    simp only [World.size_alloc] at bA bB
    have hB0 : Below w.heap.size w (((w1.alloc (.cells #[.slice none 0 0] 62)).alloc (.cells #[.slice a xs.length ca] 62)).alloc (.cells #[.slice b ys.length cb] 62)) := (((unhide HB1).alloc hs1 _).alloc (by simp; omega) _).alloc (by simp; omega) _
    have hsz : (((w1.alloc (.cells #[.slice none 0 0] 62)).alloc (.cells #[.slice a xs.length ca] 62)).alloc (.cells #[.slice b ys.length cb] 62)).heap.size = w1.heap.size + 3 := by simp
    obtain ⟨W0, hW0⟩ : ∃ W0, ((w1.alloc (.cells #[.slice none 0 0] 62)).alloc (.cells #[.slice a xs.length ca] 62)).alloc (.cells #[.slice b ys.length cb] 62) = W0 := ⟨_, rfl⟩
    rw [hW0] at bO bA bB hB0 hsz ⊢
    clear hW0
    refine wpIn_rangeFunc_ownH rfl (by decide) (gf := 159) (lb := #[.pointer (some ⟨w1.heap.size + 1, 0, none⟩), .pointer (some ⟨w1.heap.size + 1 + 1, 0, none⟩)]) rfl trivial (enters_of Tryz.func159 (by kernel_rfl) rfl)
      (sides_stops 2 (Nat.le_refl _) (w1.heap.size + 1) (w1.heap.size + 1 + 1) w.heap.size a b ca cb xs ys hla hlb hca hcb (unhide HUA) (unhide HUB) W0 hB0.size bA bB ((unhide HSA).below hB0) ((unhide HSB).below hB0)) belowK_t (belowK_b (by omega)) (Below.refl _ _) (fun _ => rfl)
      (fun pre W => (∃ u, Boxed W w1.heap.size 62 u ∧ W.ownsRow w.heap.size 61 2 u pre.length (flat (pre.map Vc.jn)) ∧ True) ∧ Below w.heap.size w W)
      (fun _ _ _ => False)
      (OwnFrom.and (Own.from (holdsRow_own w.heap.size w1.heap.size 62 61 2 (fun pre : List (Vc.D × Vc.D) => pre.length) (fun pre => flat (pre.map Vc.jn)) (fun _ _ => True)) _) (ownFrom_below (Nat.le_refl _) (by omega)))
      (fun _ _ _ _ _ hs _ _ => hs)
      ⟨⟨_, bO, World.ownsRow_nil _ _ _ _, trivial⟩, hB0⟩
      (fun s a' W => ∃ Bx, w1.heap.size < Bx ∧ VRow W Bx 61 [.int .i64 s.1.1, .int .i64 s.1.2] ∧ VRow W (Bx + 1) 61 [.int .i64 s.2.1, .int .i64 s.2.2] ∧ a' = { tmps := #[.slice a xs.length ca, .slice b ys.length cb, undef, undef, .slice none 0 0, .pointer (some ⟨w1.heap.size, 0, none⟩), .pointer (some ⟨Bx, 0, none⟩), .pointer (some ⟨Bx + 1, 0, none⟩), .slice a xs.length ca, .slice b ys.length cb, .bool true, .bool false, .slice a xs.length ca, .slice b ys.length cb, .func (.func 159) #[] #[.pointer (some ⟨w1.heap.size + 1, 0, none⟩), .pointer (some ⟨w1.heap.size + 1 + 1, 0, none⟩)], dotV s.1, dotV s.2, undef, undef, undef, undef, undef, undef, undef, undef, undef, undef, undef, undef], defers := [] })
      (fun s a' _ X Y row hs hg hr => by obtain ⟨Bx, h1, h2, h3, h4⟩ := hs; exact ⟨Bx, h1, VRow.own Bx 61 _ () X Y row h2 hg (fun r e => (hr r e).2), VRow.own (Bx + 1) 61 _ () X Y row h3 hg (fun r e => (hr r e).2), h4⟩)
      ?assign ?body ?done ?stop
    case assign =>
      rintro l pre ⟨⟨p, c⟩, ⟨p', c'⟩⟩ W K ⟨⟨u, hv, hrow, _⟩, hB⟩ hK
      simp only [dotV]
      gi_wp2
      have hsW := hB.size
      exact hK _ _ (((KeepsOthers.alloc _ _).trans (KeepsOthers.alloc _ _)).from _) (((Below.refl _ W).alloc hsW _).alloc (by simp; omega) _) ⟨⟨u, (hv.alloc _).alloc _, (hrow.alloc _).alloc _, trivial⟩, (hB.alloc hsW _).alloc (by simp; omega) _⟩
        ⟨W.heap.size, hv.lt, (VRow.new W 61 [.int .i64 p, .int .i64 c]).alloc _, VRow.newAt (vs := [.int .i64 p', .int .i64 c']) (by simp), rfl⟩
    case body =>
      rintro l pre ⟨⟨p, c⟩, ⟨p', c'⟩⟩ a' W hl _ ⟨⟨u, hv, hrow, _⟩, hB⟩ ⟨Bx, hBx, hX, hY, rfl⟩ hlt
      have hc := hv.cell
      have x0 : W.cell? ⟨Bx, 0, none⟩ = some (.int .i64 p) := hX.cell 0 _ rfl
      have x1 : W.cell? ⟨Bx, 1, none⟩ = some (.int .i64 c) := hX.cell 1 _ rfl
      have y1 : W.cell? ⟨Bx + 1, 1, none⟩ = some (.int .i64 c') := hY.cell 1 _ rfl
      have HJN : Hid (flat ((pre ++ [((p, c), (p', c'))]).map Vc.jn) = flat (pre.map Vc.jn) ++ [.int .i64 p, .int .i64 (max c c')]) := hide (by rw [List.map_append, flat_append]; rfl)
      clear hX hY
      obtain ⟨m, hm⟩ : ∃ m, (if c < c' then c' else c) = m := ⟨_, rfl⟩
      rw [show max c c' = m by rw [← hm]; split <;> omega] at HJN
      gi_wp2_with (gi_at_builtin; refine wpListIn_append_own _ rfl _ _ 62 rfl w.heap.size 61 i0 _ 2 16 Tryz.underlying62 hi hz0 hz1 hz2 rfl (by decide) _ _ _ rfl (hrow.alloc _) ⟨W.heap.size, 0, none⟩ 1 1 [.int .i64 p, .int .i64 m] rfl rfl (cell_two_new _ _ _ _) (by simp [Value.oneCell']) (by unfold maxLen; omega) (by omega) (by have := hB.size; simp; omega) ?_; intro v' w2 hown' hgrow _; obtain ⟨g', cap', rfl⟩ := ownsRow_succ hown'; obtain ⟨hv1, hv2, hr2, hk2, hb2⟩ := hv.appended (by decide) hrow hB.size hs1 hown' hgrow; have hc1 := hv1.cell; have hf1 := hv1.frozen)
      have hr3 : (w2.setCell ⟨w1.heap.size, 0, none⟩ (.slice (some ⟨g', 0, none⟩) (pre.length + 1) cap')).ownsRow w.heap.size 61 2 (.slice (some ⟨g', 0, none⟩) (pre.length + 1) cap') (pre ++ [((p, c), (p', c'))]).length (flat ((pre ++ [((p, c), (p', c'))]).map Vc.jn)) := by
        rw [unhide HJN, List.length_append]
        exact hr2
      exact ⟨hk2.from _, hb2, ⟨_, hv2, by first | exact hr3 | exact ⟨hr3, trivial⟩⟩, hB.trans hb2⟩
    case done =>
      rintro D zs W hD rfl ⟨⟨u, hv, hrow, _⟩, hB⟩ hK
      have hc := hv.cell
      gi_wp2
      refine ⟨by simp, .inl ⟨_, _, rfl, run_takeDeferred hK, ?_⟩⟩
      have hlen : (Vc.joins xs ys).length = (Vc.sides xs ys).length := by rw [unhide HJ]; simp
      rw [← unhide HJ] at hrow
      obtain ⟨r, cap, rfl, hcap, hsl, hfr⟩ := own_slF hlen (ownsRow_putObj hrow (.deferred none) hK rfl)
      exact ⟨_, results_tmp rfl _ _ _, r, cap, rfl, hcap, hsl, hB.trans (belowK_b (w := w) (Nat.le_refl _) W D _ _ (by omega) hK rfl rfl), hfr⟩
    case stop =>
      rintro D c pre W _ _ h _
      exact h.elim
  · have hvs : ¬ (Vc.check xs = 0 ∧ Vc.check ys = 0) := fun h => hv ((isVec_iff xs ys).2 h)
    have hvf : isVec xs ys = false := by cases h : isVec xs ys with
      | false => rfl
      | true => exact absurd h hv
    have HJ : Hid (Vc.joins xs ys = []) := by unfold Vc.joins; rw [if_neg hvs]; exact hide rfl
    rw [hvf] at KV
    clear hv hvs hvf
    refine callsIn_of_wp_marks Tryz.func122 rfl trivial ?_ rfl
    simp only [Tryz.ntmps122, List.size_toArray, List.length_cons, List.length_nil, Nat.reduceAdd, Nat.reduceSub, Array.replicate_succ, Array.replicate_zero, List.push_toArray, List.append_toArray, List.nil_append, List.cons_append]
    gi_wp2_with (gi_at_call 138; refine (callsIn_wide.2 (unhide KV)).mono ?_; rintro e w1 ⟨rfl, hb1⟩; have HB1 := hide hb1; clear hb1)
    exact ⟨_, results_tmp rfl _ _ _, none, 0, by rw [unhide HJ]; rfl, by rw [unhide HJ]; exact Nat.le_refl _, by rw [unhide HJ]; exact Sl.none _ _, unhide HB1, fun _ e => by cases e⟩

theorem join_any (a b : Option Addr) (ca cb : Nat) (xs ys : List Vc.D) (hx : xs.length ≤ 9223372036854775807) (hy : ys.length ≤ 9223372036854775807) (hca : xs.length ≤ ca) (hcb : ys.length ≤ cb) (w : World) (sa : Sl w a xs) (sb : Sl w b ys) :
    Calls Tryz.prog 122 #[.slice a xs.length ca, .slice b ys.length cb] w fun e w' => ∃ r cap, e = .returned (.slice r (Vc.joins xs ys).length cap) ∧ (Vc.joins xs ys).length ≤ cap ∧ Sl w' r (Vc.joins xs ys) ∧ Below w.heap.size w w' :=
  (callsIn_wide.1 (join_in a b ca cb xs ys hx hy hca hcb w sa sb)).mono fun _ _ ⟨r, cap, h1, h2, h3, h4, _⟩ => ⟨r, cap, h1, h2, h3, h4⟩
theorem join_fresh (a b : Option Addr) (ca cb : Nat) (xs ys : List Vc.D) (hx : xs.length ≤ 9223372036854775807) (hy : ys.length ≤ 9223372036854775807) (hca : xs.length ≤ ca) (hcb : ys.length ≤ cb) (w : World) (sa : Sl w a xs) (sb : Sl w b ys) :
    Calls Tryz.prog 122 #[.slice a xs.length ca, .slice b ys.length cb] w fun e w' => ∃ r cap, e = .returned (.slice r (Vc.joins xs ys).length cap) ∧ (Vc.joins xs ys).length ≤ cap ∧ Sl w' r (Vc.joins xs ys) ∧ Below w.heap.size w w' ∧ Fresh w.heap.size r (Vc.joins xs ys) :=
  callsIn_wide.1 (join_in a b ca cb xs ys hx hy hca hcb w sa sb)
end Go.Proofs.YtebjlmnhpfoglaaGreatDoor

/-
  What Get, Has and Size answer, the program's and the document's.
-/

namespace Go.Proofs.YtebjlmnhpfoglaaGreatDoor
open Go.RowKit

theorem look_step (ds : List Vc.D) (k : Nat) (d : Vc.D) (p : Int) (h : ds[k]? = some d) : Vc.look (ds.drop k) p = if d.1 = p then d.2 else Vc.look (ds.drop (k + 1)) p := by
  have hk := (List.getElem?_eq_some_iff.1 h).1
  rw [List.drop_eq_getElem_cons hk, (List.getElem?_eq_some_iff.1 h).2]
  rfl
theorem look_end (ds : List Vc.D) (p : Int) : Vc.look (ds.drop ds.length) p = 0 := by rw [List.drop_length]; rfl

set_option maxRecDepth 100000 in
set_option maxHeartbeats 1000000 in
theorem get_any (a : Option Addr) (cap : Nat) (ds : List Vc.D) (hl : ds.length ≤ 9223372036854775807) (q : Int) (w : World) (h : Sl w a ds) :
    Calls Tryz.prog 121 #[.slice a ds.length cap, .int .i64 q] w fun e w' => e = .returned (.int .i64 (Vc.get ds q)) ∧ Below w.heap.size w w' := by
  have HS := hide h
  have KC := hide (check_any a cap ds hl w h)
  obtain ⟨G, hG⟩ : ∃ G, Vc.get ds q = G := ⟨_, rfl⟩
  rw [hG]
  by_cases hz : Vc.check ds = 0
  · have HC : Hid (G = Vc.look (ds.drop 0) q) := by rw [← hG]; unfold Vc.get; rw [if_pos hz]; exact hide rfl
    rw [hz] at KC
    clear h hG hz
    go_enter Tryz.func121, Tryz.ntmps121
    go_wp2_with (go_at_call 96; refine (unhide KC).mono ?_; rintro e w1 ⟨rfl, hb1⟩; have HB1 := hide hb1; clear hb1)
    go_loopw [12] (fun i wr => ∃ k : Nat, k ≤ ds.length ∧ i = .int .i64 k ∧ G = Vc.look (ds.drop k) q ∧ Below w.heap.size w wr) (fun i _ => ds.length - (intOf i).toNat)
    case atStart => exact ⟨0, Nat.zero_le _, rfl, unhide HC, unhide HB1⟩
    case round =>
      obtain ⟨k, hk, rfl, hc, hb⟩ := hrel
      have HC1 := hide hc
      have HB := hide hb
      clear hc hb HC
      by_cases hlt : k < ds.length
      · obtain ⟨⟨p, c⟩, hd⟩ : ∃ d, ds[k]? = some d := ⟨_, List.getElem?_eq_getElem hlt⟩
        obtain ⟨g, o, rfl, hg, hcell⟩ := unhide HS (by omega)
        have c0 : wr.cell? ⟨g, o + k * 2, none⟩ = some (.int .i64 p) := ((unhide HB).cell (p := ⟨g, o + k * 2, none⟩) hg).trans (hcell k _ hd).1
        have c1 : wr.cell? ⟨g, o + k * 2 + 1, none⟩ = some (.int .i64 c) := ((unhide HB).cell (p := ⟨g, o + k * 2 + 1, none⟩) hg).trans (hcell k _ hd).2
        have HST := hide (look_step ds k (p, c) q hd)
        clear hd hg hcell
        by_cases he : p = q
        · have HNX : Hid (G = c) := by
            have h := unhide HST
            rw [if_pos (show (p, c).1 = q from he)] at h
            exact hide (by rw [unhide HC1, h])
          have heb : (p == q) = true := beq_iff_eq.2 he
          clear he
          go_wp2_with fail
          go_ret
          exact ⟨ret_int (unhide HNX).symm, (unhide HB).alloc (unhide HB).size _⟩
        · have HNX : Hid (G = Vc.look (ds.drop (k + 1)) q) := by
            have h := unhide HST
            rw [if_neg (show ¬ (p, c).1 = q from he)] at h
            exact hide (by rw [unhide HC1, h])
          have heb : (p == q) = false := beq_eq_false_iff_ne.2 he
          clear he
          go_wp2_with fail
          go_roundw
          case rel => exact ⟨k + 1, by omega, by go_num, unhide HNX, (unhide HB).alloc (unhide HB).size _⟩
          case measure => simp [intOf]; omega
      · obtain rfl : k = ds.length := by omega
        have HNX : Hid (G = 0) := by rw [unhide HC1]; exact look_end ds q
        go_wp2_with fail
        go_ret
        exact ⟨ret_int (unhide HNX).symm, unhide HB⟩
  · have HC : Hid (G = 0) := by rw [← hG]; unfold Vc.get; rw [if_neg hz]; exact hide rfl
    have hzb : (Vc.check ds != 0) = true := bne_iff_ne.2 hz
    generalize Vc.check ds = C at *
    clear h hG hz
    go_enter Tryz.func121, Tryz.ntmps121
    go_wp2_with (go_at_call 96; refine (unhide KC).mono ?_; rintro e w1 ⟨rfl, hb1⟩; have HB1 := hide hb1; clear hb1)
    go_ret
    exact ⟨ret_int (unhide HC).symm, unhide HB1⟩

set_option maxRecDepth 100000 in
set_option maxHeartbeats 1000000 in
theorem refGet_any (a : Option Addr) (cap : Nat) (ds : List Vc.D) (hl : ds.length ≤ 9223372036854775807) (q : Int) (w : World) (h : Sl w a ds) :
    Calls Tryz.prog 125 #[.slice a ds.length cap, .int .i64 q] w fun e w' => e = .returned (.int .i64 (Vc.get ds q)) ∧ Below w.heap.size w w' := by
  have HS := hide h
  have KC := hide (refCheck_any a cap ds hl w h)
  obtain ⟨G, hG⟩ : ∃ G, Vc.get ds q = G := ⟨_, rfl⟩
  rw [hG]
  by_cases hz : Vc.check ds = 0
  · have HC : Hid (G = Vc.look (ds.drop 0) q) := by rw [← hG]; unfold Vc.get; rw [if_pos hz]; exact hide rfl
    rw [hz] at KC
    clear h hG hz
    go_enter Tryz.func125, Tryz.ntmps125
    go_wp2_with (go_at_call 104; refine (unhide KC).mono ?_; rintro e w1 ⟨rfl, hb1⟩; have HB1 := hide hb1; clear hb1)
    go_loopw [5] (fun i wr => ∃ k : Nat, k ≤ ds.length ∧ i = .int .i64 k ∧ G = Vc.look (ds.drop k) q ∧ Below w.heap.size w wr) (fun i _ => ds.length - (intOf i).toNat)
    case atStart => exact ⟨0, Nat.zero_le _, rfl, unhide HC, unhide HB1⟩
    case round =>
      obtain ⟨k, hk, rfl, hc, hb⟩ := hrel
      have HC1 := hide hc
      have HB := hide hb
      clear hc hb HC
      by_cases hlt : k < ds.length
      · obtain ⟨⟨p, c⟩, hd⟩ : ∃ d, ds[k]? = some d := ⟨_, List.getElem?_eq_getElem hlt⟩
        obtain ⟨g, o, rfl, hg, hcell⟩ := unhide HS (by omega)
        have c0 : wr.cell? ⟨g, o + k * 2, none⟩ = some (.int .i64 p) := ((unhide HB).cell (p := ⟨g, o + k * 2, none⟩) hg).trans (hcell k _ hd).1
        have c1 : wr.cell? ⟨g, o + k * 2 + 1, none⟩ = some (.int .i64 c) := ((unhide HB).cell (p := ⟨g, o + k * 2 + 1, none⟩) hg).trans (hcell k _ hd).2
        have HST := hide (look_step ds k (p, c) q hd)
        clear hd hg hcell
        by_cases he : p = q
        · have HNX : Hid (G = c) := by
            have h := unhide HST
            rw [if_pos (show (p, c).1 = q from he)] at h
            exact hide (by rw [unhide HC1, h])
          have heb : (p == q) = true := beq_iff_eq.2 he
          clear he
          go_wp2_with fail
          go_ret
          exact ⟨ret_int (unhide HNX).symm, unhide HB⟩
        · have HNX : Hid (G = Vc.look (ds.drop (k + 1)) q) := by
            have h := unhide HST
            rw [if_neg (show ¬ (p, c).1 = q from he)] at h
            exact hide (by rw [unhide HC1, h])
          have heb : (p == q) = false := beq_eq_false_iff_ne.2 he
          clear he
          go_wp2_with fail
          go_roundw
          case rel => exact ⟨k + 1, by omega, by go_num, unhide HNX, unhide HB⟩
          case measure => simp [intOf]; omega
      · obtain rfl : k = ds.length := by omega
        have HNX : Hid (G = 0) := by rw [unhide HC1]; exact look_end ds q
        go_wp2_with fail
        go_ret
        exact ⟨ret_int (unhide HNX).symm, unhide HB⟩
  · have HC : Hid (G = 0) := by rw [← hG]; unfold Vc.get; rw [if_neg hz]; exact hide rfl
    have hzb : (Vc.check ds != 0) = true := bne_iff_ne.2 hz
    generalize Vc.check ds = C at *
    clear h hG hz
    go_enter Tryz.func125, Tryz.ntmps125
    go_wp2_with (go_at_call 104; refine (unhide KC).mono ?_; rintro e w1 ⟨rfl, hb1⟩; have HB1 := hide hb1; clear hb1)
    go_ret
    exact ⟨ret_int (unhide HC).symm, unhide HB1⟩
end Go.Proofs.YtebjlmnhpfoglaaGreatDoor

/-
  Small facts that many walks want: what a world keeps, rows and slices that are kept.
-/

namespace Go.Proofs.YtebjlmnhpfoglaaGreatDoor
open Go.RowKit

theorem below_alloc' {w : World} (o : Obj) : Below w.heap.size w (w.alloc o) := (Below.refl _ _).alloc (Nat.le_refl _) o
theorem own_after {w w' : World} {base e size n : Nat} {v : Value} {xs : List Value} (h : w.ownsRow base e size v n xs) (hb : Below w.heap.size w w') : w'.ownsRow base e size v n xs := by
  refine ⟨h.1, ?_⟩
  rcases h.2 with h2 | ⟨g, cap, cur, e1, e2, e3, e4⟩
  · exact .inl h2
  · exact .inr ⟨g, cap, cur, e1, e2, (hb.block g (Array.getElem?_eq_some_iff.1 e3).1).trans e3, e4⟩
theorem own_set {w : World} {base e size n : Nat} {v : Value} {xs : List Value} (h : w.ownsRow base e size v n xs) {B : Nat} (hB : B < base) (k : Nat) (u : Value) : (w.setCell ⟨B, k, none⟩ u).ownsRow base e size v n xs := by
  refine ⟨h.1, ?_⟩
  rcases h.2 with h2 | ⟨g, cap, cur, e1, e2, e3, e4⟩
  · exact .inl h2
  · exact .inr ⟨g, cap, cur, e1, e2, (heap_setCell_other w ⟨B, k, none⟩ g u (by show g ≠ B; omega)).trans e3, e4⟩
theorem VRow.setNe {W : World} {A T : Nat} {vs : List Value} (h : VRow W A T vs) {B : Nat} (hne : A ≠ B) (k : Nat) (u : Value) : VRow (W.setCell ⟨B, k, none⟩ u) A T vs := (heap_setCell_other W ⟨B, k, none⟩ A u hne).trans h
theorem VRow.after {W W' : World} {A T : Nat} {vs : List Value} (h : VRow W A T vs) (hb : Below W.heap.size W W') : VRow W' A T vs := h.below hb h.lt
theorem VRow.grown {W W' : World} {A T : Nat} {vs : List Value} {row : Option Nat} (h : VRow W A T vs) (hg : W.grownBy W' row) (hne : some A ≠ row) : VRow W' A T vs := (hg.block A h.lt hne).trans h
theorem below_set {w W : World} {n B : Nat} (h : Below n w W) (hB : n ≤ B) (k : Nat) (u : Value) : Below n w (W.setCell ⟨B, k, none⟩ u) := h.setCell (p := ⟨B, k, none⟩) hB u

theorem Sl.only {w w' : World} {B T : Nat} {vs : List Value} {r : Option Addr} {ds : List Vc.D} (h : Sl w r ds) (hr : VRow w B T vs) (hv : ∀ v ∈ vs, ∀ k n, v ≠ .int k n) (ho : Only B w w') : Sl w' r ds := fun h0 => by
  obtain ⟨g, o, e, hg, hc⟩ := h h0
  have hne : g ≠ B := by
    rintro rfl
    obtain ⟨d, hd⟩ : ∃ d, ds[0]? = some d := ⟨_, List.getElem?_eq_getElem h0⟩
    have h1 := (hc 0 d hd).1
    rw [cell_of_row w g _ vs.toArray T (0, 0) hr] at h1
    exact hv _ (List.mem_of_getElem? (by simpa using h1)) _ _ rfl
  have e1 : ∀ k, w'.cell? ⟨g, k, Option.none⟩ = w.cell? ⟨g, k, Option.none⟩ := fun k => World.cell?_of_block (w := w) (ho.block g hne)
  refine ⟨g, o, e, by rw [ho.size]; exact hg, fun j d hj => ?_⟩
  rw [e1, e1]
  exact hc j d hj
theorem two_slices (x y : Option Addr) (a b c d : Nat) : ∀ v ∈ [Value.slice x a b, .slice y c d], ∀ k n, v ≠ .int k n := by
  intro v hv k n e
  subst e
  simp at hv
theorem two_one (x y : Option Addr) (a b c d : Nat) : ∀ v ∈ [Value.slice x a b, .slice y c d], v.oneCell' = true := by simp [Value.oneCell']

theorem Only.trans {B : Nat} {w w' w'' : World} (h : Only B w w') (h' : Only B w' w'') : Only B w w'' :=
  ⟨h'.os.trans h.os, h'.tape.trans h.tape, h'.output.trans h.output, h'.size.trans h.size, fun j hj => (h'.block j hj).trans (h.block j hj)⟩
theorem only_set (w : World) (B k : Nat) (v : Value) : Only B w (w.setCell ⟨B, k, none⟩ v) :=
  ⟨rfl, rfl, rfl, by simp, fun j hj => heap_setCell_other w ⟨B, k, none⟩ j v hj⟩
theorem flat_one : ∀ (l : List Vc.D), ∀ v ∈ flat l, v.oneCell' = true
  | [], _, h => by cases h
  | d :: l, v, h => by
    rcases List.mem_cons.1 h with rfl | h
    · rfl
    · rcases List.mem_cons.1 h with rfl | h
      · rfl
      · exact flat_one l v h
theorem sl_cells {W : World} {g o : Nat} {ds : List Vc.D} (hc : ∀ (j : Nat) (d : Vc.D), ds[j]? = some d → W.cell? ⟨g, o + j * 2, none⟩ = some (.int .i64 d.1) ∧ W.cell? ⟨g, o + j * 2 + 1, none⟩ = some (.int .i64 d.2)) :
    ∀ j u, (flat ds)[j]? = some u → W.cell? ((⟨g, o, none⟩ : Addr).add j) = some u := by
  intro j u hu
  have hj := (List.getElem?_eq_some_iff.1 hu).1
  rw [flat_len] at hj
  obtain ⟨d, hd⟩ : ∃ d, ds[j / 2]? = some d := ⟨_, List.getElem?_eq_getElem (by omega)⟩
  obtain ⟨f1, f2⟩ := flat_get ds (j / 2) d hd
  obtain ⟨c1, c2⟩ := hc (j / 2) d hd
  rw [show (⟨g, o, none⟩ : Addr).add j = ⟨g, o + j, none⟩ by unfold Addr.add; split <;> simp_all]
  rcases (show j = j / 2 * 2 ∨ j = j / 2 * 2 + 1 by omega) with e | e
  · rw [← e] at f1 c1
    rw [f1] at hu
    rw [c1, hu]
  · rw [← e] at f2
    rw [show o + j / 2 * 2 + 1 = o + j by omega] at c2
    rw [f2] at hu
    rw [c2, hu]
theorem keep_alloc' {w w' : World} (h : Below w.heap.size w w') (o : Obj) : Below w.heap.size w (w'.alloc o) := h.alloc h.size o
theorem take_snocA {α : Type} {E : List α} {k : Nat} {d : α} (h : E[k]? = some d) : E.take (k + 1) = E.take k ++ [d] := by
  have hk := (List.getElem?_eq_some_iff.1 h).1
  rw [List.take_succ_eq_append_getElem hk, (List.getElem?_eq_some_iff.1 h).2]
end Go.Proofs.YtebjlmnhpfoglaaGreatDoor

/-
  Rows of values in a block: their cells, a store into one, what stays as it was; a row as a whole.
-/

namespace Go.Proofs.YtebjlmnhpfoglaaGreatDoor
open Go.RowKit

/-- Of what was there nothing turns but the blocks that are owned. -/
structure Beside (own : Nat → Prop) (w w' : World) : Prop where
  os : w'.os = w.os
  tape : w'.tape = w.tape
  output : w'.output = w.output
  size : w.heap.size ≤ w'.heap.size
  block : ∀ k, k < w.heap.size → ¬ own k → w'.heap[k]? = w.heap[k]?
theorem beside_of {own : Nat → Prop} {w w' : World} (h : Below w.heap.size w w') : Beside own w w' := ⟨h.os, h.tape, h.output, h.size, fun k hk _ => h.block k hk⟩
theorem Beside.refl (own : Nat → Prop) (w : World) : Beside own w w := beside_of (Below.refl _ _)
theorem Beside.trans {own : Nat → Prop} {a b c : World} (h : Beside own a b) (h2 : Beside own b c) : Beside own a c :=
  ⟨h2.os.trans h.os, h2.tape.trans h.tape, h2.output.trans h.output, Nat.le_trans h.size h2.size, fun k hk hk2 => (h2.block k (Nat.lt_of_lt_of_le hk h.size) hk2).trans (h.block k hk hk2)⟩
theorem Beside.below {own : Nat → Prop} {w w' : World} {B : Nat} (h : Beside own w w') (hB : B ≤ w.heap.size) (ho : ∀ g, own g → B ≤ g) : Below B w w' :=
  ⟨h.os, h.tape, h.output, h.size, fun k hk => h.block k (by omega) fun hk' => by have := ho k hk'; omega⟩
theorem beside_set (q k : Nat) (w : World) (v : Value) : Beside (· = q) w (w.setCell ⟨q, k, none⟩ v) :=
  ⟨rfl, rfl, rfl, by simp, fun j _ hj => heap_setCell_other w ⟨q, k, none⟩ j v hj⟩
theorem VRow.beside {own : Nat → Prop} {W W' : World} {A T : Nat} {vs : List Value} (h : VRow W A T vs) (hb : Beside own W W') (hA : ¬ own A) : VRow W' A T vs := (hb.block A h.lt hA).trans h
end Go.Proofs.YtebjlmnhpfoglaaGreatDoor

/-
  Plain facts on pieces that are put and taken: no program, no world. Conditions: none but those that each theorem names.
-/

namespace Go.Proofs.YtebjlmnhpfoglaaGreatDoor
open Go.RowKit

/-- Bytes as a text. -/
def str (l : List UInt8) : ByteArray := ⟨l.toArray⟩
theorem str_size (l : List UInt8) : (str l).size = l.length := by simp [str, ByteArray.size]
theorem str_data (l : List UInt8) : (str l).data.toList = l := by simp [str]
theorem str_of (s : ByteArray) : str s.data.toList = s := by cases s; simp [str]
theorem str_append (a b : List UInt8) : str a ++ str b = str (a ++ b) := ByteArray.mk_append_mk a b
theorem str_ext (l : List UInt8) (i j : Nat) : (str l).extract i j = str ((l.take j).drop i) := by
  rw [← str_of ((str l).extract i j)]
  congr 1
  simp [str, List.drop_take]
theorem size_data (s : ByteArray) : s.data.toList.length = s.size := by simp
/-- A piece. -/
structure Pc where
  kind : Int
  n : Int
  s : ByteArray
  d : List UInt8
/-- What was put, or what is left; and what is wrong. -/
abbrev St := List UInt8 × Int
def wput (st : St) (is : Bool) (b : List UInt8) : St := if st.2 ≠ 0 then st else if is then (st.1 ++ b, 0) else (st.1, 2)
def fail (st : St) (e : Int) : St := if st.2 = 0 then (st.1, e) else st
def wNumber (st : St) (n : Int) : St := wput st (decide (0 ≤ n) && decide (n ≤ 1073741824)) (Cnt.putL n)
def wText (st : St) (s : ByteArray) : St := wput st (decide (s.size ≤ 65536)) (Cnt.putL s.size ++ s.data.toList)
def flagB (is : Bool) : List UInt8 := if is then [1] else [0]
def wFlag (st : St) (is : Bool) : St := wput st true (flagB is)
def wDigest (st : St) (d : List UInt8) : St := wput st true d
/-- What is told, behind all that was put. -/
def told (st : St) : List UInt8 := if st.2 ≠ 0 then [] else st.1
def low4 (n : Int) : Int := bits BinOp.and IntKind.i64 n 15
def wPiece (st : St) (x : Pc) : St :=
  if x.kind = 0 then wNumber st x.n
  else if x.kind = 1 then wText st x.s
  else if x.kind = 2 then wFlag st (x.n == 1)
  else if x.kind = 3 then wDigest st x.d
  else if x.kind = 4 then fail st (low4 x.n)
  else st
def rNumber (st : St) (most : Int) : Int × St :=
  if st.2 ≠ 0 then (0, st)
  else if (Cnt.takeF st.1).2.2 ≠ 0 then (0, (st.1, (Cnt.takeF st.1).2.2))
  else if most < (Cnt.takeF st.1).1 then (0, (st.1, 2))
  else ((Cnt.takeF st.1).1, (st.1.drop (Cnt.takeF st.1).2.1.toNat, 0))
def rText (st : St) (most : Int) : List UInt8 × St :=
  if (rNumber st most).2.2 ≠ 0 then ([], (rNumber st most).2)
  else if ((rNumber st most).2.1.length : Int) < (rNumber st most).1 then ([], (st.1, 5))
  else ((rNumber st most).2.1.take (rNumber st most).1.toNat, ((rNumber st most).2.1.drop (rNumber st most).1.toNat, 0))
def rFlag (st : St) : Bool × St :=
  if st.2 ≠ 0 then (false, st)
  else match st.1 with
    | [] => (false, ([], 5))
    | b :: r => if 1 < b.toNat then (false, (b :: r, 7)) else (b == 1, (r, 0))
def zero32 : List UInt8 := List.replicate 32 0
def rDigest (st : St) : List UInt8 × St :=
  if st.2 ≠ 0 then (zero32, st)
  else if st.1.length < 32 then (zero32, (st.1, 5))
  else (st.1.take 32, (st.1.drop 32, 0))
def rDone (st : St) : Int := if st.2 = 0 ∧ st.1 ≠ [] then 6 else st.2

theorem putL_bound (n : Int) : (Cnt.putL n).length ≤ 5 := Cnt.putL_len n
theorem wput_len (st : St) (is : Bool) (b : List UInt8) : (wput st is b).1.length ≤ st.1.length + (if is then b.length else 0) := by
  unfold wput
  split
  · omega
  · cases is <;> simp
theorem wPiece_len {x : Pc} (hd : x.d.length = 32) (st : St) : (wPiece st x).1.length ≤ st.1.length + 65541 := by
  unfold wPiece
  split
  · have h1 := wput_len st (decide (0 ≤ x.n) && decide (x.n ≤ 1073741824)) (Cnt.putL x.n)
    have h2 := Cnt.putL_len x.n
    unfold wNumber
    split at h1 <;> omega
  · split
    · have h1 := wput_len st (decide (x.s.size ≤ 65536)) (Cnt.putL x.s.size ++ x.s.data.toList)
      have h2 := Cnt.putL_len x.s.size
      unfold wText
      rw [List.length_append, size_data] at h1
      split at h1
      · rename_i h3
        have := of_decide_eq_true h3
        omega
      · omega
    · split
      · have h1 := wput_len st true (flagB (x.n == 1))
        have h2 : (flagB (x.n == 1)).length = 1 := by unfold flagB; split <;> rfl
        unfold wFlag
        simp at h1
        omega
      · split
        · have h1 := wput_len st true x.d
          unfold wDigest
          simp at h1
          omega
        · split
          · unfold fail
            split <;> simp
          · omega
/-- What a piece comes to, where nothing is wrong with it. -/
def enc (x : Pc) : List UInt8 :=
  if x.kind = 0 then Cnt.putL x.n
  else if x.kind = 1 then Cnt.putL x.s.size ++ x.s.data.toList
  else if x.kind = 2 then flagB (x.n == 1)
  else if x.kind = 3 then x.d
  else []
def Okp (x : Pc) : Prop := (x.kind = 0 → 0 ≤ x.n ∧ x.n ≤ 1073741824) ∧ (x.kind = 1 → x.s.size ≤ 65536)
theorem wput_zero {st : St} {is : Bool} {b : List UInt8} (h : (wput st is b).2 = 0) : st.2 = 0 ∧ is = true ∧ wput st is b = (st.1 ++ b, 0) := by
  unfold wput at h ⊢
  split
  · rename_i h1
    rw [if_pos h1] at h
    exact absurd h h1
  · rename_i h1
    rw [if_neg h1] at h
    cases is with
    | false => simp at h
    | true => exact ⟨by simpa using h1, rfl, rfl⟩
theorem wPiece_zero {st : St} {x : Pc} (h : (wPiece st x).2 = 0) : st.2 = 0 ∧ Okp x ∧ wPiece st x = (st.1 ++ enc x, 0) := by
  unfold wPiece enc Okp at *
  by_cases h0 : x.kind = 0
  · rw [if_pos h0] at h ⊢
    obtain ⟨h1, h2, h3⟩ := wput_zero h
    simp only [Bool.and_eq_true, decide_eq_true_eq] at h2
    exact ⟨h1, ⟨fun _ => h2, fun h4 => by omega⟩, by rw [if_pos h0]; exact h3⟩
  · rw [if_neg h0] at h ⊢
    by_cases h1 : x.kind = 1
    · rw [if_pos h1] at h ⊢
      obtain ⟨h2, h3, h4⟩ := wput_zero h
      exact ⟨h2, ⟨fun h5 => absurd h5 h0, fun _ => of_decide_eq_true h3⟩, by rw [if_neg h0, if_pos h1]; exact h4⟩
    · rw [if_neg h1] at h ⊢
      by_cases h2 : x.kind = 2
      · rw [if_pos h2] at h ⊢
        obtain ⟨h3, h4, h5⟩ := wput_zero h
        exact ⟨h3, ⟨fun h6 => absurd h6 h0, fun h6 => absurd h6 h1⟩, by rw [if_neg h0, if_neg h1, if_pos h2]; exact h5⟩
      · rw [if_neg h2] at h ⊢
        by_cases h3 : x.kind = 3
        · rw [if_pos h3] at h ⊢
          obtain ⟨h4, h5, h6⟩ := wput_zero h
          exact ⟨h4, ⟨fun h6 => absurd h6 h0, fun h6 => absurd h6 h1⟩, by rw [if_neg h0, if_neg h1, if_neg h2, if_pos h3]; exact h6⟩
        · rw [if_neg h3] at h ⊢
          rw [if_neg h0, if_neg h1, if_neg h2, if_neg h3, List.append_nil]
          refine ⟨?_, ⟨fun h6 => absurd h6 h0, fun h6 => absurd h6 h1⟩, ?_⟩
          · by_cases h4 : x.kind = 4
            · rw [if_pos h4] at h
              unfold fail at h
              split at h
              · assumption
              · exact h
            · rw [if_neg h4] at h; exact h
          · by_cases h4 : x.kind = 4
            · rw [if_pos h4] at h ⊢
              unfold fail at h ⊢
              split at h
              · rename_i h5; rw [if_pos h5]; exact Prod.ext rfl h
              · rename_i h5; exact absurd h h5
            · rw [if_neg h4] at h ⊢; exact Prod.ext rfl h
/-- All pieces, one behind the other. -/
def wAll (st : St) (l : List Pc) : St := l.foldl wPiece st
def encs (l : List Pc) : List UInt8 := (l.map enc).flatten
theorem wAll_zero : ∀ (l : List Pc) (st : St), (wAll st l).2 = 0 → st.2 = 0 ∧ (∀ x ∈ l, Okp x) ∧ wAll st l = (st.1 ++ encs l, 0)
  | [], st, h => ⟨h, fun x hx => by simp at hx, by simp [encs, wAll]; exact Prod.ext rfl h⟩
  | x :: l, st, h => by
    obtain ⟨h1, h2, h3⟩ := wAll_zero l (wPiece st x) h
    obtain ⟨h4, h5, h6⟩ := wPiece_zero h1
    refine ⟨h4, fun y hy => ?_, ?_⟩
    · rcases List.mem_cons.1 hy with rfl | hy
      · exact h5
      · exact h2 y hy
    · show wAll (wPiece st x) l = _
      rw [h3, h6]
      simp [encs]
theorem wAll_snoc (st : St) (l : List Pc) (k : Nat) (x : Pc) (h : l[k]? = some x) : wAll st (l.take (k + 1)) = wPiece (wAll st (l.take k)) x := by
  rw [List.take_add_one, h]
  simp [wAll]
theorem encs_drop (l : List Pc) (k : Nat) (x : Pc) (h : l[k]? = some x) : encs (l.drop k) = enc x ++ encs (l.drop (k + 1)) := by
  have hk := (List.getElem?_eq_some_iff.1 h).1
  rw [List.drop_eq_getElem_cons hk]
  rw [List.getElem?_eq_getElem hk] at h
  injection h with h
  simp [encs, h]
theorem back_number {n : Int} (h0 : 0 ≤ n) (h1 : n ≤ 1073741824) (most : Int) (hm : n ≤ most) (r : List UInt8) : rNumber (Cnt.putL n ++ r, 0) most = (n, (r, 0)) := by
  have h := Cnt.takeF_put n h0 h1 r
  unfold rNumber
  rw [if_neg (by simp), if_neg (by rw [h]; simp), if_neg (by rw [h]; simp; omega), h]
  simp
theorem back_text {s : ByteArray} (hs : s.size ≤ 65536) (r : List UInt8) : rText ((Cnt.putL s.size ++ s.data.toList) ++ r, 0) 65536 = (s.data.toList, (r, 0)) := by
  have h := back_number (n := s.size) (by omega) (by omega) 65536 (by omega) (s.data.toList ++ r)
  unfold rText
  rw [List.append_assoc, h]
  have hl : s.data.toList.length = s.size := size_data s
  rw [if_neg (by simp), if_neg (by rw [List.length_append, hl]; simp; omega)]
  simp only [Int.toNat_natCast]
  rw [← hl, List.take_left, List.drop_left]
theorem back_flag (is : Bool) (r : List UInt8) : rFlag (flagB is ++ r, 0) = (is, (r, 0)) := by
  cases is <;> simp [rFlag, flagB]
theorem back_digest {d : List UInt8} (hd : d.length = 32) (r : List UInt8) : rDigest (d ++ r, 0) = (d, (r, 0)) := by
  unfold rDigest
  rw [if_neg (by simp), if_neg (by rw [List.length_append]; omega)]
  show ((d ++ r).take 32, ((d ++ r).drop 32, (0 : Int))) = _
  rw [← hd, List.take_left, List.drop_left]
end Go.Proofs.YtebjlmnhpfoglaaGreatDoor

/-
  What the document's writer does: its put, Number, Text, Flag, Digest, Fail and Done.
-/

namespace Go.Proofs.YtebjlmnhpfoglaaGreatDoor
open Go.RowKit

/-- The document's writer, or reader, in its block. -/
def Doc (W : World) (q T : Nat) (st : St) : Prop := VRow W q T [.string (str st.1), .int .i64 st.2]
def DocMade (q T : Nat) (w : World) (st : St) (v : Value) (e : Ending) (w' : World) : Prop := e = .returned v ∧ Doc w' q T st ∧ Beside (· = q) w w'
theorem Doc.c0 {W : World} {q T : Nat} {st : St} (h : Doc W q T st) : W.cell? ⟨q, 0, none⟩ = some (.string (str st.1)) := VRow.cell h 0 _ rfl
theorem Doc.c1 {W : World} {q T : Nat} {st : St} (h : Doc W q T st) : W.cell? ⟨q, 1, none⟩ = some (.int .i64 st.2) := VRow.cell h 1 _ rfl
theorem Doc.f0 {W : World} {q T : Nat} {st : St} (h : Doc W q T st) : W.frozen? ⟨q, 0, none⟩ = false := VRow.frozen h 0
theorem Doc.f1 {W : World} {q T : Nat} {st : St} (h : Doc W q T st) : W.frozen? ⟨q, 1, none⟩ = false := VRow.frozen h 1
theorem Doc.set0 {W : World} {q T : Nat} {st : St} (h : Doc W q T st) (b : List UInt8) : Doc (W.setCell ⟨q, 0, none⟩ (.string (str b))) q T (b, st.2) := VRow.set h 0 _
theorem Doc.set1 {W : World} {q T : Nat} {st : St} (h : Doc W q T st) (e : Int) : Doc (W.setCell ⟨q, 1, none⟩ (.int .i64 e)) q T (st.1, e) := VRow.set h 1 _
theorem Doc.after {W W' : World} {q T : Nat} {st : St} (h : Doc W q T st) (hb : Below W.heap.size W W') : Doc W' q T st := VRow.after h hb
theorem Doc.lt {W : World} {q T : Nat} {st : St} (h : Doc W q T st) : q < W.heap.size := VRow.lt h
theorem docMade_of {q T : Nat} {w w1 w' : World} {st : St} {v : Value} {e : Ending} (hb : Below w.heap.size w w1) (h : DocMade q T w1 st v e w') : DocMade q T w st v e w' := ⟨h.1, h.2.1, (beside_of hb).trans h.2.2⟩
theorem cat_ok {a b : List UInt8} (h : a.length + b.length ≤ 4611686018427387904) : ¬ ((str a).size + (str b).size > 9223372036854775807) := by rw [str_size, str_size]; omega

set_option maxRecDepth 100000 in
set_option maxHeartbeats 400000 in
theorem refput_any (q : Nat) (st : St) (is : Bool) (s : List UInt8) (hs : is = true → st.1.length + s.length ≤ 4611686018427387904) (w : World) (h : Doc w q 122 st) :
    Calls Tryz.prog 117 #[.pointer (some ⟨q, 0, none⟩), .bool is, .string (str s)] w (DocMade q 122 w (wput st is s) (.tuple #[])) := by
  obtain ⟨b, e⟩ := st
  have c0 := h.c0
  have c1 := h.c1
  have f0 := h.f0
  have f1 := h.f1
  dsimp only at c0 c1 hs
  have HD := hide h
  clear h
  by_cases he : e = 0
  · subst he
    cases is with
    | true =>
      have hcat := cat_ok (hs rfl)
      have HE : Hid (wput (b, 0) true s = (b ++ s, 0)) := hide rfl
      rw [unhide HE]
      go_enter Tryz.func117, Tryz.ntmps117
      go_wp2_with fail
      go_end0
      have h1 := (unhide HD).set0 (b ++ s)
      rw [← str_append] at h1
      exact ⟨rfl, h1, beside_set _ _ _ _⟩
    | false =>
      have HE : Hid (wput (b, 0) false s = (b, 2)) := hide rfl
      rw [unhide HE]
      go_enter Tryz.func117, Tryz.ntmps117
      go_wp2_with fail
      go_end0
      exact ⟨rfl, (unhide HD).set1 2, beside_set _ _ _ _⟩
  · have hne : (e != 0) = true := by simp [he]
    have HE : Hid (wput (b, e) is s = (b, e)) := hide (if_pos he)
    rw [unhide HE]
    go_enter Tryz.func117, Tryz.ntmps117
    go_wp2_with fail
    go_end0
    exact ⟨rfl, unhide HD, Beside.refl _ _⟩

set_option maxRecDepth 100000 in
set_option maxHeartbeats 400000 in
theorem refNumberW_any (q : Nat) (st : St) (n : Int) (hs : st.1.length ≤ 100000000) (w : World) (h : Doc w q 122 st) :
    Calls Tryz.prog 90 #[.pointer (some ⟨q, 0, none⟩), .int .i64 n] w (DocMade q 122 w (wNumber st n) (.tuple #[])) := by
  have KP := hide (refPut_all n w)
  have KD := hide fun w' (hb : Below w.heap.size w w') (is : Bool) => refput_any q st is (Cnt.putL n) (fun _ => by have := Cnt.putL_len n; omega) w' (h.after hb)
  rw [show (⟨(Cnt.putL n).toArray⟩ : ByteArray) = str (Cnt.putL n) from rfl] at KP
  unfold wNumber
  clear h
  generalize Cnt.putL n = P at KP KD ⊢
  by_cases h0 : 0 ≤ n
  · rw [decide_eq_true h0, Bool.true_and]
    by_cases h1 : n ≤ 1073741824
    · rw [decide_eq_true h1]
      go_enter Tryz.func90, Tryz.ntmps90
      go_wp2_with fail
      refine (unhide KP).mono ?_
      rintro e w1 ⟨rfl, hb⟩
      have HB := hide hb
      clear hb
      go_wp2_with fail
      refine (unhide KD _ (unhide HB) _).mono ?_
      rintro e w2 hm
      obtain ⟨rfl, h2, h3⟩ := docMade_of (unhide HB) hm
      have H2 := hide h2
      have H3 := hide h3
      clear hm h2 h3
      go_wp2_with fail
      go_end0
      exact ⟨rfl, unhide H2, unhide H3⟩
    · rw [decide_eq_false h1]
      have h1' : 1073741824 < n := by omega
      go_enter Tryz.func90, Tryz.ntmps90
      go_wp2_with fail
      refine (unhide KP).mono ?_
      rintro e w1 ⟨rfl, hb⟩
      have HB := hide hb
      clear hb
      go_wp2_with fail
      refine (unhide KD _ (unhide HB) _).mono ?_
      rintro e w2 hm
      obtain ⟨rfl, h2, h3⟩ := docMade_of (unhide HB) hm
      have H2 := hide h2
      have H3 := hide h3
      clear hm h2 h3
      go_wp2_with fail
      go_end0
      exact ⟨rfl, unhide H2, unhide H3⟩
  · rw [decide_eq_false h0, Bool.false_and]
    have h0' : n < 0 := by omega
    go_enter Tryz.func90, Tryz.ntmps90
    go_wp2_with fail
    refine (unhide KP).mono ?_
    rintro e w1 ⟨rfl, hb⟩
    have HB := hide hb
    clear hb
    go_wp2_with fail
    refine (unhide KD _ (unhide HB) _).mono ?_
    rintro e w2 hm
    obtain ⟨rfl, h2, h3⟩ := docMade_of (unhide HB) hm
    have H2 := hide h2
    have H3 := hide h3
    clear hm h2 h3
    go_wp2_with fail
    go_end0
    exact ⟨rfl, unhide H2, unhide H3⟩

theorem textCat (s : ByteArray) (hs : s.size ≤ 9223372036854775807) : ¬ ((str (Cnt.putL s.size)).size + s.size > 9223372036854775807) := by
  rw [str_size]
  have h := Cnt.putL_len s.size
  by_cases h1 : (1073741824 : Int) < s.size
  · rw [Cnt.putL_no _ (.inr h1)]
    simp
    omega
  · omega

set_option maxRecDepth 100000 in
set_option maxHeartbeats 400000 in
theorem refTextW_any (q : Nat) (st : St) (s : ByteArray) (hl : s.size ≤ 9223372036854775807) (hs : st.1.length ≤ 100000000) (w : World) (h : Doc w q 122 st) :
    Calls Tryz.prog 91 #[.pointer (some ⟨q, 0, none⟩), .string s] w (DocMade q 122 w (wText st s) (.tuple #[])) := by
  have KP := hide (refPut_all s.size w)
  have KD := hide fun w' (hb : Below w.heap.size w w') => refput_any q st (decide (s.size ≤ 65536)) (Cnt.putL s.size ++ s.data.toList) (fun h1 => by have := Cnt.putL_len s.size; have := of_decide_eq_true h1; rw [List.length_append, size_data]; omega) w' (h.after hb)
  rw [show (⟨(Cnt.putL s.size).toArray⟩ : ByteArray) = str (Cnt.putL s.size) from rfl] at KP
  have hcat := textCat s hl
  rw [← str_append, str_of] at KD
  unfold wText
  clear h
  generalize wput st (decide (s.size ≤ 65536)) (Cnt.putL s.size ++ s.data.toList) = R at KD ⊢
  generalize str (Cnt.putL s.size) = P at KP KD hcat
  by_cases h1 : s.size ≤ 65536
  · have hd : decide (s.size ≤ 65536) = true := decide_eq_true h1
    rw [hd] at KD
    have hz : (s.size : Int) ≤ 65536 := by omega
    clear hd
    go_enter Tryz.func91, Tryz.ntmps91
    go_wp2_with fail
    refine (unhide KP).mono ?_
    rintro e w1 ⟨rfl, hb⟩
    have HB := hide hb
    clear hb
    go_wp2_with fail
    refine (unhide KD _ (unhide HB)).mono ?_
    rintro e w2 hm
    obtain ⟨rfl, h2, h3⟩ := docMade_of (unhide HB) hm
    have H2 := hide h2
    have H3 := hide h3
    clear hm h2 h3
    go_wp2_with fail
    go_end0
    exact ⟨rfl, unhide H2, unhide H3⟩
  · have hd : decide (s.size ≤ 65536) = false := decide_eq_false h1
    rw [hd] at KD
    have hz : ¬ (s.size : Int) ≤ 65536 := by omega
    clear hd
    go_enter Tryz.func91, Tryz.ntmps91
    go_wp2_with fail
    refine (unhide KP).mono ?_
    rintro e w1 ⟨rfl, hb⟩
    have HB := hide hb
    clear hb
    go_wp2_with fail
    refine (unhide KD _ (unhide HB)).mono ?_
    rintro e w2 hm
    obtain ⟨rfl, h2, h3⟩ := docMade_of (unhide HB) hm
    have H2 := hide h2
    have H3 := hide h3
    clear hm h2 h3
    go_wp2_with fail
    go_end0
    exact ⟨rfl, unhide H2, unhide H3⟩

set_option maxRecDepth 100000 in
set_option maxHeartbeats 400000 in
theorem refFlagW_any (q : Nat) (st : St) (is : Bool) (hs : st.1.length ≤ 100000000) (w : World) (h : Doc w q 122 st) :
    Calls Tryz.prog 116 #[.pointer (some ⟨q, 0, none⟩), .bool is] w (DocMade q 122 w (wFlag st is) (.tuple #[])) := by
  have KD := hide (refput_any q st true (flagB is) (fun _ => by have h2 : (flagB is).length = 1 := by { unfold flagB; split <;> rfl }; omega) w h)
  unfold wFlag
  clear h
  cases is with
  | true =>
    rw [show str (flagB true) = ⟨#[1]⟩ from rfl] at KD
    generalize wput st true (flagB true) = R at KD ⊢
    go_enter Tryz.func116, Tryz.ntmps116
    go_wp2_with fail
    refine (unhide KD).mono ?_
    rintro e w2 ⟨rfl, h2, h3⟩
    have H2 := hide h2
    have H3 := hide h3
    clear h2 h3
    go_wp2_with fail
    go_end0
    exact ⟨rfl, unhide H2, unhide H3⟩
  | false =>
    rw [show str (flagB false) = ⟨#[0]⟩ from rfl] at KD
    generalize wput st true (flagB false) = R at KD ⊢
    go_enter Tryz.func116, Tryz.ntmps116
    go_wp2_with fail
    refine (unhide KD).mono ?_
    rintro e w2 ⟨rfl, h2, h3⟩
    have H2 := hide h2
    have H3 := hide h3
    clear h2 h3
    go_wp2_with fail
    go_end0
    exact ⟨rfl, unhide H2, unhide H3⟩

set_option maxRecDepth 100000 in
set_option maxHeartbeats 400000 in
theorem refFailW_any (q : Nat) (st : St) (x : Int) (w : World) (h : Doc w q 122 st) :
    Calls Tryz.prog 87 #[.pointer (some ⟨q, 0, none⟩), .int .i64 x] w (DocMade q 122 w (fail st x) (.tuple #[])) := by
  obtain ⟨b, e⟩ := st
  have c1 := h.c1
  have f1 := h.f1
  dsimp only at c1
  have HD := hide h
  clear h
  by_cases he : e = 0
  · subst he
    rw [show fail (b, 0) x = (b, x) from rfl]
    go_enter Tryz.func87, Tryz.ntmps87
    go_wp2_with fail
    go_end0
    exact ⟨rfl, (unhide HD).set1 x, beside_set _ _ _ _⟩
  · have hne : (e == 0) = false := by simp [he]
    rw [show fail (b, e) x = (b, e) from if_neg he]
    go_enter Tryz.func87, Tryz.ntmps87
    go_wp2_with fail
    go_end0
    exact ⟨rfl, unhide HD, Beside.refl _ _⟩

set_option maxRecDepth 100000 in
set_option maxHeartbeats 400000 in
theorem refDoneW_any (q : Nat) (st : St) (w : World) (h : Doc w q 122 st) :
    Calls Tryz.prog 93 #[.pointer (some ⟨q, 0, none⟩)] w fun e w' => e = .returned (.tuple #[.string (str (told st)), .int .i64 st.2]) ∧ Below w.heap.size w w' := by
  obtain ⟨b, e⟩ := st
  have c0 := h.c0
  have c1 := h.c1
  dsimp only at c0 c1
  clear h
  by_cases he : e = 0
  · subst he
    rw [show told (b, 0) = b from rfl]
    go_enter Tryz.func93, Tryz.ntmps93
    go_wp2_with fail
    go_ret2
    exact ⟨rfl, Below.refl _ _⟩
  · have hne : (e != 0) = true := by simp [he]
    rw [show told (b, e) = [] from if_pos he]
    go_enter Tryz.func93, Tryz.ntmps93
    go_wp2_with fail
    go_quiet (fail)
    go_wp2_with fail
    go_ret2
    exact ⟨rfl, below_drewN (Below.refl _ _) _⟩
end Go.Proofs.YtebjlmnhpfoglaaGreatDoor

/-
  What the document's writer does with a digest; digests in memory.
-/

namespace Go.Proofs.YtebjlmnhpfoglaaGreatDoor
open Go.RowKit

theorem sizeDg : (Tryz.prog.info? 46).map (·.size) = some 32 := by kernel_rfl
theorem run_buildDg (w : World) : (Instr.build 46 #[]).run Tryz.prog w = .ok (.agg (zero32.map byteVal).toArray) w := by kernel_rfl
theorem one_bytes (bs : List UInt8) : ∀ v ∈ bs.map byteVal, v.oneCell' = true := by
  intro v hv
  obtain ⟨x, _, rfl⟩ := List.mem_map.1 hv
  rfl
theorem mid_set {α : Type} (L S : List α) (k : Nat) (hL : k < L.length) (hS : k < S.length) : (L.take k ++ S.drop k).set k L[k] = L.take (k + 1) ++ S.drop (k + 1) := by
  rw [List.set_append_right _ _ (by simp; omega), List.take_succ_eq_append_getElem hL, List.length_take, Nat.min_eq_left (by omega), Nat.sub_self]
  rw [List.drop_eq_getElem_cons hS, List.set_cons_zero, List.append_assoc, List.singleton_append]
theorem mid_setQ {α : Type} (L S : List α) (k : Nat) (x : α) (hx : L[k]? = some x) (hS : k < S.length) : (L.take k ++ S.drop k).set k x = L.take (k + 1) ++ S.drop (k + 1) := by
  obtain ⟨h, rfl⟩ := List.getElem?_eq_some_iff.1 hx
  exact mid_set L S k h hS
theorem mid_get {α : Type} (L S : List α) (k : Nat) (hL : k ≤ L.length) : (L.take k ++ S.drop k)[k]? = S[k]? := by
  rw [List.getElem?_append_right (by simp; omega)]
  simp [Nat.min_eq_left hL]
theorem str_one (x : UInt8) : (⟨#[x]⟩ : ByteArray) = str [x] := rfl

set_option maxRecDepth 100000 in
set_option maxHeartbeats 400000 in
theorem refDigestW_any (q : Nat) (st : St) (d : List UInt8) (hd : d.length = 32) (hs : st.1.length ≤ 100000000) (w : World) (h : Doc w q 122 st) :
    Calls Tryz.prog 92 #[.pointer (some ⟨q, 0, none⟩), .agg (d.map byteVal).toArray] w (DocMade q 122 w (wDigest st d) (.tuple #[])) := by
  have KD := hide fun w' (hb : Below w.heap.size w w') => refput_any q st true d (fun _ => by omega) w' (h.after hb)
  unfold wDigest
  clear h
  have HD := hide hd
  have HR0 := hide (VRow.new w 46 (d.map byteVal))
  have HB0 := hide (below_alloc' (w := w) (.cells (d.map byteVal).toArray 46))
  clear hd
  go_enter Tryz.func92, Tryz.ntmps92
  go_wp2_with fail
  go_loopw [4, 5] (fun s i wr => ∃ k : Nat, k ≤ 32 ∧ s = .string (str (d.take k)) ∧ i = .int .i64 k ∧ Hid (VRow wr w.heap.size 46 (d.map byteVal) ∧ Below w.heap.size w wr)) (fun _ i _ => 32 - (intOf i).toNat)
  case atStart => exact ⟨0, Nat.zero_le _, rfl, rfl, hide ⟨unhide HR0, unhide HB0⟩⟩
  case round =>
    obtain ⟨k, hk, rfl, rfl, HH⟩ := hrel
    by_cases hlt : k < 32
    · obtain ⟨x, hx⟩ : ∃ x, d[k]? = some x := ⟨_, List.getElem?_eq_getElem (by rw [unhide HD]; exact hlt)⟩
      have x0 : wr.cell? ⟨w.heap.size, k, none⟩ = some (.int .u8 (x.toNat : Int)) := (unhide HH).1.cell k _ (by rw [List.getElem?_map, hx]; rfl)
      have hcv := run_string_one x (x.toNat : Int) rfl
      rw [str_one] at hcv
      have hcat := cat_ok (a := d.take k) (b := [x]) (by rw [List.length_take, unhide HD]; simp; omega)
      have HT : Hid (str (d.take k) ++ str [x] = str (d.take (k + 1))) := hide (by rw [str_append, List.take_add_one, hx]; rfl)
      have HHA : Hid (VRow (wr.alloc (.cells #[.int .u8 (x.toNat : Int)] 5)) w.heap.size 46 (d.map byteVal) ∧ Below w.heap.size w (wr.alloc (.cells #[.int .u8 (x.toNat : Int)] 5))) := hide ⟨(unhide HH).1.alloc _, (unhide HH).2.alloc (unhide HH).2.size _⟩
      clear hx
      go_wp2_with fail
      go_roundw
      case rel => exact ⟨k + 1, by omega, by rw [unhide HT], by go_num, HHA⟩
      case measure => simp [intOf]; omega
    · obtain rfl : k = 32 := by omega
      have ht : d.take 32 = d := List.take_of_length_le (by rw [unhide HD]; exact Nat.le_refl _)
      rw [ht]
      clear ht
      go_wp2_with fail
      refine (unhide KD _ (unhide HH).2).mono ?_
      rintro e w2 hm
      obtain ⟨rfl, h2, h3⟩ := docMade_of (unhide HH).2 hm
      have H2 := hide h2
      have H3 := hide h3
      clear hm h2 h3
      go_wp2_with fail
      go_end0
      exact ⟨rfl, unhide H2, unhide H3⟩
end Go.Proofs.YtebjlmnhpfoglaaGreatDoor

/-
  What the document's reader does: its Number, Text, Flag, Fail and Done.
-/

namespace Go.Proofs.YtebjlmnhpfoglaaGreatDoor
open Go.RowKit

theorem takeF_nonneg (l : List UInt8) : 0 ≤ (Cnt.takeF l).1 := by
  unfold Cnt.takeF
  split
  · split
    · split
      · exact Int.le_refl _
      · split
        · exact Int.le_refl _
        · exact Int.natCast_nonneg _
    · exact Int.le_refl _
  · exact Int.le_refl _
theorem ext_tail (l : List UInt8) (k : Nat) : (str l).extract k (str l).size = str (l.drop k) := by
  rw [str_ext, str_size, List.take_of_length_le (Nat.le_refl _)]
theorem ext_head (l : List UInt8) (k : Nat) : (str l).extract 0 k = str (l.take k) := by rw [str_ext, List.drop_zero]

theorem rNumber_nonneg (st : St) (most : Int) : 0 ≤ (rNumber st most).1 := by
  unfold rNumber
  split
  · exact Int.le_refl _
  · split
    · exact Int.le_refl _
    · split
      · exact Int.le_refl _
      · exact takeF_nonneg _
theorem rNumber_len (st : St) (most : Int) : (rNumber st most).2.1.length ≤ st.1.length := by
  unfold rNumber
  split
  · exact Nat.le_refl _
  · split
    · exact Nat.le_refl _
    · split
      · exact Nat.le_refl _
      · rw [List.length_drop]; omega

theorem str_emp (x : UInt8) (r : List UInt8) : (str (x :: r)).toList.isEmpty = false := by
  rw [ByteArray.toList_eq, str_data]
  rfl
theorem str_head (x : UInt8) (r : List UInt8) (h : 0 < (str (x :: r)).size) : (str (x :: r))[0] = x := by
  rw [← at_data (str (x :: r)) 0 h, str_data]
  rfl

end Go.Proofs.YtebjlmnhpfoglaaGreatDoor
