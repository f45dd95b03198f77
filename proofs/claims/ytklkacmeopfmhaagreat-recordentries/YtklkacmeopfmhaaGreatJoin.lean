/-
  What Join answers: of each peer the greater count; nothing that lay in memory turns.
-/
import Derived.Test.YtklkacmeopfmhaaGreatSides
import Derived.WalkSmall
namespace Go.Proofs.YtklkacmeopfmhaaGreat
open Go.RowKit Go.Shelf

attribute [local go_sem] Oper.semAt_some

def isVec (xs ys : List Vc.D) : Bool := (Vc.check xs == 0) && (Vc.check ys == 0)
theorem isVec_iff (xs ys : List Vc.D) : isVec xs ys = true ↔ Vc.check xs = 0 ∧ Vc.check ys = 0 := by
  unfold isVec
  rw [Bool.and_eq_true, beq_iff_eq, beq_iff_eq]

set_option maxRecDepth 100000 in
set_option maxHeartbeats 400000 in
theorem vectors_any (a b : Option Addr) (ca cb : Nat) (xs ys : List Vc.D) (hx : xs.length ≤ 9223372036854775807) (hy : ys.length ≤ 9223372036854775807) (w : World) (sa : Sl w a xs) (sb : Sl w b ys) :
    Calls Tryz.prog 101 #[.slice a xs.length ca, .slice b ys.length cb] w fun e w' => e = .returned (.bool (isVec xs ys)) ∧ Below w.heap.size w w' := by
  have K1 := hide (check_any a ca xs hx w sa)
  have K2 := hide fun w' (h : Sl w' b ys) => check_any b cb ys hy w' h
  have HSB := hide sb
  unfold isVec
  clear sa sb hx hy
  by_cases hz : Vc.check xs = 0
  · rw [hz] at K1 ⊢
    obtain ⟨C, hC⟩ : ∃ C, Vc.check ys = C := ⟨_, rfl⟩
    rw [hC] at K2 ⊢
    clear hC hz
    go_enter Tryz.func101, Tryz.ntmps101
    go_wp2_with fail
    refine (unhide K1).mono ?_
    rintro e w1 ⟨rfl, hb1⟩
    have HB1 := hide hb1
    have HS1 := hide ((unhide HSB).after hb1)
    clear hb1
    go_wp2_with fail
    refine (unhide K2 _ (unhide HS1)).mono ?_
    rintro e w2 ⟨rfl, hb2⟩
    have HB2 := hide (below_grow (unhide HB1) (Nat.le_refl _) hb2)
    clear hb2
    go_wp2_with fail
    go_ret
    exact ⟨by first | rfl | simp, unhide HB2⟩
  · have hzb : (Vc.check xs == 0) = false := beq_eq_false_iff_ne.2 hz
    rw [hzb, Bool.false_and]
    generalize Vc.check xs = C at *
    clear hz
    go_enter Tryz.func101, Tryz.ntmps101
    go_wp2_with fail
    refine (unhide K1).mono ?_
    rintro e w1 ⟨rfl, hb1⟩
    have HB1 := hide hb1
    clear hb1
    go_wp2_with fail
    go_ret
    exact ⟨rfl, unhide HB1⟩

/-- The cells of dots. -/
def flat : List Vc.D → List Value
  | [] => []
  | d :: l => .int .i64 d.1 :: .int .i64 d.2 :: flat l
theorem flat_len : ∀ l : List Vc.D, (flat l).length = l.length * 2
  | [] => rfl
  | d :: l => by simp [flat, flat_len l]; omega
theorem flat_append : ∀ l m : List Vc.D, flat (l ++ m) = flat l ++ flat m
  | [], _ => rfl
  | d :: l, m => by simp [flat, flat_append l m]
theorem flat_get : ∀ (l : List Vc.D) (j : Nat) (d : Vc.D), l[j]? = some d → (flat l)[j * 2]? = some (.int .i64 d.1) ∧ (flat l)[j * 2 + 1]? = some (.int .i64 d.2)
  | [], j, d, h => by simp at h
  | e :: l, 0, d, h => by
    simp at h
    subst h
    exact ⟨rfl, rfl⟩
  | e :: l, j + 1, d, h => by
    have := flat_get l j d (by simpa using h)
    rw [show (j + 1) * 2 = j * 2 + 1 + 1 by omega]
    simpa [flat] using this

theorem own_sl {W : World} {base : Nat} {v : Value} {n : Nat} {ds : List Vc.D} (hn : ds.length = n) (h : W.ownsRow base 52 2 v n (flat ds)) : ∃ a cap, v = .slice a ds.length cap ∧ ds.length ≤ cap ∧ Sl W a ds := by
  subst hn
  rcases h.2 with ⟨rfl, h0⟩ | ⟨g, cap, cur, rfl, hg, hh, h1, h2, h3, h4⟩
  · exact ⟨none, 0, by rw [h0], by omega, fun h => by omega⟩
  · refine ⟨_, cap, rfl, h1, fun _ => ⟨g, 0, rfl, (Array.getElem?_eq_some_iff.1 hh).1, fun j d hj => ?_⟩⟩
    have hjl : j < ds.length := (List.getElem?_eq_some_iff.1 hj).1
    obtain ⟨f1, f2⟩ := flat_get ds j d hj
    have e1 : ∀ k u, k < ds.length * 2 → (flat ds)[k]? = some u → W.cell? ⟨g, k, none⟩ = some u := by
      intro k u hk hu
      rw [cell_of_row W g k cur 52 (0, 0) hh]
      have h5 : (cur.toList.take (ds.length * 2))[k]? = (flat ds)[k]? := by rw [h4]
      rw [List.getElem?_take_of_lt hk, hu] at h5
      simpa using h5
    rw [Nat.zero_add]
    exact ⟨e1 _ _ (by omega) f1, e1 _ _ (by omega) f2⟩

/-- What lies in blocks that are new. -/
def Fresh (n : Nat) (r : Option Addr) (ds : List Vc.D) : Prop := ∀ ad, r = some ad → 0 < ds.length → n ≤ ad.block
theorem own_slF {W : World} {base : Nat} {v : Value} {n : Nat} {ds : List Vc.D} (hn : ds.length = n) (h : W.ownsRow base 52 2 v n (flat ds)) : ∃ a cap, v = .slice a ds.length cap ∧ ds.length ≤ cap ∧ Sl W a ds ∧ Fresh base a ds := by
  obtain ⟨a, cap, rfl, h1, h2⟩ := own_sl hn h
  refine ⟨a, cap, rfl, h1, h2, fun ad e h0 => ?_⟩
  rcases h.2 with ⟨e1, h0'⟩ | ⟨g, cap', cur, e1, hg, _⟩
  · omega
  · injection e1 with e1
    rw [e] at e1
    injection e1 with e1
    subst e1
    exact hg

theorem sides_stops (n : Nat) (hn : 2 ≤ n) (B1 B2 n₀ : Nat) (a b : Option Addr) (ca cb : Nat) (xs ys : List Vc.D) (hla : xs.length ≤ 64) (hlb : ys.length ≤ 64) (hca : xs.length ≤ ca) (hcb : ys.length ≤ cb)
    (ua : Vc.Up (-1) xs) (ub : Vc.Up (-1) ys) (w : World) (hn₀ : n₀ ≤ w.heap.size) (h1 : Boxed w B1 53 (.slice a xs.length ca)) (h2 : Boxed w B2 53 (.slice b ys.length cb)) (sa : SlB n₀ w a xs) (sb : SlB n₀ w b ys) :
    SeqStopsK Fence.wide n Tryz.prog 103 #[.pointer (some ⟨B1, 0, none⟩), .pointer (some ⟨B2, 0, none⟩)] (fun s : Vc.D × Vc.D => #[dotV s.1, dotV s.2]) (Below n₀) (fun zs => zs = Vc.sides xs ys) (fun pre => pre <+: Vc.sides xs ys) 128 w := fun l J Jx W hW hJ _ hY h0 =>
  sides1_in n hn l B1 B2 n₀ a b ca cb xs ys hla hlb hca hcb ua ub J Jx (fun pre A B h hb => hJ pre A B none h ⟨hb.os, hb.tape, hb.output, hb.size, fun k hk _ => hb.block k hk⟩ (fun r e => by cases e)) hY
    W (Nat.le_trans hn₀ hW.size) ((hW.cell (p := ⟨B1, 0, none⟩) h1.lt).trans h1.cell) ((hW.cell (p := ⟨B2, 0, none⟩) h2.lt).trans h2.cell) (sa.below (hW.mono hn₀)) (sb.below (hW.mono hn₀)) h0

theorem VRow.own {β : Type} (B T : Nat) (vs : List Value) : Own (fun (_ : β) W => VRow W B T vs) := fun _ X _ _ hs hg hrow =>
  (hg.block B hs.lt (fun e' => by obtain ⟨o, ho, hc⟩ := hrow B e'.symm; rw [show X.heap[B]? = _ from hs] at ho; cases ho; cases hc)).trans hs

theorem info52 : (Tryz.prog.info? 52).map (fun i => (i.zero, i.size, i.bytes)) = some (some (.agg #[.int .i64 0, .int .i64 0]), 2, 16) := by kernel_rfl

set_option maxRecDepth 100000 in
set_option maxHeartbeats 2000000 in
theorem join_in (a b : Option Addr) (ca cb : Nat) (xs ys : List Vc.D) (hx : xs.length ≤ 9223372036854775807) (hy : ys.length ≤ 9223372036854775807) (hca : xs.length ≤ ca) (hcb : ys.length ≤ cb) (w : World) (sa : Sl w a xs) (sb : Sl w b ys) :
    CallsIn Fence.wide 3 Tryz.prog 97 #[.slice a xs.length ca, .slice b ys.length cb] w fun e w' => ∃ r cap, e = .returned (.slice r (Vc.joins xs ys).length cap) ∧ (Vc.joins xs ys).length ≤ cap ∧ Sl w' r (Vc.joins xs ys) ∧ Below w.heap.size w w' ∧ Fresh w.heap.size r (Vc.joins xs ys) := by
  have h53 : Fence.wide.fn 101 := trivial
  have h67 : Fence.wide.fn 102 := trivial
  obtain ⟨i0, hi, hz0, hz1, hz2⟩ := info_parts info52
  have KV := hide (vectors_any a b ca cb xs ys hx hy w sa sb)
  have HSA := hide sa.b
  have HSB := hide sb.b
  clear sa sb
  by_cases hv : isVec xs ys = true
  · have hvs := (isVec_iff xs ys).1 hv
    have ua := (Vc.check_zero xs).1 hvs.1
    have ub := (Vc.check_zero ys).1 hvs.2
    have HJ : Hid (Vc.joins xs ys = (Vc.sides xs ys).map Vc.jn) := by unfold Vc.joins; rw [if_pos hvs]; exact hide rfl
    have hla := Vc.vec_len ua
    have hlb := Vc.vec_len ub
    have HUA := hide ua
    have HUB := hide ub
    rw [hv] at KV
    clear hv hvs ua ub
    refine callsIn_of_wp_marks Tryz.func97 rfl trivial ?_ rfl
    simp only [Tryz.ntmps97, List.size_toArray, List.length_cons, List.length_nil, Nat.reduceAdd, Nat.reduceSub, Array.replicate_succ, Array.replicate_zero, List.push_toArray, List.append_toArray, List.nil_append, List.cons_append]
    gi_wp2_with (first
      | (gi_at_call 101; refine (callsIn_wide.2 (unhide KV)).mono ?_; rintro e w1 ⟨rfl, hb1⟩; have HB1 := hide hb1; clear hb1)
      | (gi_at_call 102; refine (sides_in Fence.wide 2 h67 rfl _ _ _ _ _ _ _).mono ?_; rintro e w' ⟨rfl, rfl⟩))
    have hs1 := (unhide HB1).size
    have bO := ((Boxed.new w1 53 (.slice none 0 0)).alloc (.cells #[.slice a xs.length ca] 53)).alloc (.cells #[.slice b ys.length cb] 53)
    have bA := (Boxed.new (w1.alloc (.cells #[.slice none 0 0] 53)) 53 (.slice a xs.length ca)).alloc (.cells #[.slice b ys.length cb] 53)
    have bB := Boxed.new ((w1.alloc (.cells #[.slice none 0 0] 53)).alloc (.cells #[.slice a xs.length ca] 53)) 53 (.slice b ys.length cb)
    simp only [World.size_alloc] at bA bB
    have hB0 : Below w.heap.size w (((w1.alloc (.cells #[.slice none 0 0] 53)).alloc (.cells #[.slice a xs.length ca] 53)).alloc (.cells #[.slice b ys.length cb] 53)) := (((unhide HB1).alloc hs1 _).alloc (by simp; omega) _).alloc (by simp; omega) _
    have hsz : (((w1.alloc (.cells #[.slice none 0 0] 53)).alloc (.cells #[.slice a xs.length ca] 53)).alloc (.cells #[.slice b ys.length cb] 53)).heap.size = w1.heap.size + 3 := by simp
    obtain ⟨W0, hW0⟩ : ∃ W0, ((w1.alloc (.cells #[.slice none 0 0] 53)).alloc (.cells #[.slice a xs.length ca] 53)).alloc (.cells #[.slice b ys.length cb] 53) = W0 := ⟨_, rfl⟩
    rw [hW0] at bO bA bB hB0 hsz ⊢
    clear hW0
    refine wpIn_rangeFunc_ownH rfl (by decide) (gf := 103) (lb := #[.pointer (some ⟨w1.heap.size + 1, 0, none⟩), .pointer (some ⟨w1.heap.size + 1 + 1, 0, none⟩)]) rfl trivial (enters_of Tryz.func103 (by kernel_rfl) rfl)
      (sides_stops 2 (Nat.le_refl _) (w1.heap.size + 1) (w1.heap.size + 1 + 1) w.heap.size a b ca cb xs ys hla hlb hca hcb (unhide HUA) (unhide HUB) W0 hB0.size bA bB ((unhide HSA).below hB0) ((unhide HSB).below hB0)) belowK_t (belowK_b (by omega)) (Below.refl _ _) (fun _ => rfl)
      (fun pre W => (∃ u, Boxed W w1.heap.size 53 u ∧ W.ownsRow w.heap.size 52 2 u pre.length (flat (pre.map Vc.jn)) ∧ True) ∧ Below w.heap.size w W)
      (fun _ _ _ => False)
      (OwnFrom.and (Own.from (holdsRow_own w.heap.size w1.heap.size 53 52 2 (fun pre : List (Vc.D × Vc.D) => pre.length) (fun pre => flat (pre.map Vc.jn)) (fun _ _ => True)) _) (ownFrom_below (Nat.le_refl _) (by omega)))
      (fun _ _ _ _ _ hs _ _ => hs)
      ⟨⟨_, bO, World.ownsRow_nil _ _ _ _, trivial⟩, hB0⟩
      (fun s a' W => ∃ Bx, w1.heap.size < Bx ∧ VRow W Bx 52 [.int .i64 s.1.1, .int .i64 s.1.2] ∧ VRow W (Bx + 1) 52 [.int .i64 s.2.1, .int .i64 s.2.2] ∧ a' = { tmps := #[.slice a xs.length ca, .slice b ys.length cb, undef, undef, .slice none 0 0, .pointer (some ⟨w1.heap.size, 0, none⟩), .pointer (some ⟨Bx, 0, none⟩), .pointer (some ⟨Bx + 1, 0, none⟩), .slice a xs.length ca, .slice b ys.length cb, .bool true, .bool false, .slice a xs.length ca, .slice b ys.length cb, .func (.func 103) #[] #[.pointer (some ⟨w1.heap.size + 1, 0, none⟩), .pointer (some ⟨w1.heap.size + 1 + 1, 0, none⟩)], dotV s.1, dotV s.2, undef, undef, undef, undef, undef, undef, undef, undef, undef, undef, undef, undef], defers := [] })
      (fun s a' _ X Y row hs hg hr => by obtain ⟨Bx, h1, h2, h3, h4⟩ := hs; exact ⟨Bx, h1, VRow.own Bx 52 _ () X Y row h2 hg (fun r e => (hr r e).2), VRow.own (Bx + 1) 52 _ () X Y row h3 hg (fun r e => (hr r e).2), h4⟩)
      ?assign ?body ?done ?stop
    case assign =>
      rintro l pre ⟨⟨p, c⟩, ⟨p', c'⟩⟩ W K ⟨⟨u, hv, hrow, _⟩, hB⟩ hK
      simp only [dotV]
      gi_wp2
      have hsW := hB.size
      exact hK _ _ (((KeepsOthers.alloc _ _).trans (KeepsOthers.alloc _ _)).from _) (((Below.refl _ W).alloc hsW _).alloc (by simp; omega) _) ⟨⟨u, (hv.alloc _).alloc _, (hrow.alloc _).alloc _, trivial⟩, (hB.alloc hsW _).alloc (by simp; omega) _⟩
        ⟨W.heap.size, hv.lt, (VRow.new W 52 [.int .i64 p, .int .i64 c]).alloc _, VRow.newAt (vs := [.int .i64 p', .int .i64 c']) (by simp), rfl⟩
    case body =>
      rintro l pre ⟨⟨p, c⟩, ⟨p', c'⟩⟩ a' W hl _ ⟨⟨u, hv, hrow, _⟩, hB⟩ ⟨Bx, hBx, hX, hY, rfl⟩ hlt
      have hc := hv.cell
      have x0 : W.cell? ⟨Bx, 0, none⟩ = some (.int .i64 p) := hX.cell 0 _ rfl
      have x1 : W.cell? ⟨Bx, 1, none⟩ = some (.int .i64 c) := hX.cell 1 _ rfl
      have y1 : W.cell? ⟨Bx + 1, 1, none⟩ = some (.int .i64 c') := hY.cell 1 _ rfl
      have HJN : Hid (flat ((pre ++ [((p, c), (p', c'))]).map Vc.jn) = flat (pre.map Vc.jn) ++ [.int .i64 p, .int .i64 (max c c')]) := hide (by rw [List.map_append, flat_append]; rfl)
      clear hX hY
      obtain ⟨m, hm⟩ : ∃ m, (if c < c' then c' else c) = m := ⟨_, rfl⟩
      rw [show max c c' = m by rw [← hm]; split <;> omega] at HJN
      gi_wp2_with (gi_at_builtin; refine wpListIn_append_own _ rfl _ _ 53 rfl w.heap.size 52 i0 _ 2 16 Tryz.underlying53 hi hz0 hz1 hz2 rfl (by decide) _ _ _ rfl (hrow.alloc _) ⟨W.heap.size, 0, none⟩ 1 1 [.int .i64 p, .int .i64 m] rfl rfl (cell_two_new _ _ _ _) (by simp [Value.oneCell']) (by unfold maxLen; omega) (by omega) (by have := hB.size; simp; omega) ?_; intro v' w2 hown' hgrow _; obtain ⟨g', cap', rfl⟩ := ownsRow_succ hown'; obtain ⟨hv1, hv2, hr2, hk2, hb2⟩ := hv.appended (by decide) hrow hB.size hs1 hown' hgrow; have hc1 := hv1.cell; have hf1 := hv1.frozen)
      have hr3 : (w2.setCell ⟨w1.heap.size, 0, none⟩ (.slice (some ⟨g', 0, none⟩) (pre.length + 1) cap')).ownsRow w.heap.size 52 2 (.slice (some ⟨g', 0, none⟩) (pre.length + 1) cap') (pre ++ [((p, c), (p', c'))]).length (flat ((pre ++ [((p, c), (p', c'))]).map Vc.jn)) := by
        rw [unhide HJN, List.length_append]
        exact hr2
      exact ⟨hk2.from _, hb2, ⟨_, hv2, by first | exact hr3 | exact ⟨hr3, trivial⟩⟩, hB.trans hb2⟩
    case done =>
      rintro D zs W hD rfl ⟨⟨u, hv, hrow, _⟩, hB⟩ hK
      have hc := hv.cell
      gi_wp2
      refine ⟨by simp, .inl ⟨_, _, rfl, run_takeDeferred hK, ?_⟩⟩
      have hlen : (Vc.joins xs ys).length = (Vc.sides xs ys).length := by rw [unhide HJ]; simp
      rw [← unhide HJ] at hrow
      obtain ⟨r, cap, rfl, hcap, hsl, hfr⟩ := own_slF hlen (ownsRow_putObj hrow (.deferred none) hK rfl)
      exact ⟨_, results_tmp rfl _ _ _, r, cap, rfl, hcap, hsl, hB.trans (belowK_b (w := w) (Nat.le_refl _) W D _ _ (by omega) hK rfl rfl), hfr⟩
    case stop =>
      rintro D c pre W _ _ h _
      exact h.elim
  · have hvs : ¬ (Vc.check xs = 0 ∧ Vc.check ys = 0) := fun h => hv ((isVec_iff xs ys).2 h)
    have hvf : isVec xs ys = false := by cases h : isVec xs ys with
      | false => rfl
      | true => exact absurd h hv
    have HJ : Hid (Vc.joins xs ys = []) := by unfold Vc.joins; rw [if_neg hvs]; exact hide rfl
    rw [hvf] at KV
    clear hv hvs hvf
    refine callsIn_of_wp_marks Tryz.func97 rfl trivial ?_ rfl
    simp only [Tryz.ntmps97, List.size_toArray, List.length_cons, List.length_nil, Nat.reduceAdd, Nat.reduceSub, Array.replicate_succ, Array.replicate_zero, List.push_toArray, List.append_toArray, List.nil_append, List.cons_append]
    gi_wp2_with (gi_at_call 101; refine (callsIn_wide.2 (unhide KV)).mono ?_; rintro e w1 ⟨rfl, hb1⟩; have HB1 := hide hb1; clear hb1)
    exact ⟨_, results_tmp rfl _ _ _, none, 0, by rw [unhide HJ]; rfl, by rw [unhide HJ]; exact Nat.le_refl _, by rw [unhide HJ]; exact Sl.none _ _, unhide HB1, fun _ e => by cases e⟩

theorem join_any (a b : Option Addr) (ca cb : Nat) (xs ys : List Vc.D) (hx : xs.length ≤ 9223372036854775807) (hy : ys.length ≤ 9223372036854775807) (hca : xs.length ≤ ca) (hcb : ys.length ≤ cb) (w : World) (sa : Sl w a xs) (sb : Sl w b ys) :
    Calls Tryz.prog 97 #[.slice a xs.length ca, .slice b ys.length cb] w fun e w' => ∃ r cap, e = .returned (.slice r (Vc.joins xs ys).length cap) ∧ (Vc.joins xs ys).length ≤ cap ∧ Sl w' r (Vc.joins xs ys) ∧ Below w.heap.size w w' :=
  (callsIn_wide.1 (join_in a b ca cb xs ys hx hy hca hcb w sa sb)).mono fun _ _ ⟨r, cap, h1, h2, h3, h4, _⟩ => ⟨r, cap, h1, h2, h3, h4⟩
theorem join_fresh (a b : Option Addr) (ca cb : Nat) (xs ys : List Vc.D) (hx : xs.length ≤ 9223372036854775807) (hy : ys.length ≤ 9223372036854775807) (hca : xs.length ≤ ca) (hcb : ys.length ≤ cb) (w : World) (sa : Sl w a xs) (sb : Sl w b ys) :
    Calls Tryz.prog 97 #[.slice a xs.length ca, .slice b ys.length cb] w fun e w' => ∃ r cap, e = .returned (.slice r (Vc.joins xs ys).length cap) ∧ (Vc.joins xs ys).length ≤ cap ∧ Sl w' r (Vc.joins xs ys) ∧ Below w.heap.size w w' ∧ Fresh w.heap.size r (Vc.joins xs ys) :=
  callsIn_wide.1 (join_in a b ca cb xs ys hx hy hca hcb w sa sb)
end Go.Proofs.YtklkacmeopfmhaaGreat
