/-
  What Join answers: of each peer the greater count; nothing that lay in memory turns.
-/
import Derived.Test.YtpfighkafmammaaB01
import Derived.WalkSmall
import Derived.Lib.SliceRun
import Derived.Outline
import Derived.Deep.MidRow
import Derived.Deep.WholeRow
import Derived.RegionTactic
import Derived.BigRegion
import Derived.OwnWalk
import Derived.Laws.ResultCell
namespace Go.Proofs.Ytpfighkafmammaa
open Go.RowKit Go.Shelf

attribute [local go_sem] Oper.semAt_some

def isVec (xs ys : List Vc.D) : Bool := (Vc.check xs == 0) && (Vc.check ys == 0)
theorem isVec_iff (xs ys : List Vc.D) : isVec xs ys = true ↔ Vc.check xs = 0 ∧ Vc.check ys = 0 := by
  unfold isVec
  rw [Bool.and_eq_true, beq_iff_eq, beq_iff_eq]

set_option maxRecDepth 100000 in
set_option maxHeartbeats 400000 in
theorem vectors_any (a b : Option Addr) (ca cb : Nat) (xs ys : List Vc.D) (hx : xs.length ≤ 9223372036854775807) (hy : ys.length ≤ 9223372036854775807) (w : World) (sa : Sl w a xs) (sb : Sl w b ys) :
    Calls Try.prog 98 #[.slice a xs.length ca, .slice b ys.length cb] w fun e w' => e = .returned (.bool (isVec xs ys)) ∧ Below w.heap.size w w' := by
  have K1 := hide (check_any a ca xs hx w sa)
  have K2 := hide fun w' (h : Sl w' b ys) => check_any b cb ys hy w' h
  have HSB := hide sb
  unfold isVec
  clear sa sb hx hy
  by_cases hz : Vc.check xs = 0
  · rw [hz] at K1 ⊢
    obtain ⟨C, hC⟩ : ∃ C, Vc.check ys = C := ⟨_, rfl⟩
    rw [hC] at K2 ⊢
    clear hC hz
    go_enter Try.func98, Try.ntmps98
    go_wp2_with fail
    refine (unhide K1).mono ?_
    rintro e w1 ⟨rfl, hb1⟩
    have HB1 := hide hb1
    have HS1 := hide ((unhide HSB).after hb1)
    clear hb1
    go_wp2_with fail
    refine (unhide K2 _ (unhide HS1)).mono ?_
    rintro e w2 ⟨rfl, hb2⟩
    have HB2 := hide (below_grow (unhide HB1) (Nat.le_refl _) hb2)
    clear hb2
    go_wp2_with fail
    go_ret
    exact ⟨by first | rfl | simp, unhide HB2⟩
  · have hzb : (Vc.check xs == 0) = false := beq_eq_false_iff_ne.2 hz
    rw [hzb, Bool.false_and]
    generalize Vc.check xs = C at *
    clear hz
    go_enter Try.func98, Try.ntmps98
    go_wp2_with fail
    refine (unhide K1).mono ?_
    rintro e w1 ⟨rfl, hb1⟩
    have HB1 := hide hb1
    clear hb1
    go_wp2_with fail
    go_ret
    exact ⟨rfl, unhide HB1⟩

/-- The cells of dots. -/
def flat : List Vc.D → List Value
  | [] => []
  | d :: l => .int .i64 d.1 :: .int .i64 d.2 :: flat l
theorem flat_len : ∀ l : List Vc.D, (flat l).length = l.length * 2
  | [] => rfl
  | d :: l => by simp [flat, flat_len l]; omega
theorem flat_append : ∀ l m : List Vc.D, flat (l ++ m) = flat l ++ flat m
  | [], _ => rfl
  | d :: l, m => by simp [flat, flat_append l m]
theorem flat_get : ∀ (l : List Vc.D) (j : Nat) (d : Vc.D), l[j]? = some d → (flat l)[j * 2]? = some (.int .i64 d.1) ∧ (flat l)[j * 2 + 1]? = some (.int .i64 d.2)
  | [], j, d, h => by simp at h
  | e :: l, 0, d, h => by
    simp at h
    subst h
    exact ⟨rfl, rfl⟩
  | e :: l, j + 1, d, h => by
    have := flat_get l j d (by simpa using h)
    rw [show (j + 1) * 2 = j * 2 + 1 + 1 by omega]
    simpa [flat] using this

theorem own_sl {W : World} {base : Nat} {v : Value} {n : Nat} {ds : List Vc.D} (hn : ds.length = n) (h : W.ownsRow base 58 2 v n (flat ds)) : ∃ a cap, v = .slice a ds.length cap ∧ ds.length ≤ cap ∧ Sl W a ds := by
  subst hn
  rcases h.2 with ⟨rfl, h0⟩ | ⟨g, cap, cur, rfl, hg, hh, h1, h2, h3, h4⟩
  · exact ⟨none, 0, by rw [h0], by omega, fun h => by omega⟩
  · refine ⟨_, cap, rfl, h1, fun _ => ⟨g, 0, rfl, (Array.getElem?_eq_some_iff.1 hh).1, fun j d hj => ?_⟩⟩
    have hjl : j < ds.length := (List.getElem?_eq_some_iff.1 hj).1
    obtain ⟨f1, f2⟩ := flat_get ds j d hj
    have e1 : ∀ k u, k < ds.length * 2 → (flat ds)[k]? = some u → W.cell? ⟨g, k, none⟩ = some u := by
      intro k u hk hu
      rw [cell_of_row W g k cur 58 (0, 0) hh]
      have h5 : (cur.toList.take (ds.length * 2))[k]? = (flat ds)[k]? := by rw [h4]
      rw [List.getElem?_take_of_lt hk, hu] at h5
      simpa using h5
    rw [Nat.zero_add]
    exact ⟨e1 _ _ (by omega) f1, e1 _ _ (by omega) f2⟩

/-- What lies in blocks that are new. -/
def Fresh (n : Nat) (r : Option Addr) (ds : List Vc.D) : Prop := ∀ ad, r = some ad → 0 < ds.length → n ≤ ad.block
theorem own_slF {W : World} {base : Nat} {v : Value} {n : Nat} {ds : List Vc.D} (hn : ds.length = n) (h : W.ownsRow base 58 2 v n (flat ds)) : ∃ a cap, v = .slice a ds.length cap ∧ ds.length ≤ cap ∧ Sl W a ds ∧ Fresh base a ds := by
  obtain ⟨a, cap, rfl, h1, h2⟩ := own_sl hn h
  refine ⟨a, cap, rfl, h1, h2, fun ad e h0 => ?_⟩
  rcases h.2 with ⟨e1, h0'⟩ | ⟨g, cap', cur, e1, hg, _⟩
  · omega
  · injection e1 with e1
    rw [e] at e1
    injection e1 with e1
    subst e1
    exact hg

theorem sides_stops (n : Nat) (hn : 2 ≤ n) (B1 B2 n₀ : Nat) (a b : Option Addr) (ca cb : Nat) (xs ys : List Vc.D) (hla : xs.length ≤ 64) (hlb : ys.length ≤ 64) (hca : xs.length ≤ ca) (hcb : ys.length ≤ cb)
    (ua : Vc.Up (-1) xs) (ub : Vc.Up (-1) ys) (w : World) (hn₀ : n₀ ≤ w.heap.size) (h1 : Boxed w B1 59 (.slice a xs.length ca)) (h2 : Boxed w B2 59 (.slice b ys.length cb)) (sa : SlB n₀ w a xs) (sb : SlB n₀ w b ys) :
    SeqStopsK Fence.wide n Try.prog 104 #[.pointer (some ⟨B1, 0, none⟩), .pointer (some ⟨B2, 0, none⟩)] (fun s : Vc.D × Vc.D => #[dotV s.1, dotV s.2]) (Below n₀) (fun zs => zs = Vc.sides xs ys) (fun pre => pre <+: Vc.sides xs ys) 128 w := fun l J Jx W hW hJ _ hY h0 =>
  sides1_in n hn l B1 B2 n₀ a b ca cb xs ys hla hlb hca hcb ua ub J Jx (fun pre A B h hb => hJ pre A B none h ⟨hb.os, hb.tape, hb.output, hb.size, fun k hk _ => hb.block k hk⟩ (fun r e => by cases e)) hY
    W (Nat.le_trans hn₀ hW.size) ((hW.cell (p := ⟨B1, 0, none⟩) h1.lt).trans h1.cell) ((hW.cell (p := ⟨B2, 0, none⟩) h2.lt).trans h2.cell) (sa.below (hW.mono hn₀)) (sb.below (hW.mono hn₀)) h0

theorem VRow.own {β : Type} (B T : Nat) (vs : List Value) : Own (fun (_ : β) W => VRow W B T vs) := fun _ X _ _ hs hg hrow =>
  (hg.block B hs.lt (fun e' => by obtain ⟨o, ho, hc⟩ := hrow B e'.symm; rw [show X.heap[B]? = _ from hs] at ho; cases ho; cases hc)).trans hs

theorem info58 : (Try.prog.info? 58).map (fun i => (i.zero, i.size, i.bytes)) = some (some (.agg #[.int .i64 0, .int .i64 0]), 2, 16) := by kernel_rfl

set_option maxRecDepth 100000 in
set_option maxHeartbeats 2000000 in
theorem join_in (a b : Option Addr) (ca cb : Nat) (xs ys : List Vc.D) (hx : xs.length ≤ 9223372036854775807) (hy : ys.length ≤ 9223372036854775807) (hca : xs.length ≤ ca) (hcb : ys.length ≤ cb) (w : World) (sa : Sl w a xs) (sb : Sl w b ys) :
    CallsIn Fence.wide 3 Try.prog 94 #[.slice a xs.length ca, .slice b ys.length cb] w fun e w' => ∃ r cap, e = .returned (.slice r (Vc.joins xs ys).length cap) ∧ (Vc.joins xs ys).length ≤ cap ∧ Sl w' r (Vc.joins xs ys) ∧ Below w.heap.size w w' ∧ Fresh w.heap.size r (Vc.joins xs ys) := by
  have h53 : Fence.wide.fn 98 := trivial
  have h67 : Fence.wide.fn 99 := trivial
  obtain ⟨i0, hi, hz0, hz1, hz2⟩ := info_parts info58
  have KV := hide (vectors_any a b ca cb xs ys hx hy w sa sb)
  have HSA := hide sa.b
  have HSB := hide sb.b
  clear sa sb
  by_cases hv : isVec xs ys = true
  · have hvs := (isVec_iff xs ys).1 hv
    have ua := (Vc.check_zero xs).1 hvs.1
    have ub := (Vc.check_zero ys).1 hvs.2
    have HJ : Hid (Vc.joins xs ys = (Vc.sides xs ys).map Vc.jn) := by unfold Vc.joins; rw [if_pos hvs]; exact hide rfl
    have hla := Vc.vec_len ua
    have hlb := Vc.vec_len ub
    have HUA := hide ua
    have HUB := hide ub
    rw [hv] at KV
    clear hv hvs ua ub
    refine callsIn_of_wp_marks Try.func94 rfl trivial ?_ rfl
    simp only [Try.ntmps94, List.size_toArray, List.length_cons, List.length_nil, Nat.reduceAdd, Nat.reduceSub, Array.replicate_succ, Array.replicate_zero, List.push_toArray, List.append_toArray, List.nil_append, List.cons_append]
    gi_wp2_with (first
      | (gi_at_call 98; refine (callsIn_wide.2 (unhide KV)).mono ?_; rintro e w1 ⟨rfl, hb1⟩; have HB1 := hide hb1; clear hb1)
      | (gi_at_call 99; refine (sides_in Fence.wide 2 h67 rfl _ _ _ _ _ _ _).mono ?_; rintro e w' ⟨rfl, rfl⟩))
    have hs1 := (unhide HB1).size
    have bO := ((Boxed.new w1 59 (.slice none 0 0)).alloc (.cells #[.slice a xs.length ca] 59)).alloc (.cells #[.slice b ys.length cb] 59)
    have bA := (Boxed.new (w1.alloc (.cells #[.slice none 0 0] 59)) 59 (.slice a xs.length ca)).alloc (.cells #[.slice b ys.length cb] 59)
    have bB := Boxed.new ((w1.alloc (.cells #[.slice none 0 0] 59)).alloc (.cells #[.slice a xs.length ca] 59)) 59 (.slice b ys.length cb)
    simp only [World.size_alloc] at bA bB
    have hB0 : Below w.heap.size w (((w1.alloc (.cells #[.slice none 0 0] 59)).alloc (.cells #[.slice a xs.length ca] 59)).alloc (.cells #[.slice b ys.length cb] 59)) := (((unhide HB1).alloc hs1 _).alloc (by simp; omega) _).alloc (by simp; omega) _
    have hsz : (((w1.alloc (.cells #[.slice none 0 0] 59)).alloc (.cells #[.slice a xs.length ca] 59)).alloc (.cells #[.slice b ys.length cb] 59)).heap.size = w1.heap.size + 3 := by simp
    obtain ⟨W0, hW0⟩ : ∃ W0, ((w1.alloc (.cells #[.slice none 0 0] 59)).alloc (.cells #[.slice a xs.length ca] 59)).alloc (.cells #[.slice b ys.length cb] 59) = W0 := ⟨_, rfl⟩
    rw [hW0] at bO bA bB hB0 hsz ⊢
    clear hW0
    refine wpIn_rangeFunc_ownH rfl (by decide) (gf := 104) (lb := #[.pointer (some ⟨w1.heap.size + 1, 0, none⟩), .pointer (some ⟨w1.heap.size + 1 + 1, 0, none⟩)]) rfl trivial (enters_of Try.func104 (by kernel_rfl) rfl)
      (sides_stops 2 (Nat.le_refl _) (w1.heap.size + 1) (w1.heap.size + 1 + 1) w.heap.size a b ca cb xs ys hla hlb hca hcb (unhide HUA) (unhide HUB) W0 hB0.size bA bB ((unhide HSA).below hB0) ((unhide HSB).below hB0)) belowK_t (belowK_b (by omega)) (Below.refl _ _) (fun _ => rfl)
      (fun pre W => (∃ u, Boxed W w1.heap.size 59 u ∧ W.ownsRow w.heap.size 58 2 u pre.length (flat (pre.map Vc.jn)) ∧ True) ∧ Below w.heap.size w W)
      (fun _ _ _ => False)
      (OwnFrom.and (Own.from (holdsRow_own w.heap.size w1.heap.size 59 58 2 (fun pre : List (Vc.D × Vc.D) => pre.length) (fun pre => flat (pre.map Vc.jn)) (fun _ _ => True)) _) (ownFrom_below (Nat.le_refl _) (by omega)))
      (fun _ _ _ _ _ hs _ _ => hs)
      ⟨⟨_, bO, World.ownsRow_nil _ _ _ _, trivial⟩, hB0⟩
      (fun s a' W => ∃ Bx, w1.heap.size < Bx ∧ VRow W Bx 58 [.int .i64 s.1.1, .int .i64 s.1.2] ∧ VRow W (Bx + 1) 58 [.int .i64 s.2.1, .int .i64 s.2.2] ∧ a' = { tmps := #[.slice a xs.length ca, .slice b ys.length cb, undef, undef, .slice none 0 0, .pointer (some ⟨w1.heap.size, 0, none⟩), .pointer (some ⟨Bx, 0, none⟩), .pointer (some ⟨Bx + 1, 0, none⟩), .slice a xs.length ca, .slice b ys.length cb, .bool true, .bool false, .slice a xs.length ca, .slice b ys.length cb, .func (.func 104) #[] #[.pointer (some ⟨w1.heap.size + 1, 0, none⟩), .pointer (some ⟨w1.heap.size + 1 + 1, 0, none⟩)], dotV s.1, dotV s.2, undef, undef, undef, undef, undef, undef, undef, undef, undef, undef, undef, undef], defers := [] })
      (fun s a' _ X Y row hs hg hr => by obtain ⟨Bx, h1, h2, h3, h4⟩ := hs; exact ⟨Bx, h1, VRow.own Bx 58 _ () X Y row h2 hg (fun r e => (hr r e).2), VRow.own (Bx + 1) 58 _ () X Y row h3 hg (fun r e => (hr r e).2), h4⟩)
      ?assign ?body ?done ?stop
    case assign =>
      rintro l pre ⟨⟨p, c⟩, ⟨p', c'⟩⟩ W K ⟨⟨u, hv, hrow, _⟩, hB⟩ hK
      simp only [dotV]
      gi_wp2
      have hsW := hB.size
      exact hK _ _ (((KeepsOthers.alloc _ _).trans (KeepsOthers.alloc _ _)).from _) (((Below.refl _ W).alloc hsW _).alloc (by simp; omega) _) ⟨⟨u, (hv.alloc _).alloc _, (hrow.alloc _).alloc _, trivial⟩, (hB.alloc hsW _).alloc (by simp; omega) _⟩
        ⟨W.heap.size, hv.lt, (VRow.new W 58 [.int .i64 p, .int .i64 c]).alloc _, VRow.newAt (vs := [.int .i64 p', .int .i64 c']) (by simp), rfl⟩
    case body =>
      rintro l pre ⟨⟨p, c⟩, ⟨p', c'⟩⟩ a' W hl _ ⟨⟨u, hv, hrow, _⟩, hB⟩ ⟨Bx, hBx, hX, hY, rfl⟩ hlt
      have hc := hv.cell
      have x0 : W.cell? ⟨Bx, 0, none⟩ = some (.int .i64 p) := hX.cell 0 _ rfl
      have x1 : W.cell? ⟨Bx, 1, none⟩ = some (.int .i64 c) := hX.cell 1 _ rfl
      have y1 : W.cell? ⟨Bx + 1, 1, none⟩ = some (.int .i64 c') := hY.cell 1 _ rfl
      have HJN : Hid (flat ((pre ++ [((p, c), (p', c'))]).map Vc.jn) = flat (pre.map Vc.jn) ++ [.int .i64 p, .int .i64 (max c c')]) := hide (by rw [List.map_append, flat_append]; rfl)
      clear hX hY
      obtain ⟨m, hm⟩ : ∃ m, (if c < c' then c' else c) = m := ⟨_, rfl⟩
      rw [show max c c' = m by rw [← hm]; split <;> omega] at HJN
      gi_wp2_with (gi_at_builtin; refine wpListIn_append_own _ rfl _ _ 59 rfl w.heap.size 58 i0 _ 2 16 Try.underlying59 hi hz0 hz1 hz2 rfl (by decide) _ _ _ rfl (hrow.alloc _) ⟨W.heap.size, 0, none⟩ 1 1 [.int .i64 p, .int .i64 m] rfl rfl (cell_two_new _ _ _ _) (by simp [Value.oneCell']) (by unfold maxLen; omega) (by omega) (by have := hB.size; simp; omega) ?_; intro v' w2 hown' hgrow _; obtain ⟨g', cap', rfl⟩ := ownsRow_succ hown'; obtain ⟨hv1, hv2, hr2, hk2, hb2⟩ := hv.appended (by decide) hrow hB.size hs1 hown' hgrow; have hc1 := hv1.cell; have hf1 := hv1.frozen)
      have hr3 : (w2.setCell ⟨w1.heap.size, 0, none⟩ (.slice (some ⟨g', 0, none⟩) (pre.length + 1) cap')).ownsRow w.heap.size 58 2 (.slice (some ⟨g', 0, none⟩) (pre.length + 1) cap') (pre ++ [((p, c), (p', c'))]).length (flat ((pre ++ [((p, c), (p', c'))]).map Vc.jn)) := by
        rw [unhide HJN, List.length_append]
        exact hr2
      exact ⟨hk2.from _, hb2, ⟨_, hv2, by first | exact hr3 | exact ⟨hr3, trivial⟩⟩, hB.trans hb2⟩
    case done =>
      rintro D zs W hD rfl ⟨⟨u, hv, hrow, _⟩, hB⟩ hK
      have hc := hv.cell
      gi_wp2
      refine ⟨by simp, .inl ⟨_, _, rfl, run_takeDeferred hK, ?_⟩⟩
      have hlen : (Vc.joins xs ys).length = (Vc.sides xs ys).length := by rw [unhide HJ]; simp
      rw [← unhide HJ] at hrow
      obtain ⟨r, cap, rfl, hcap, hsl, hfr⟩ := own_slF hlen (ownsRow_putObj hrow (.deferred none) hK rfl)
      exact ⟨_, results_tmp rfl _ _ _, r, cap, rfl, hcap, hsl, hB.trans (belowK_b (w := w) (Nat.le_refl _) W D _ _ (by omega) hK rfl rfl), hfr⟩
    case stop =>
      rintro D c pre W _ _ h _
      exact h.elim
  · have hvs : ¬ (Vc.check xs = 0 ∧ Vc.check ys = 0) := fun h => hv ((isVec_iff xs ys).2 h)
    have hvf : isVec xs ys = false := by cases h : isVec xs ys with
      | false => rfl
      | true => exact absurd h hv
    have HJ : Hid (Vc.joins xs ys = []) := by unfold Vc.joins; rw [if_neg hvs]; exact hide rfl
    rw [hvf] at KV
    clear hv hvs hvf
    refine callsIn_of_wp_marks Try.func94 rfl trivial ?_ rfl
    simp only [Try.ntmps94, List.size_toArray, List.length_cons, List.length_nil, Nat.reduceAdd, Nat.reduceSub, Array.replicate_succ, Array.replicate_zero, List.push_toArray, List.append_toArray, List.nil_append, List.cons_append]
    gi_wp2_with (gi_at_call 98; refine (callsIn_wide.2 (unhide KV)).mono ?_; rintro e w1 ⟨rfl, hb1⟩; have HB1 := hide hb1; clear hb1)
    exact ⟨_, results_tmp rfl _ _ _, none, 0, by rw [unhide HJ]; rfl, by rw [unhide HJ]; exact Nat.le_refl _, by rw [unhide HJ]; exact Sl.none _ _, unhide HB1, fun _ e => by cases e⟩

theorem join_any (a b : Option Addr) (ca cb : Nat) (xs ys : List Vc.D) (hx : xs.length ≤ 9223372036854775807) (hy : ys.length ≤ 9223372036854775807) (hca : xs.length ≤ ca) (hcb : ys.length ≤ cb) (w : World) (sa : Sl w a xs) (sb : Sl w b ys) :
    Calls Try.prog 94 #[.slice a xs.length ca, .slice b ys.length cb] w fun e w' => ∃ r cap, e = .returned (.slice r (Vc.joins xs ys).length cap) ∧ (Vc.joins xs ys).length ≤ cap ∧ Sl w' r (Vc.joins xs ys) ∧ Below w.heap.size w w' :=
  (callsIn_wide.1 (join_in a b ca cb xs ys hx hy hca hcb w sa sb)).mono fun _ _ ⟨r, cap, h1, h2, h3, h4, _⟩ => ⟨r, cap, h1, h2, h3, h4⟩
theorem join_fresh (a b : Option Addr) (ca cb : Nat) (xs ys : List Vc.D) (hx : xs.length ≤ 9223372036854775807) (hy : ys.length ≤ 9223372036854775807) (hca : xs.length ≤ ca) (hcb : ys.length ≤ cb) (w : World) (sa : Sl w a xs) (sb : Sl w b ys) :
    Calls Try.prog 94 #[.slice a xs.length ca, .slice b ys.length cb] w fun e w' => ∃ r cap, e = .returned (.slice r (Vc.joins xs ys).length cap) ∧ (Vc.joins xs ys).length ≤ cap ∧ Sl w' r (Vc.joins xs ys) ∧ Below w.heap.size w w' ∧ Fresh w.heap.size r (Vc.joins xs ys) :=
  callsIn_wide.1 (join_in a b ca cb xs ys hx hy hca hcb w sa sb)
end Go.Proofs.Ytpfighkafmammaa

/-
  What Get, Has and Size answer, the program's and the document's.
-/

namespace Go.Proofs.Ytpfighkafmammaa
open Go.RowKit

theorem look_step (ds : List Vc.D) (k : Nat) (d : Vc.D) (p : Int) (h : ds[k]? = some d) : Vc.look (ds.drop k) p = if d.1 = p then d.2 else Vc.look (ds.drop (k + 1)) p := by
  have hk := (List.getElem?_eq_some_iff.1 h).1
  rw [List.drop_eq_getElem_cons hk, (List.getElem?_eq_some_iff.1 h).2]
  rfl
theorem look_end (ds : List Vc.D) (p : Int) : Vc.look (ds.drop ds.length) p = 0 := by rw [List.drop_length]; rfl

set_option maxRecDepth 100000 in
set_option maxHeartbeats 1000000 in
theorem get_any (a : Option Addr) (cap : Nat) (ds : List Vc.D) (hl : ds.length ≤ 9223372036854775807) (q : Int) (w : World) (h : Sl w a ds) :
    Calls Try.prog 93 #[.slice a ds.length cap, .int .i64 q] w fun e w' => e = .returned (.int .i64 (Vc.get ds q)) ∧ Below w.heap.size w w' := by
  have HS := hide h
  have KC := hide (check_any a cap ds hl w h)
  obtain ⟨G, hG⟩ : ∃ G, Vc.get ds q = G := ⟨_, rfl⟩
  rw [hG]
  by_cases hz : Vc.check ds = 0
  · have HC : Hid (G = Vc.look (ds.drop 0) q) := by rw [← hG]; unfold Vc.get; rw [if_pos hz]; exact hide rfl
    rw [hz] at KC
    clear h hG hz
    go_enter Try.func93, Try.ntmps93
    go_wp2_with (go_at_call 79; refine (unhide KC).mono ?_; rintro e w1 ⟨rfl, hb1⟩; have HB1 := hide hb1; clear hb1)
    go_loopw [12] (fun i wr => ∃ k : Nat, k ≤ ds.length ∧ i = .int .i64 k ∧ G = Vc.look (ds.drop k) q ∧ Below w.heap.size w wr) (fun i _ => ds.length - (intOf i).toNat)
    case atStart => exact ⟨0, Nat.zero_le _, rfl, unhide HC, unhide HB1⟩
    case round =>
      obtain ⟨k, hk, rfl, hc, hb⟩ := hrel
      have HC1 := hide hc
      have HB := hide hb
      clear hc hb HC
      by_cases hlt : k < ds.length
      · obtain ⟨⟨p, c⟩, hd⟩ : ∃ d, ds[k]? = some d := ⟨_, List.getElem?_eq_getElem hlt⟩
        obtain ⟨g, o, rfl, hg, hcell⟩ := unhide HS (by omega)
        have c0 : wr.cell? ⟨g, o + k * 2, none⟩ = some (.int .i64 p) := ((unhide HB).cell (p := ⟨g, o + k * 2, none⟩) hg).trans (hcell k _ hd).1
        have c1 : wr.cell? ⟨g, o + k * 2 + 1, none⟩ = some (.int .i64 c) := ((unhide HB).cell (p := ⟨g, o + k * 2 + 1, none⟩) hg).trans (hcell k _ hd).2
        have HST := hide (look_step ds k (p, c) q hd)
        clear hd hg hcell
        by_cases he : p = q
        · have HNX : Hid (G = c) := by
            have h := unhide HST
            rw [if_pos (show (p, c).1 = q from he)] at h
            exact hide (by rw [unhide HC1, h])
          have heb : (p == q) = true := beq_iff_eq.2 he
          clear he
          go_wp2_with fail
          go_ret
          exact ⟨ret_int (unhide HNX).symm, (unhide HB).alloc (unhide HB).size _⟩
        · have HNX : Hid (G = Vc.look (ds.drop (k + 1)) q) := by
            have h := unhide HST
            rw [if_neg (show ¬ (p, c).1 = q from he)] at h
            exact hide (by rw [unhide HC1, h])
          have heb : (p == q) = false := beq_eq_false_iff_ne.2 he
          clear he
          go_wp2_with fail
          go_roundw
          case rel => exact ⟨k + 1, by omega, by go_num, unhide HNX, (unhide HB).alloc (unhide HB).size _⟩
          case measure => simp [intOf]; omega
      · obtain rfl : k = ds.length := by omega
        have HNX : Hid (G = 0) := by rw [unhide HC1]; exact look_end ds q
        go_wp2_with fail
        go_ret
        exact ⟨ret_int (unhide HNX).symm, unhide HB⟩
  · have HC : Hid (G = 0) := by rw [← hG]; unfold Vc.get; rw [if_neg hz]; exact hide rfl
    have hzb : (Vc.check ds != 0) = true := bne_iff_ne.2 hz
    generalize Vc.check ds = C at *
    clear h hG hz
    go_enter Try.func93, Try.ntmps93
    go_wp2_with (go_at_call 79; refine (unhide KC).mono ?_; rintro e w1 ⟨rfl, hb1⟩; have HB1 := hide hb1; clear hb1)
    go_ret
    exact ⟨ret_int (unhide HC).symm, unhide HB1⟩

set_option maxRecDepth 100000 in
set_option maxHeartbeats 1000000 in
theorem refGet_any (a : Option Addr) (cap : Nat) (ds : List Vc.D) (hl : ds.length ≤ 9223372036854775807) (q : Int) (w : World) (h : Sl w a ds) :
    Calls Try.prog 95 #[.slice a ds.length cap, .int .i64 q] w fun e w' => e = .returned (.int .i64 (Vc.get ds q)) ∧ Below w.heap.size w w' := by
  have HS := hide h
  have KC := hide (refCheck_any a cap ds hl w h)
  obtain ⟨G, hG⟩ : ∃ G, Vc.get ds q = G := ⟨_, rfl⟩
  rw [hG]
  by_cases hz : Vc.check ds = 0
  · have HC : Hid (G = Vc.look (ds.drop 0) q) := by rw [← hG]; unfold Vc.get; rw [if_pos hz]; exact hide rfl
    rw [hz] at KC
    clear h hG hz
    go_enter Try.func95, Try.ntmps95
    go_wp2_with (go_at_call 85; refine (unhide KC).mono ?_; rintro e w1 ⟨rfl, hb1⟩; have HB1 := hide hb1; clear hb1)
    go_loopw [5] (fun i wr => ∃ k : Nat, k ≤ ds.length ∧ i = .int .i64 k ∧ G = Vc.look (ds.drop k) q ∧ Below w.heap.size w wr) (fun i _ => ds.length - (intOf i).toNat)
    case atStart => exact ⟨0, Nat.zero_le _, rfl, unhide HC, unhide HB1⟩
    case round =>
      obtain ⟨k, hk, rfl, hc, hb⟩ := hrel
      have HC1 := hide hc
      have HB := hide hb
      clear hc hb HC
      by_cases hlt : k < ds.length
      · obtain ⟨⟨p, c⟩, hd⟩ : ∃ d, ds[k]? = some d := ⟨_, List.getElem?_eq_getElem hlt⟩
        obtain ⟨g, o, rfl, hg, hcell⟩ := unhide HS (by omega)
        have c0 : wr.cell? ⟨g, o + k * 2, none⟩ = some (.int .i64 p) := ((unhide HB).cell (p := ⟨g, o + k * 2, none⟩) hg).trans (hcell k _ hd).1
        have c1 : wr.cell? ⟨g, o + k * 2 + 1, none⟩ = some (.int .i64 c) := ((unhide HB).cell (p := ⟨g, o + k * 2 + 1, none⟩) hg).trans (hcell k _ hd).2
        have HST := hide (look_step ds k (p, c) q hd)
        clear hd hg hcell
        by_cases he : p = q
        · have HNX : Hid (G = c) := by
            have h := unhide HST
            rw [if_pos (show (p, c).1 = q from he)] at h
            exact hide (by rw [unhide HC1, h])
          have heb : (p == q) = true := beq_iff_eq.2 he
          clear he
          go_wp2_with fail
          go_ret
          exact ⟨ret_int (unhide HNX).symm, unhide HB⟩
        · have HNX : Hid (G = Vc.look (ds.drop (k + 1)) q) := by
            have h := unhide HST
            rw [if_neg (show ¬ (p, c).1 = q from he)] at h
            exact hide (by rw [unhide HC1, h])
          have heb : (p == q) = false := beq_eq_false_iff_ne.2 he
          clear he
          go_wp2_with fail
          go_roundw
          case rel => exact ⟨k + 1, by omega, by go_num, unhide HNX, unhide HB⟩
          case measure => simp [intOf]; omega
      · obtain rfl : k = ds.length := by omega
        have HNX : Hid (G = 0) := by rw [unhide HC1]; exact look_end ds q
        go_wp2_with fail
        go_ret
        exact ⟨ret_int (unhide HNX).symm, unhide HB⟩
  · have HC : Hid (G = 0) := by rw [← hG]; unfold Vc.get; rw [if_neg hz]; exact hide rfl
    have hzb : (Vc.check ds != 0) = true := bne_iff_ne.2 hz
    generalize Vc.check ds = C at *
    clear h hG hz
    go_enter Try.func95, Try.ntmps95
    go_wp2_with (go_at_call 85; refine (unhide KC).mono ?_; rintro e w1 ⟨rfl, hb1⟩; have HB1 := hide hb1; clear hb1)
    go_ret
    exact ⟨ret_int (unhide HC).symm, unhide HB1⟩
end Go.Proofs.Ytpfighkafmammaa

/-
  Small facts that many walks want: what a world keeps, rows and slices that are kept.
-/

namespace Go.Proofs.Ytpfighkafmammaa
open Go.RowKit

theorem below_alloc' {w : World} (o : Obj) : Below w.heap.size w (w.alloc o) := (Below.refl _ _).alloc (Nat.le_refl _) o
theorem own_after {w w' : World} {base e size n : Nat} {v : Value} {xs : List Value} (h : w.ownsRow base e size v n xs) (hb : Below w.heap.size w w') : w'.ownsRow base e size v n xs := by
  refine ⟨h.1, ?_⟩
  rcases h.2 with h2 | ⟨g, cap, cur, e1, e2, e3, e4⟩
  · exact .inl h2
  · exact .inr ⟨g, cap, cur, e1, e2, (hb.block g (Array.getElem?_eq_some_iff.1 e3).1).trans e3, e4⟩
theorem own_set {w : World} {base e size n : Nat} {v : Value} {xs : List Value} (h : w.ownsRow base e size v n xs) {B : Nat} (hB : B < base) (k : Nat) (u : Value) : (w.setCell ⟨B, k, none⟩ u).ownsRow base e size v n xs := by
  refine ⟨h.1, ?_⟩
  rcases h.2 with h2 | ⟨g, cap, cur, e1, e2, e3, e4⟩
  · exact .inl h2
  · exact .inr ⟨g, cap, cur, e1, e2, (heap_setCell_other w ⟨B, k, none⟩ g u (by show g ≠ B; omega)).trans e3, e4⟩
theorem VRow.setNe {W : World} {A T : Nat} {vs : List Value} (h : VRow W A T vs) {B : Nat} (hne : A ≠ B) (k : Nat) (u : Value) : VRow (W.setCell ⟨B, k, none⟩ u) A T vs := (heap_setCell_other W ⟨B, k, none⟩ A u hne).trans h
theorem VRow.after {W W' : World} {A T : Nat} {vs : List Value} (h : VRow W A T vs) (hb : Below W.heap.size W W') : VRow W' A T vs := h.below hb h.lt
theorem VRow.grown {W W' : World} {A T : Nat} {vs : List Value} {row : Option Nat} (h : VRow W A T vs) (hg : W.grownBy W' row) (hne : some A ≠ row) : VRow W' A T vs := (hg.block A h.lt hne).trans h
theorem below_set {w W : World} {n B : Nat} (h : Below n w W) (hB : n ≤ B) (k : Nat) (u : Value) : Below n w (W.setCell ⟨B, k, none⟩ u) := h.setCell (p := ⟨B, k, none⟩) hB u

theorem Sl.only {w w' : World} {B T : Nat} {vs : List Value} {r : Option Addr} {ds : List Vc.D} (h : Sl w r ds) (hr : VRow w B T vs) (hv : ∀ v ∈ vs, ∀ k n, v ≠ .int k n) (ho : Only B w w') : Sl w' r ds := fun h0 => by
  obtain ⟨g, o, e, hg, hc⟩ := h h0
  have hne : g ≠ B := by
    rintro rfl
    obtain ⟨d, hd⟩ : ∃ d, ds[0]? = some d := ⟨_, List.getElem?_eq_getElem h0⟩
    have h1 := (hc 0 d hd).1
    rw [cell_of_row w g _ vs.toArray T (0, 0) hr] at h1
    exact hv _ (List.mem_of_getElem? (by simpa using h1)) _ _ rfl
  have e1 : ∀ k, w'.cell? ⟨g, k, Option.none⟩ = w.cell? ⟨g, k, Option.none⟩ := fun k => World.cell?_of_block (w := w) (ho.block g hne)
  refine ⟨g, o, e, by rw [ho.size]; exact hg, fun j d hj => ?_⟩
  rw [e1, e1]
  exact hc j d hj
theorem two_slices (x y : Option Addr) (a b c d : Nat) : ∀ v ∈ [Value.slice x a b, .slice y c d], ∀ k n, v ≠ .int k n := by
  intro v hv k n e
  subst e
  simp at hv
theorem two_one (x y : Option Addr) (a b c d : Nat) : ∀ v ∈ [Value.slice x a b, .slice y c d], v.oneCell' = true := by simp [Value.oneCell']

theorem Only.trans {B : Nat} {w w' w'' : World} (h : Only B w w') (h' : Only B w' w'') : Only B w w'' :=
  ⟨h'.os.trans h.os, h'.tape.trans h.tape, h'.output.trans h.output, h'.size.trans h.size, fun j hj => (h'.block j hj).trans (h.block j hj)⟩
theorem only_set (w : World) (B k : Nat) (v : Value) : Only B w (w.setCell ⟨B, k, none⟩ v) :=
  ⟨rfl, rfl, rfl, by simp, fun j hj => heap_setCell_other w ⟨B, k, none⟩ j v hj⟩
theorem flat_one : ∀ (l : List Vc.D), ∀ v ∈ flat l, v.oneCell' = true
  | [], _, h => by cases h
  | d :: l, v, h => by
    rcases List.mem_cons.1 h with rfl | h
    · rfl
    · rcases List.mem_cons.1 h with rfl | h
      · rfl
      · exact flat_one l v h
theorem sl_cells {W : World} {g o : Nat} {ds : List Vc.D} (hc : ∀ (j : Nat) (d : Vc.D), ds[j]? = some d → W.cell? ⟨g, o + j * 2, none⟩ = some (.int .i64 d.1) ∧ W.cell? ⟨g, o + j * 2 + 1, none⟩ = some (.int .i64 d.2)) :
    ∀ j u, (flat ds)[j]? = some u → W.cell? ((⟨g, o, none⟩ : Addr).add j) = some u := by
  intro j u hu
  have hj := (List.getElem?_eq_some_iff.1 hu).1
  rw [flat_len] at hj
  obtain ⟨d, hd⟩ : ∃ d, ds[j / 2]? = some d := ⟨_, List.getElem?_eq_getElem (by omega)⟩
  obtain ⟨f1, f2⟩ := flat_get ds (j / 2) d hd
  obtain ⟨c1, c2⟩ := hc (j / 2) d hd
  rw [show (⟨g, o, none⟩ : Addr).add j = ⟨g, o + j, none⟩ by unfold Addr.add; split <;> simp_all]
  rcases (show j = j / 2 * 2 ∨ j = j / 2 * 2 + 1 by omega) with e | e
  · rw [← e] at f1 c1
    rw [f1] at hu
    rw [c1, hu]
  · rw [← e] at f2
    rw [show o + j / 2 * 2 + 1 = o + j by omega] at c2
    rw [f2] at hu
    rw [c2, hu]
theorem keep_alloc' {w w' : World} (h : Below w.heap.size w w') (o : Obj) : Below w.heap.size w (w'.alloc o) := h.alloc h.size o
theorem take_snocA {α : Type} {E : List α} {k : Nat} {d : α} (h : E[k]? = some d) : E.take (k + 1) = E.take k ++ [d] := by
  have hk := (List.getElem?_eq_some_iff.1 h).1
  rw [List.take_succ_eq_append_getElem hk, (List.getElem?_eq_some_iff.1 h).2]
end Go.Proofs.Ytpfighkafmammaa

/-
  Rows of values in a block: their cells, a store into one, what stays as it was; a row as a whole.
-/

namespace Go.Proofs.Ytpfighkafmammaa
open Go.RowKit

/-- Of what was there nothing turns but the blocks that are owned. -/
structure Beside (own : Nat → Prop) (w w' : World) : Prop where
  os : w'.os = w.os
  tape : w'.tape = w.tape
  output : w'.output = w.output
  size : w.heap.size ≤ w'.heap.size
  block : ∀ k, k < w.heap.size → ¬ own k → w'.heap[k]? = w.heap[k]?
theorem beside_of {own : Nat → Prop} {w w' : World} (h : Below w.heap.size w w') : Beside own w w' := ⟨h.os, h.tape, h.output, h.size, fun k hk _ => h.block k hk⟩
theorem Beside.refl (own : Nat → Prop) (w : World) : Beside own w w := beside_of (Below.refl _ _)
theorem Beside.trans {own : Nat → Prop} {a b c : World} (h : Beside own a b) (h2 : Beside own b c) : Beside own a c :=
  ⟨h2.os.trans h.os, h2.tape.trans h.tape, h2.output.trans h.output, Nat.le_trans h.size h2.size, fun k hk hk2 => (h2.block k (Nat.lt_of_lt_of_le hk h.size) hk2).trans (h.block k hk hk2)⟩
theorem Beside.below {own : Nat → Prop} {w w' : World} {B : Nat} (h : Beside own w w') (hB : B ≤ w.heap.size) (ho : ∀ g, own g → B ≤ g) : Below B w w' :=
  ⟨h.os, h.tape, h.output, h.size, fun k hk => h.block k (by omega) fun hk' => by have := ho k hk'; omega⟩
theorem beside_set (q k : Nat) (w : World) (v : Value) : Beside (· = q) w (w.setCell ⟨q, k, none⟩ v) :=
  ⟨rfl, rfl, rfl, by simp, fun j _ hj => heap_setCell_other w ⟨q, k, none⟩ j v hj⟩
theorem VRow.beside {own : Nat → Prop} {W W' : World} {A T : Nat} {vs : List Value} (h : VRow W A T vs) (hb : Beside own W W') (hA : ¬ own A) : VRow W' A T vs := (hb.block A h.lt hA).trans h
end Go.Proofs.Ytpfighkafmammaa

/-
  Plain facts on pieces that are put and taken: no program, no world. Conditions: none but those that each theorem names.
-/

namespace Go.Proofs.Ytpfighkafmammaa
open Go.RowKit

/-- Bytes as a text. -/
def str (l : List UInt8) : ByteArray := ⟨l.toArray⟩
theorem str_size (l : List UInt8) : (str l).size = l.length := by simp [str, ByteArray.size]
theorem str_data (l : List UInt8) : (str l).data.toList = l := by simp [str]
theorem str_of (s : ByteArray) : str s.data.toList = s := by cases s; simp [str]
theorem str_append (a b : List UInt8) : str a ++ str b = str (a ++ b) := ByteArray.mk_append_mk a b
theorem str_ext (l : List UInt8) (i j : Nat) : (str l).extract i j = str ((l.take j).drop i) := by
  rw [← str_of ((str l).extract i j)]
  congr 1
  simp [str, List.drop_take]
theorem size_data (s : ByteArray) : s.data.toList.length = s.size := by simp
/-- A piece. -/
structure Pc where
  kind : Int
  n : Int
  s : ByteArray
  d : List UInt8
/-- What was put, or what is left; and what is wrong. -/
abbrev St := List UInt8 × Int
def wput (st : St) (is : Bool) (b : List UInt8) : St := if st.2 ≠ 0 then st else if is then (st.1 ++ b, 0) else (st.1, 2)
def fail (st : St) (e : Int) : St := if st.2 = 0 then (st.1, e) else st
def wNumber (st : St) (n : Int) : St := wput st (decide (0 ≤ n) && decide (n ≤ 1073741824)) (Cnt.putL n)
def wText (st : St) (s : ByteArray) : St := wput st (decide (s.size ≤ 65536)) (Cnt.putL s.size ++ s.data.toList)
def flagB (is : Bool) : List UInt8 := if is then [1] else [0]
def wFlag (st : St) (is : Bool) : St := wput st true (flagB is)
def wDigest (st : St) (d : List UInt8) : St := wput st true d
/-- What is told, behind all that was put. -/
def told (st : St) : List UInt8 := if st.2 ≠ 0 then [] else st.1
def low4 (n : Int) : Int := bits BinOp.and IntKind.i64 n 15
def wPiece (st : St) (x : Pc) : St :=
  if x.kind = 0 then wNumber st x.n
  else if x.kind = 1 then wText st x.s
  else if x.kind = 2 then wFlag st (x.n == 1)
  else if x.kind = 3 then wDigest st x.d
  else if x.kind = 4 then fail st (low4 x.n)
  else st
def rNumber (st : St) (most : Int) : Int × St :=
  if st.2 ≠ 0 then (0, st)
  else if (Cnt.takeF st.1).2.2 ≠ 0 then (0, (st.1, (Cnt.takeF st.1).2.2))
  else if most < (Cnt.takeF st.1).1 then (0, (st.1, 2))
  else ((Cnt.takeF st.1).1, (st.1.drop (Cnt.takeF st.1).2.1.toNat, 0))
def rText (st : St) (most : Int) : List UInt8 × St :=
  if (rNumber st most).2.2 ≠ 0 then ([], (rNumber st most).2)
  else if ((rNumber st most).2.1.length : Int) < (rNumber st most).1 then ([], (st.1, 5))
  else ((rNumber st most).2.1.take (rNumber st most).1.toNat, ((rNumber st most).2.1.drop (rNumber st most).1.toNat, 0))
def rFlag (st : St) : Bool × St :=
  if st.2 ≠ 0 then (false, st)
  else match st.1 with
    | [] => (false, ([], 5))
    | b :: r => if 1 < b.toNat then (false, (b :: r, 7)) else (b == 1, (r, 0))
def zero32 : List UInt8 := List.replicate 32 0
def rDigest (st : St) : List UInt8 × St :=
  if st.2 ≠ 0 then (zero32, st)
  else if st.1.length < 32 then (zero32, (st.1, 5))
  else (st.1.take 32, (st.1.drop 32, 0))
def rDone (st : St) : Int := if st.2 = 0 ∧ st.1 ≠ [] then 6 else st.2

theorem putL_bound (n : Int) : (Cnt.putL n).length ≤ 5 := Cnt.putL_len n
theorem wput_len (st : St) (is : Bool) (b : List UInt8) : (wput st is b).1.length ≤ st.1.length + (if is then b.length else 0) := by
  unfold wput
  split
  · omega
  · cases is <;> simp
theorem wPiece_len {x : Pc} (hd : x.d.length = 32) (st : St) : (wPiece st x).1.length ≤ st.1.length + 65541 := by
  unfold wPiece
  split
  · have h1 := wput_len st (decide (0 ≤ x.n) && decide (x.n ≤ 1073741824)) (Cnt.putL x.n)
    have h2 := Cnt.putL_len x.n
    unfold wNumber
    split at h1 <;> omega
  · split
    · have h1 := wput_len st (decide (x.s.size ≤ 65536)) (Cnt.putL x.s.size ++ x.s.data.toList)
      have h2 := Cnt.putL_len x.s.size
      unfold wText
      rw [List.length_append, size_data] at h1
      split at h1
      · rename_i h3
        have := of_decide_eq_true h3
        omega
      · omega
    · split
      · have h1 := wput_len st true (flagB (x.n == 1))
        have h2 : (flagB (x.n == 1)).length = 1 := by unfold flagB; split <;> rfl
        unfold wFlag
        simp at h1
        omega
      · split
        · have h1 := wput_len st true x.d
          unfold wDigest
          simp at h1
          omega
        · split
          · unfold fail
            split <;> simp
          · omega
/-- What a piece comes to, where nothing is wrong with it. -/
def enc (x : Pc) : List UInt8 :=
  if x.kind = 0 then Cnt.putL x.n
  else if x.kind = 1 then Cnt.putL x.s.size ++ x.s.data.toList
  else if x.kind = 2 then flagB (x.n == 1)
  else if x.kind = 3 then x.d
  else []
def Okp (x : Pc) : Prop := (x.kind = 0 → 0 ≤ x.n ∧ x.n ≤ 1073741824) ∧ (x.kind = 1 → x.s.size ≤ 65536)
theorem wput_zero {st : St} {is : Bool} {b : List UInt8} (h : (wput st is b).2 = 0) : st.2 = 0 ∧ is = true ∧ wput st is b = (st.1 ++ b, 0) := by
  unfold wput at h ⊢
  split
  · rename_i h1
    rw [if_pos h1] at h
    exact absurd h h1
  · rename_i h1
    rw [if_neg h1] at h
    cases is with
    | false => simp at h
    | true => exact ⟨by simpa using h1, rfl, rfl⟩
theorem wPiece_zero {st : St} {x : Pc} (h : (wPiece st x).2 = 0) : st.2 = 0 ∧ Okp x ∧ wPiece st x = (st.1 ++ enc x, 0) := by
  unfold wPiece enc Okp at *
  by_cases h0 : x.kind = 0
  · rw [if_pos h0] at h ⊢
    obtain ⟨h1, h2, h3⟩ := wput_zero h
    simp only [Bool.and_eq_true, decide_eq_true_eq] at h2
    exact ⟨h1, ⟨fun _ => h2, fun h4 => by omega⟩, by rw [if_pos h0]; exact h3⟩
  · rw [if_neg h0] at h ⊢
    by_cases h1 : x.kind = 1
    · rw [if_pos h1] at h ⊢
      obtain ⟨h2, h3, h4⟩ := wput_zero h
      exact ⟨h2, ⟨fun h5 => absurd h5 h0, fun _ => of_decide_eq_true h3⟩, by rw [if_neg h0, if_pos h1]; exact h4⟩
    · rw [if_neg h1] at h ⊢
      by_cases h2 : x.kind = 2
      · rw [if_pos h2] at h ⊢
        obtain ⟨h3, h4, h5⟩ := wput_zero h
        exact ⟨h3, ⟨fun h6 => absurd h6 h0, fun h6 => absurd h6 h1⟩, by rw [if_neg h0, if_neg h1, if_pos h2]; exact h5⟩
      · rw [if_neg h2] at h ⊢
        by_cases h3 : x.kind = 3
        · rw [if_pos h3] at h ⊢
          obtain ⟨h4, h5, h6⟩ := wput_zero h
          exact ⟨h4, ⟨fun h6 => absurd h6 h0, fun h6 => absurd h6 h1⟩, by rw [if_neg h0, if_neg h1, if_neg h2, if_pos h3]; exact h6⟩
        · rw [if_neg h3] at h ⊢
          rw [if_neg h0, if_neg h1, if_neg h2, if_neg h3, List.append_nil]
          refine ⟨?_, ⟨fun h6 => absurd h6 h0, fun h6 => absurd h6 h1⟩, ?_⟩
          · by_cases h4 : x.kind = 4
            · rw [if_pos h4] at h
              unfold fail at h
              split at h
              · assumption
              · exact h
            · rw [if_neg h4] at h; exact h
          · by_cases h4 : x.kind = 4
            · rw [if_pos h4] at h ⊢
              unfold fail at h ⊢
              split at h
              · rename_i h5; rw [if_pos h5]; exact Prod.ext rfl h
              · rename_i h5; exact absurd h h5
            · rw [if_neg h4] at h ⊢; exact Prod.ext rfl h
/-- All pieces, one behind the other. -/
def wAll (st : St) (l : List Pc) : St := l.foldl wPiece st
def encs (l : List Pc) : List UInt8 := (l.map enc).flatten
theorem wAll_zero : ∀ (l : List Pc) (st : St), (wAll st l).2 = 0 → st.2 = 0 ∧ (∀ x ∈ l, Okp x) ∧ wAll st l = (st.1 ++ encs l, 0)
  | [], st, h => ⟨h, fun x hx => by simp at hx, by simp [encs, wAll]; exact Prod.ext rfl h⟩
  | x :: l, st, h => by
    obtain ⟨h1, h2, h3⟩ := wAll_zero l (wPiece st x) h
    obtain ⟨h4, h5, h6⟩ := wPiece_zero h1
    refine ⟨h4, fun y hy => ?_, ?_⟩
    · rcases List.mem_cons.1 hy with rfl | hy
      · exact h5
      · exact h2 y hy
    · show wAll (wPiece st x) l = _
      rw [h3, h6]
      simp [encs]
theorem wAll_snoc (st : St) (l : List Pc) (k : Nat) (x : Pc) (h : l[k]? = some x) : wAll st (l.take (k + 1)) = wPiece (wAll st (l.take k)) x := by
  rw [List.take_add_one, h]
  simp [wAll]
theorem encs_drop (l : List Pc) (k : Nat) (x : Pc) (h : l[k]? = some x) : encs (l.drop k) = enc x ++ encs (l.drop (k + 1)) := by
  have hk := (List.getElem?_eq_some_iff.1 h).1
  rw [List.drop_eq_getElem_cons hk]
  rw [List.getElem?_eq_getElem hk] at h
  injection h with h
  simp [encs, h]
theorem back_number {n : Int} (h0 : 0 ≤ n) (h1 : n ≤ 1073741824) (most : Int) (hm : n ≤ most) (r : List UInt8) : rNumber (Cnt.putL n ++ r, 0) most = (n, (r, 0)) := by
  have h := Cnt.takeF_put n h0 h1 r
  unfold rNumber
  rw [if_neg (by simp), if_neg (by rw [h]; simp), if_neg (by rw [h]; simp; omega), h]
  simp
theorem back_text {s : ByteArray} (hs : s.size ≤ 65536) (r : List UInt8) : rText ((Cnt.putL s.size ++ s.data.toList) ++ r, 0) 65536 = (s.data.toList, (r, 0)) := by
  have h := back_number (n := s.size) (by omega) (by omega) 65536 (by omega) (s.data.toList ++ r)
  unfold rText
  rw [List.append_assoc, h]
  have hl : s.data.toList.length = s.size := size_data s
  rw [if_neg (by simp), if_neg (by rw [List.length_append, hl]; simp; omega)]
  simp only [Int.toNat_natCast]
  rw [← hl, List.take_left, List.drop_left]
theorem back_flag (is : Bool) (r : List UInt8) : rFlag (flagB is ++ r, 0) = (is, (r, 0)) := by
  cases is <;> simp [rFlag, flagB]
theorem back_digest {d : List UInt8} (hd : d.length = 32) (r : List UInt8) : rDigest (d ++ r, 0) = (d, (r, 0)) := by
  unfold rDigest
  rw [if_neg (by simp), if_neg (by rw [List.length_append]; omega)]
  show ((d ++ r).take 32, ((d ++ r).drop 32, (0 : Int))) = _
  rw [← hd, List.take_left, List.drop_left]
end Go.Proofs.Ytpfighkafmammaa

/-
  What the document's writer does: its put, Number, Text, Flag, Digest, Fail and Done.
-/

namespace Go.Proofs.Ytpfighkafmammaa
open Go.RowKit

/-- The document's writer, or reader, in its block. -/
def Doc (W : World) (q T : Nat) (st : St) : Prop := VRow W q T [.string (str st.1), .int .i64 st.2]
def DocMade (q T : Nat) (w : World) (st : St) (v : Value) (e : Ending) (w' : World) : Prop := e = .returned v ∧ Doc w' q T st ∧ Beside (· = q) w w'
theorem Doc.c0 {W : World} {q T : Nat} {st : St} (h : Doc W q T st) : W.cell? ⟨q, 0, none⟩ = some (.string (str st.1)) := VRow.cell h 0 _ rfl
theorem Doc.c1 {W : World} {q T : Nat} {st : St} (h : Doc W q T st) : W.cell? ⟨q, 1, none⟩ = some (.int .i64 st.2) := VRow.cell h 1 _ rfl
theorem Doc.f0 {W : World} {q T : Nat} {st : St} (h : Doc W q T st) : W.frozen? ⟨q, 0, none⟩ = false := VRow.frozen h 0
theorem Doc.f1 {W : World} {q T : Nat} {st : St} (h : Doc W q T st) : W.frozen? ⟨q, 1, none⟩ = false := VRow.frozen h 1
theorem Doc.set0 {W : World} {q T : Nat} {st : St} (h : Doc W q T st) (b : List UInt8) : Doc (W.setCell ⟨q, 0, none⟩ (.string (str b))) q T (b, st.2) := VRow.set h 0 _
theorem Doc.set1 {W : World} {q T : Nat} {st : St} (h : Doc W q T st) (e : Int) : Doc (W.setCell ⟨q, 1, none⟩ (.int .i64 e)) q T (st.1, e) := VRow.set h 1 _
theorem Doc.after {W W' : World} {q T : Nat} {st : St} (h : Doc W q T st) (hb : Below W.heap.size W W') : Doc W' q T st := VRow.after h hb
theorem Doc.lt {W : World} {q T : Nat} {st : St} (h : Doc W q T st) : q < W.heap.size := VRow.lt h
theorem docMade_of {q T : Nat} {w w1 w' : World} {st : St} {v : Value} {e : Ending} (hb : Below w.heap.size w w1) (h : DocMade q T w1 st v e w') : DocMade q T w st v e w' := ⟨h.1, h.2.1, (beside_of hb).trans h.2.2⟩
theorem cat_ok {a b : List UInt8} (h : a.length + b.length ≤ 4611686018427387904) : ¬ ((str a).size + (str b).size > 9223372036854775807) := by rw [str_size, str_size]; omega

theorem textCat (s : ByteArray) (hs : s.size ≤ 9223372036854775807) : ¬ ((str (Cnt.putL s.size)).size + s.size > 9223372036854775807) := by
  rw [str_size]
  have h := Cnt.putL_len s.size
  by_cases h1 : (1073741824 : Int) < s.size
  · rw [Cnt.putL_no _ (.inr h1)]
    simp
    omega
  · omega

end Go.Proofs.Ytpfighkafmammaa

/-
  What the document's writer does with a digest; digests in memory.
-/

namespace Go.Proofs.Ytpfighkafmammaa
open Go.RowKit

theorem one_bytes (bs : List UInt8) : ∀ v ∈ bs.map byteVal, v.oneCell' = true := by
  intro v hv
  obtain ⟨x, _, rfl⟩ := List.mem_map.1 hv
  rfl
theorem mid_set {α : Type} (L S : List α) (k : Nat) (hL : k < L.length) (hS : k < S.length) : (L.take k ++ S.drop k).set k L[k] = L.take (k + 1) ++ S.drop (k + 1) := by
  rw [List.set_append_right _ _ (by simp; omega), List.take_succ_eq_append_getElem hL, List.length_take, Nat.min_eq_left (by omega), Nat.sub_self]
  rw [List.drop_eq_getElem_cons hS, List.set_cons_zero, List.append_assoc, List.singleton_append]
theorem mid_setQ {α : Type} (L S : List α) (k : Nat) (x : α) (hx : L[k]? = some x) (hS : k < S.length) : (L.take k ++ S.drop k).set k x = L.take (k + 1) ++ S.drop (k + 1) := by
  obtain ⟨h, rfl⟩ := List.getElem?_eq_some_iff.1 hx
  exact mid_set L S k h hS
theorem mid_get {α : Type} (L S : List α) (k : Nat) (hL : k ≤ L.length) : (L.take k ++ S.drop k)[k]? = S[k]? := by
  rw [List.getElem?_append_right (by simp; omega)]
  simp [Nat.min_eq_left hL]
theorem str_one (x : UInt8) : (⟨#[x]⟩ : ByteArray) = str [x] := rfl

end Go.Proofs.Ytpfighkafmammaa

/-
  What the document's reader does: its Number, Text, Flag, Fail and Done.
-/

namespace Go.Proofs.Ytpfighkafmammaa
open Go.RowKit

theorem takeF_nonneg (l : List UInt8) : 0 ≤ (Cnt.takeF l).1 := by
  unfold Cnt.takeF
  split
  · split
    · split
      · exact Int.le_refl _
      · split
        · exact Int.le_refl _
        · exact Int.natCast_nonneg _
    · exact Int.le_refl _
  · exact Int.le_refl _
theorem ext_tail (l : List UInt8) (k : Nat) : (str l).extract k (str l).size = str (l.drop k) := by
  rw [str_ext, str_size, List.take_of_length_le (Nat.le_refl _)]
theorem ext_head (l : List UInt8) (k : Nat) : (str l).extract 0 k = str (l.take k) := by rw [str_ext, List.drop_zero]

theorem rNumber_nonneg (st : St) (most : Int) : 0 ≤ (rNumber st most).1 := by
  unfold rNumber
  split
  · exact Int.le_refl _
  · split
    · exact Int.le_refl _
    · split
      · exact Int.le_refl _
      · exact takeF_nonneg _
theorem rNumber_len (st : St) (most : Int) : (rNumber st most).2.1.length ≤ st.1.length := by
  unfold rNumber
  split
  · exact Nat.le_refl _
  · split
    · exact Nat.le_refl _
    · split
      · exact Nat.le_refl _
      · rw [List.length_drop]; omega

theorem str_emp (x : UInt8) (r : List UInt8) : (str (x :: r)).toList.isEmpty = false := by
  rw [ByteArray.toList_eq, str_data]
  rfl
theorem str_head (x : UInt8) (r : List UInt8) (h : 0 < (str (x :: r)).size) : (str (x :: r))[0] = x := by
  rw [← at_data (str (x :: r)) 0 h, str_data]
  rfl

end Go.Proofs.Ytpfighkafmammaa

/-
  Plain facts on versions side by side: no program, no world. Conditions: none but those that each theorem names.
-/

namespace Go.Proofs.Ytpfighkafmammaa.Vc

/-- A version. -/
structure V where
  dot : D
  past : List D
  dead : Bool
  data : ByteArray

def hasV (l : List D) (d : D) : Bool := decide (1 ≤ d.2) && decide (d.2 ≤ get l d.1)
theorem hasV_up {l : List D} (h : Up (-1) l) (d : D) : hasV l d = true ↔ 1 ≤ d.2 ∧ d.2 ≤ look l d.1 := by
  unfold hasV
  rw [get_vec h, Bool.and_eq_true, decide_eq_true_iff, decide_eq_true_iff]
def chkV (v : V) : Int := if dotErr v.dot ≠ 0 then dotErr v.dot else if check v.past ≠ 0 then check v.past else if hasV v.past v.dot = true then 8 else if 48 < v.data.size then 2 else if v.dead = true ∧ 0 < v.data.size then 7 else 0
/-- A version that may be. -/
structure OkV (v : V) : Prop where
  dot : Ok v.dot
  past : Up (-1) v.past
  new : look v.past v.dot.1 < v.dot.2
  data : v.data.size ≤ 48
  dead : ¬ (v.dead = true ∧ 0 < v.data.size)
theorem chkV_zero (v : V) : chkV v = 0 ↔ OkV v := by
  unfold chkV
  by_cases h1 : dotErr v.dot = 0
  · rw [if_neg (by simpa using h1)]
    have hok := (dotErr_zero _).1 h1
    by_cases h2 : check v.past = 0
    · rw [if_neg (by simpa using h2)]
      have hup := (check_zero _).1 h2
      by_cases h3 : hasV v.past v.dot = true
      · rw [if_pos h3]
        constructor
        · intro h; omega
        · intro h; have := (hasV_up hup _).1 h3; have := h.new; omega
      · rw [if_neg h3]
        have hn : look v.past v.dot.1 < v.dot.2 := by
          unfold Ok at hok
          by_cases hl : look v.past v.dot.1 < v.dot.2
          · exact hl
          · exact absurd ((hasV_up hup _).2 ⟨by omega, by omega⟩) h3
        by_cases h4 : 48 < v.data.size
        · rw [if_pos h4]
          constructor
          · intro h; omega
          · intro h; have := h.data; omega
        · rw [if_neg h4]
          by_cases h5 : v.dead = true ∧ 0 < v.data.size
          · rw [if_pos h5]
            constructor
            · intro h; omega
            · intro h; exact absurd h5 h.dead
          · rw [if_neg h5]
            exact ⟨fun _ => ⟨hok, hup, hn, by omega, h5⟩, fun _ => rfl⟩
    · rw [if_pos (by simpa using h2)]
      exact ⟨fun h => absurd h h2, fun h => absurd ((check_zero _).2 h.past) h2⟩
  · rw [if_pos (by simpa using h1)]
    exact ⟨fun h => absurd h h1, fun h => absurd ((dotErr_zero _).2 h.dot) h1⟩

/-- A version covers another one. -/
def covers (a b : V) : Bool := hasV a.past b.dot
theorem covers_ok {a b : V} (h : OkV a) (hb : OkV b) : covers a b = true ↔ b.dot.2 ≤ look a.past b.dot.1 := by
  unfold covers
  rw [hasV_up h.past]
  have := hb.dot
  unfold Ok at this
  exact ⟨fun h => h.2, fun h => ⟨by omega, h⟩⟩
def covered (l : List V) (v : V) : Bool := l.any fun u => covers u v
theorem covered_no (l : List V) (v : V) : covered l v = false ↔ ∀ u ∈ l, covers u v = false := by
  unfold covered
  rw [List.any_eq_false]
  exact ⟨fun h u hu => by simpa using h u hu, fun h u hu => by simp [h u hu]⟩

/-- What is wrong with the versions, behind a peer. -/
def chkL : Int → List V → Int
  | _, [] => 0
  | q, v :: l => if chkV v ≠ 0 then chkV v else if v.dot.1 ≤ q then 8 else chkL v.dot.1 l
def VUp : Int → List V → Prop
  | _, [] => True
  | q, v :: l => OkV v ∧ q < v.dot.1 ∧ VUp v.dot.1 l
theorem chkL_zero : ∀ (l : List V) (q : Int), chkL q l = 0 ↔ VUp q l
  | [], _ => by simp [chkL, VUp]
  | v :: l, q => by
    unfold chkL VUp
    by_cases h : chkV v = 0
    · rw [if_neg (by simpa using h)]
      have hok := (chkV_zero v).1 h
      by_cases h2 : v.dot.1 ≤ q
      · rw [if_pos h2]
        constructor
        · intro h; omega
        · intro h; omega
      · rw [if_neg h2, chkL_zero l]
        exact ⟨fun h => ⟨hok, by omega, h⟩, fun h => h.2.2⟩
    · rw [if_pos (by simpa using h)]
      exact ⟨fun h' => absurd h' h, fun h' => absurd ((chkV_zero v).2 h'.1) h⟩
theorem VUp.weak : ∀ {l : List V} {p q : Int}, VUp p l → q ≤ p → VUp q l
  | [], _, _, _, _ => trivial
  | _ :: _, _, _, h, hq => ⟨h.1, by have := h.2.1; omega, h.2.2⟩
theorem VUp.mem : ∀ {l : List V} {q : Int} {v : V}, VUp q l → v ∈ l → OkV v ∧ q < v.dot.1
  | [], _, _, _, h => by cases h
  | u :: l, q, v, h, hv => by
    rcases List.mem_cons.1 hv with rfl | hv
    · exact ⟨h.1, h.2.1⟩
    · have := VUp.mem h.2.2 hv
      exact ⟨this.1, by have := h.2.1; omega⟩
theorem VUp.one : ∀ {l : List V} {q : Int} {u v : V}, VUp q l → u ∈ l → v ∈ l → u.dot.1 = v.dot.1 → u = v
  | [], _, _, _, _, h, _, _ => by cases h
  | x :: l, q, u, v, h, hu, hv, e => by
    rcases List.mem_cons.1 hu with hu | hu
    · rcases List.mem_cons.1 hv with hv | hv
      · rw [hu, hv]
      · have := (VUp.mem h.2.2 hv).2; subst hu; omega
    · rcases List.mem_cons.1 hv with hv | hv
      · have := (VUp.mem h.2.2 hu).2; subst hv; omega
      · exact VUp.one h.2.2 hu hv e
theorem VUp.ext : ∀ {a b : List V} {p q : Int}, VUp p a → VUp q b → (∀ x, x ∈ a ↔ x ∈ b) → a = b
  | [], [], _, _, _, _, _ => rfl
  | [], e :: b, _, _, _, _, h => by have := (h e).2 (List.mem_cons_self ..); cases this
  | d :: a, [], _, _, _, _, h => by have := (h d).1 (List.mem_cons_self ..); cases this
  | d :: a, e :: b, p, q, ha, hb, h => by
    have hde : d = e := by
      rcases List.mem_cons.1 ((h d).1 (List.mem_cons_self ..)) with rfl | hd
      · rfl
      · rcases List.mem_cons.1 ((h e).2 (List.mem_cons_self ..)) with rfl | he
        · rfl
        · have h1 := (VUp.mem hb.2.2 hd).2
          have h2 := (VUp.mem ha.2.2 he).2
          omega
    subst hde
    rw [VUp.ext ha.2.2 hb.2.2 fun x => ?_]
    constructor
    · intro hx
      rcases List.mem_cons.1 ((h x).1 (List.mem_cons_of_mem _ hx)) with rfl | hx'
      · have := (VUp.mem ha.2.2 hx).2; omega
      · exact hx'
    · intro hx
      rcases List.mem_cons.1 ((h x).2 (List.mem_cons_of_mem _ hx)) with rfl | hx'
      · have := (VUp.mem hb.2.2 hx).2; omega
      · exact hx'
theorem VUp.len : ∀ {l : List V} {q : Int}, VUp q l → -1 ≤ q → (l.length : Int) ≤ 63 - q ∨ l = []
  | [], _, _, _ => .inr rfl
  | v :: l, q, h, hq => by
    have h1 := h.1.dot
    unfold Ok at h1
    rcases VUp.len h.2.2 (by have := h.2.1; omega) with h2 | rfl
    · left; rw [List.length_cons]; have := h.2.1; omega
    · left; have := h.2.1; simp; omega
theorem VUp.snoc : ∀ {l : List V} {q : Int} {v : V}, VUp q l → OkV v → q < v.dot.1 → (∀ u ∈ l, u.dot.1 < v.dot.1) → VUp q (l ++ [v])
  | [], _, _, _, h, h', _ => ⟨h, h', trivial⟩
  | u :: _, _, _, h, hv, _, hl => ⟨h.1, h.2.1, VUp.snoc h.2.2 hv (hl u (List.mem_cons_self ..)) fun x hx => hl x (List.mem_cons_of_mem _ hx)⟩

def checkLeaf (l : List V) : Int := if 64 < l.length then 2 else if chkL (-1) l ≠ 0 then chkL (-1) l else if (l.any fun v => covered l v) = true then 7 else 0
/-- A leaf that may be. -/
structure LeafOk (l : List V) : Prop where
  up : VUp (-1) l
  free : ∀ u ∈ l, ∀ v ∈ l, covers u v = false
theorem LeafOk.len {l : List V} (h : LeafOk l) : l.length ≤ 64 := by
  rcases h.up.len (by omega) with h | rfl
  · omega
  · simp
theorem checkLeaf_zero (l : List V) : checkLeaf l = 0 ↔ LeafOk l := by
  unfold checkLeaf
  by_cases h1 : 64 < l.length
  · rw [if_pos h1]
    constructor
    · intro h; omega
    · intro h; have := h.len; omega
  · rw [if_neg h1]
    by_cases h2 : chkL (-1) l = 0
    · rw [if_neg (by simpa using h2)]
      have hup := (chkL_zero l _).1 h2
      by_cases h3 : (l.any fun v => covered l v) = true
      · rw [if_pos h3]
        constructor
        · intro h; omega
        · intro h
          obtain ⟨v, hv, hc⟩ := List.any_eq_true.1 h3
          rw [(covered_no l v).2 fun u hu => h.free u hu v hv] at hc
          cases hc
      · rw [if_neg h3]
        refine ⟨fun _ => ⟨hup, fun u hu v hv => ?_⟩, fun _ => rfl⟩
        have h4 : covered l v = false := by
          cases hcv : covered l v with
          | false => rfl
          | true => exact absurd (List.any_eq_true.2 ⟨v, hv, hcv⟩) h3
        exact (covered_no l v).1 h4 u hu
    · rw [if_pos (by simpa using h2)]
      exact ⟨fun h => absurd h h2, fun h => absurd ((chkL_zero l _).2 h.up) h2⟩
theorem leaf_nil : LeafOk [] := ⟨trivial, fun _ h => by cases h⟩

/-- What all dots and all pasts come to together. -/
def cov1 (c : List D) (v : V) : List D := joins (joins c v.past) [v.dot]
def coverF (l : List V) : List D := l.foldl cov1 []
def coverL (l : List V) : List D := if checkLeaf l = 0 then coverF l else []
def reach (v : V) (p : Int) : Int := max (look v.past p) (if v.dot.1 = p then v.dot.2 else 0)
def top : List V → Int → Int
  | [], _ => 0
  | v :: l, p => max (reach v p) (top l p)
theorem one_up {d : D} (h : Ok d) : Up (-1) [d] := ⟨h, by unfold Ok at h; omega, trivial⟩
theorem one_look (d : D) (p : Int) : look [d] p = if d.1 = p then d.2 else 0 := rfl
theorem joins_vec {a b : List D} (ha : Up (-1) a) (hb : Up (-1) b) : joins a b = join a b := by unfold joins; rw [if_pos ⟨(check_zero a).2 ha, (check_zero b).2 hb⟩]
theorem cov1_up {c : List D} {v : V} (hc : Up (-1) c) (hv : OkV v) : Up (-1) (cov1 c v) ∧ ∀ p, look (cov1 c v) p = max (look c p) (reach v p) := by
  unfold cov1
  rw [joins_vec hc hv.past, joins_vec (join_up hc hv.past) (one_up hv.dot)]
  refine ⟨join_up (join_up hc hv.past) (one_up hv.dot), fun p => ?_⟩
  rw [join_look (join_up hc hv.past) (one_up hv.dot), join_look hc hv.past, one_look]
  unfold reach
  omega
theorem fold_up : ∀ {l : List V} {q : Int} {c : List D}, VUp q l → Up (-1) c → Up (-1) (l.foldl cov1 c) ∧ ∀ p, look (l.foldl cov1 c) p = max (look c p) (top l p)
  | [], _, c, _, hc => ⟨hc, fun p => by have := look_bd p hc; show look c p = max (look c p) 0; omega⟩
  | v :: l, q, c, h, hc => by
    obtain ⟨h1, h2⟩ := cov1_up hc h.1
    obtain ⟨h3, h4⟩ := fold_up h.2.2 h1
    refine ⟨h3, fun p => ?_⟩
    show look (l.foldl cov1 (cov1 c v)) p = max (look c p) (max (reach v p) (top l p))
    rw [h4 p, h2 p]
    omega
theorem top_zero : ∀ (l : List V) (p : Int), 0 ≤ top l p
  | [], _ => Int.le_refl _
  | v :: l, p => by have := top_zero l p; show 0 ≤ max (reach v p) (top l p); omega
theorem coverF_up {l : List V} {q : Int} (h : VUp q l) : Up (-1) (coverF l) ∧ ∀ p, look (coverF l) p = top l p := by
  obtain ⟨h1, h2⟩ := fold_up h (c := []) trivial
  refine ⟨h1, fun p => ?_⟩
  unfold coverF
  rw [h2 p]
  have := top_zero l p
  show max 0 (top l p) = top l p
  omega
theorem coverL_leaf {l : List V} (h : LeafOk l) : coverL l = coverF l := by unfold coverL; rw [if_pos ((checkLeaf_zero l).2 h)]
theorem coverL_up (l : List V) : Up (-1) (coverL l) := by
  unfold coverL
  split
  · rename_i h; exact (coverF_up ((checkLeaf_zero l).1 h).up).1
  · trivial
theorem top_le : ∀ {l : List V} {p k : Int}, 0 ≤ k → (∀ v ∈ l, reach v p ≤ k) → top l p ≤ k
  | [], _, _, h, _ => h
  | v :: l, p, k, h, hl => by
    have h1 := hl v (List.mem_cons_self ..)
    have h2 := top_le h fun x hx => hl x (List.mem_cons_of_mem _ hx)
    show max (reach v p) (top l p) ≤ k
    omega
theorem le_top : ∀ {l : List V} {v : V} (p : Int), v ∈ l → reach v p ≤ top l p
  | [], _, _, h => by cases h
  | u :: l, v, p, h => by
    show reach v p ≤ max (reach u p) (top l p)
    rcases List.mem_cons.1 h with rfl | h
    · omega
    · have := le_top p h; omega

/-- What is left of two leaves. -/
def Free (a b : List V) (x : V) : Prop := (∀ u ∈ a, covers u x = false) ∧ ∀ u ∈ b, covers u x = false
def Best (a b : List V) (x : V) : Prop :=
  (x ∈ a ∧ Free a b x ∧ ∀ y ∈ b, y.dot.1 = x.dot.1 → Free a b y → y.dot.2 ≤ x.dot.2) ∨ (x ∈ b ∧ Free a b x ∧ ∀ y ∈ a, y.dot.1 = x.dot.1 → Free a b y → y.dot.2 < x.dot.2)
structure IsSync (a b s : List V) : Prop where
  up : VUp (-1) s
  mem : ∀ x, x ∈ s ↔ Best a b x
theorem IsSync.ext {a b s t : List V} (h : IsSync a b s) (h' : IsSync a b t) : s = t := VUp.ext h.up h'.up fun x => (h.mem x).trans (h'.mem x).symm
theorem Best.of {a b : List V} {x : V} (h : Best a b x) : (x ∈ a ∨ x ∈ b) ∧ Free a b x := by
  rcases h with h | h
  · exact ⟨.inl h.1, h.2.1⟩
  · exact ⟨.inr h.1, h.2.1⟩
theorem IsSync.leaf {a b s : List V} (h : IsSync a b s) : LeafOk s := ⟨h.up, fun u hu v hv => by
  obtain ⟨h1, _⟩ := ((h.mem u).1 hu).of
  obtain ⟨_, h2⟩ := ((h.mem v).1 hv).of
  rcases h1 with h1 | h1
  · exact h2.1 u h1
  · exact h2.2 u h1⟩
/-- What is live, what is written, what is deleted. -/
def live (l : List V) : List V := l.filter fun v => !v.dead
def overF (l : List V) (d : D) (dead : Bool) (data : ByteArray) : List V × Int := if hasV (coverL l) d = true then ([], 8) else ([⟨d, coverL l, dead, data⟩], 0)
def writeF (l : List V) (d : D) (data : ByteArray) : List V × Int := if checkLeaf l ≠ 0 then ([], checkLeaf l) else if dotErr d ≠ 0 then ([], dotErr d) else if 48 < data.size then ([], 2) else overF l d false data
def eraseF (l : List V) (d : D) : List V × Int := if checkLeaf l ≠ 0 then ([], checkLeaf l) else if dotErr d ≠ 0 then ([], dotErr d) else if (live l).length = 0 then ([], 3) else overF l d true ⟨#[]⟩
theorem coverL_len (l : List V) : (coverL l).length ≤ 64 := vec_len (coverL_up l)
theorem coverF_snoc (l : List V) (v : V) : coverF (l ++ [v]) = cov1 (coverF l) v := by unfold coverF; rw [List.foldl_append]; rfl
end Go.Proofs.Ytpfighkafmammaa.Vc

/-
  Plain facts on vectors and leaves as bytes, put and taken: no program, no world. Conditions: none but those that each theorem names.
-/

namespace Go.Proofs.Ytpfighkafmammaa
open Go.RowKit

/-! What is put. -/
def wDot (st : St) (d : Vc.D) : St := wNumber (wNumber st d.1) d.2
def wDots (st : St) (ds : List Vc.D) : St := ds.foldl wDot st
def wVec (st : St) (ds : List Vc.D) : St := wDots (wNumber (fail st (Vc.check ds)) ds.length) ds
def wVer (st : St) (v : Vc.V) : St := wText (wFlag (wVec (wDot st v.dot) v.past) v.dead) v.data
def wVers (st : St) (l : List Vc.V) : St := l.foldl wVer st
def wLeaf (st : St) (l : List Vc.V) : St := wVers (wNumber (fail st (Vc.checkLeaf l)) l.length) l

theorem fail_zero (st : St) : fail st 0 = st := by
  unfold fail
  split
  · rename_i h; exact Prod.ext rfl h.symm
  · rfl
theorem fail_bad {st : St} {e : Int} (h : e ≠ 0) : (fail st e).2 ≠ 0 := by
  unfold fail
  split
  · exact h
  · assumption
theorem fail_stays {st : St} (e : Int) (h : st.2 ≠ 0) : fail st e = st := if_neg h
theorem fail_len (st : St) (e : Int) : (fail st e).1.length = st.1.length := by
  unfold fail
  split <;> rfl
theorem wput_bad {st : St} (h : st.2 ≠ 0) (is : Bool) (b : List UInt8) : wput st is b = st := if_pos h
theorem wNumber_bad {st : St} (h : st.2 ≠ 0) (n : Int) : wNumber st n = st := wput_bad h _ _
theorem wDot_bad {st : St} (h : st.2 ≠ 0) (d : Vc.D) : wDot st d = st := by
  unfold wDot
  rw [wNumber_bad h, wNumber_bad h]
theorem wDots_bad {st : St} (h : st.2 ≠ 0) : ∀ ds : List Vc.D, wDots st ds = st
  | [] => rfl
  | d :: l => by
    show wDots (wDot st d) l = st
    rw [wDot_bad h]
    exact wDots_bad h l
theorem wVec_bad {st : St} {ds : List Vc.D} (h : Vc.check ds ≠ 0) : wVec st ds = fail st (Vc.check ds) := by
  unfold wVec
  rw [wNumber_bad (fail_bad h), wDots_bad (fail_bad h)]
theorem wVec_ok {st : St} {ds : List Vc.D} (h : Vc.check ds = 0) : wVec st ds = wDots (wNumber st ds.length) ds := by
  unfold wVec
  rw [h, fail_zero]
theorem wVec_stays {st : St} (h : st.2 ≠ 0) (ds : List Vc.D) : wVec st ds = st := by
  unfold wVec
  rw [fail_stays _ h, wNumber_bad h, wDots_bad h]
theorem wVer_bad {st : St} (h : st.2 ≠ 0) (v : Vc.V) : wVer st v = st := by
  unfold wVer wFlag wText
  rw [wDot_bad h, wVec_stays h, wput_bad h, wput_bad h]
theorem wVers_bad {st : St} (h : st.2 ≠ 0) : ∀ l : List Vc.V, wVers st l = st
  | [] => rfl
  | v :: l => by
    show wVers (wVer st v) l = st
    rw [wVer_bad h]
    exact wVers_bad h l
theorem wLeaf_bad {st : St} {l : List Vc.V} (h : Vc.checkLeaf l ≠ 0) : wLeaf st l = fail st (Vc.checkLeaf l) := by
  unfold wLeaf
  rw [wNumber_bad (fail_bad h), wVers_bad (fail_bad h)]
theorem wLeaf_ok {st : St} {l : List Vc.V} (h : Vc.checkLeaf l = 0) : wLeaf st l = wVers (wNumber st l.length) l := by
  unfold wLeaf
  rw [h, fail_zero]
theorem wLeaf_stays {st : St} (h : st.2 ≠ 0) (l : List Vc.V) : wLeaf st l = st := by
  unfold wLeaf
  rw [fail_stays _ h, wNumber_bad h, wVers_bad h]

theorem wNumber_len (st : St) (n : Int) : (wNumber st n).1.length ≤ st.1.length + 5 := by
  have h1 := wput_len st (decide (0 ≤ n) && decide (n ≤ 1073741824)) (Cnt.putL n)
  have h2 := Cnt.putL_len n
  unfold wNumber
  refine Nat.le_trans h1 ?_
  split <;> omega
theorem wFlag_len (st : St) (is : Bool) : (wFlag st is).1.length ≤ st.1.length + 1 := by
  have h1 := wput_len st true (flagB is)
  have h2 : (flagB is).length = 1 := by unfold flagB; split <;> rfl
  rw [h2] at h1
  exact h1
theorem wText_len (st : St) (s : ByteArray) : (wText st s).1.length ≤ st.1.length + 65541 ∧ (wText st s).1.length ≤ st.1.length + 5 + s.size := by
  have h1 := wput_len st (decide (s.size ≤ 65536)) (Cnt.putL s.size ++ s.data.toList)
  have h2 := Cnt.putL_len s.size
  unfold wText
  rw [List.length_append, size_data] at h1
  split at h1
  · rename_i h3
    have := of_decide_eq_true h3
    omega
  · omega
theorem wDot_len (st : St) (d : Vc.D) : (wDot st d).1.length ≤ st.1.length + 10 := by
  have h1 := wNumber_len st d.1
  have h2 := wNumber_len (wNumber st d.1) d.2
  unfold wDot
  omega
theorem wDots_len : ∀ (ds : List Vc.D) (st : St), (wDots st ds).1.length ≤ st.1.length + 10 * ds.length
  | [], st => by simp [wDots]
  | d :: l, st => by
    have h1 := wDots_len l (wDot st d)
    have h2 := wDot_len st d
    show (wDots (wDot st d) l).1.length ≤ _
    rw [List.length_cons]
    omega
/-- At each time a vector's bytes are few. -/
theorem wVec_part (st : St) (ds : List Vc.D) (k : Nat) : (wDots (wNumber (fail st (Vc.check ds)) ds.length) (ds.take k)).1.length ≤ st.1.length + 645 := by
  by_cases h : Vc.check ds = 0
  · have h1 := Vc.vec_len ((Vc.check_zero ds).1 h)
    have h2 := wDots_len (ds.take k) (wNumber (fail st (Vc.check ds)) ds.length)
    have h3 := wNumber_len (fail st (Vc.check ds)) ds.length
    rw [fail_len] at h3
    rw [List.length_take] at h2
    have h4 : min k ds.length ≤ 64 := by omega
    omega
  · rw [wNumber_bad (fail_bad h), wDots_bad (fail_bad h), fail_len]
    omega
theorem wVec_len (st : St) (ds : List Vc.D) : (wVec st ds).1.length ≤ st.1.length + 645 := by
  have h := wVec_part st ds ds.length
  rw [List.take_length] at h
  exact h
theorem wVer_len (st : St) (v : Vc.V) : (wVer st v).1.length ≤ st.1.length + 66197 ∧ (wVer st v).1.length ≤ st.1.length + 661 + v.data.size := by
  have h1 := wDot_len st v.dot
  have h2 := wVec_len (wDot st v.dot) v.past
  have h3 := wFlag_len (wVec (wDot st v.dot) v.past) v.dead
  have h4 := wText_len (wFlag (wVec (wDot st v.dot) v.past) v.dead) v.data
  unfold wVer
  omega
theorem wVers_len : ∀ (l : List Vc.V) (st : St), (wVers st l).1.length ≤ st.1.length + 66197 * l.length
  | [], st => by simp [wVers]
  | v :: l, st => by
    have h1 := wVers_len l (wVer st v)
    have h2 := (wVer_len st v).1
    show (wVers (wVer st v) l).1.length ≤ _
    rw [List.length_cons]
    omega
theorem wVers_few : ∀ (l : List Vc.V) (st : St), (∀ v ∈ l, v.data.size ≤ 48) → (wVers st l).1.length ≤ st.1.length + 709 * l.length
  | [], st, _ => by simp [wVers]
  | v :: l, st, h => by
    have h1 := wVers_few l (wVer st v) fun u hu => h u (List.mem_cons_of_mem _ hu)
    have h2 := (wVer_len st v).2
    have h3 := h v (by simp)
    show (wVers (wVer st v) l).1.length ≤ _
    rw [List.length_cons]
    omega
/-- At each time a leaf's bytes are not many. -/
theorem wLeaf_part (st : St) (l : List Vc.V) (k : Nat) : (wVers (wNumber (fail st (Vc.checkLeaf l)) l.length) (l.take k)).1.length ≤ st.1.length + 4300000 := by
  by_cases h : Vc.checkLeaf l = 0
  · have h1 := ((Vc.checkLeaf_zero l).1 h).len
    have h2 := wVers_len (l.take k) (wNumber (fail st (Vc.checkLeaf l)) l.length)
    have h3 := wNumber_len (fail st (Vc.checkLeaf l)) l.length
    rw [fail_len] at h3
    rw [List.length_take] at h2
    have h4 : min k l.length ≤ 64 := by omega
    omega
  · rw [wNumber_bad (fail_bad h), wVers_bad (fail_bad h), fail_len]
    omega
theorem wLeaf_len (st : St) (l : List Vc.V) : (wLeaf st l).1.length ≤ st.1.length + 46000 := by
  by_cases h : Vc.checkLeaf l = 0
  · have hL := (Vc.checkLeaf_zero l).1 h
    have h1 := hL.len
    have h2 := wVers_few l (wNumber st l.length) fun v hv => (hL.up.mem hv).1.data
    have h3 := wNumber_len st l.length
    rw [wLeaf_ok h]
    omega
  · rw [wLeaf_bad h, fail_len]
    omega
theorem wDots_snoc (st : St) (l : List Vc.D) (k : Nat) (d : Vc.D) (h : l[k]? = some d) : wDots st (l.take (k + 1)) = wDot (wDots st (l.take k)) d := by
  rw [List.take_add_one, h]
  simp [wDots]
theorem wVers_snoc (st : St) (l : List Vc.V) (k : Nat) (v : Vc.V) (h : l[k]? = some v) : wVers st (l.take (k + 1)) = wVer (wVers st (l.take k)) v := by
  rw [List.take_add_one, h]
  simp [wVers]

/-! What is taken. -/
def rDot (st : St) : Vc.D × St := (((rNumber st 63).1, (rNumber (rNumber st 63).2 1048576).1), (rNumber (rNumber st 63).2 1048576).2)
def itD : Nat → St → List Vc.D × St
  | 0, st => ([], st)
  | k + 1, st => ((itD k st).1 ++ [(rDot (itD k st).2).1], (rDot (itD k st).2).2)
def endD (x : List Vc.D × St) : List Vc.D × St := (if (fail x.2 (Vc.check x.1)).2 ≠ 0 then [] else x.1, fail x.2 (Vc.check x.1))
def rVec (st : St) : List Vc.D × St := endD (itD (rNumber st 64).1.toNat (rNumber st 64).2)
def rVer (st : St) : Vc.V × St :=
  (⟨(rDot st).1, (rVec (rDot st).2).1, (rFlag (rVec (rDot st).2).2).1, str (rText (rFlag (rVec (rDot st).2).2).2 48).1⟩, (rText (rFlag (rVec (rDot st).2).2).2 48).2)
def itV : Nat → St → List Vc.V × St
  | 0, st => ([], st)
  | k + 1, st => ((itV k st).1 ++ [(rVer (itV k st).2).1], (rVer (itV k st).2).2)
def endV (x : List Vc.V × St) : List Vc.V × St := (if (fail x.2 (Vc.checkLeaf x.1)).2 ≠ 0 then [] else x.1, fail x.2 (Vc.checkLeaf x.1))
def rLeaf (st : St) : List Vc.V × St := endV (itV (rNumber st 64).1.toNat (rNumber st 64).2)

theorem rNumber_bad {st : St} (h : st.2 ≠ 0) (m : Int) : rNumber st m = (0, st) := if_pos h
theorem rNumber_most (st : St) (m : Int) (h : 0 ≤ m) : (rNumber st m).1 ≤ m := by
  unfold rNumber
  split
  · exact h
  · split
    · exact h
    · split
      · exact h
      · rename_i h3
        show (Cnt.takeF st.1).1 ≤ m
        omega
theorem rDot_bad {st : St} (h : st.2 ≠ 0) : (rDot st).2 = st := by
  unfold rDot
  rw [rNumber_bad h]
  dsimp only
  rw [rNumber_bad h]
theorem itD_len : ∀ (k : Nat) (st : St), (itD k st).1.length = k
  | 0, _ => rfl
  | k + 1, st => by simp [itD, itD_len k st]
theorem itV_len : ∀ (k : Nat) (st : St), (itV k st).1.length = k
  | 0, _ => rfl
  | k + 1, st => by simp [itV, itV_len k st]
theorem itD_stays (st : St) (k : Nat) (h : (itD k st).2.2 ≠ 0) : ∀ m, k ≤ m → (itD m st).2 = (itD k st).2
  | 0, hm => by rw [show k = 0 by omega]
  | m + 1, hm => by
    by_cases e : k = m + 1
    · rw [e]
    · have ih := itD_stays st k h m (by omega)
      show (rDot (itD m st).2).2 = _
      rw [ih]
      exact rDot_bad h
theorem endD_bad {x : List Vc.D × St} (h : x.2.2 ≠ 0) : endD x = ([], x.2) := by
  unfold endD
  rw [fail_stays _ h, if_pos h]
theorem rVec_early {st : St} {k : Nat} (hk : k ≤ (rNumber st 64).1.toNat) (h : (itD k (rNumber st 64).2).2.2 ≠ 0) : endD (itD k (rNumber st 64).2) = rVec st := by
  unfold rVec
  have h2 := itD_stays _ k h _ hk
  rw [endD_bad h, endD_bad (by rw [h2]; exact h), h2]
theorem rVec_bad {st : St} (h : st.2 ≠ 0) : rVec st = ([], st) := by
  unfold rVec
  rw [rNumber_bad h]
  exact endD_bad h
theorem rFlag_bad {st : St} (h : st.2 ≠ 0) : (rFlag st).2 = st := by
  unfold rFlag
  rw [if_pos h]
theorem rText_bad {st : St} (h : st.2 ≠ 0) (m : Int) : (rText st m).2 = st := by
  unfold rText
  rw [rNumber_bad h, if_pos h]
theorem rVer_bad {st : St} (h : st.2 ≠ 0) : (rVer st).2 = st := by
  unfold rVer
  dsimp only
  rw [rDot_bad h, rVec_bad h]
  dsimp only
  rw [rFlag_bad h, rText_bad h]
theorem itV_stays (st : St) (k : Nat) (h : (itV k st).2.2 ≠ 0) : ∀ m, k ≤ m → (itV m st).2 = (itV k st).2
  | 0, hm => by rw [show k = 0 by omega]
  | m + 1, hm => by
    by_cases e : k = m + 1
    · rw [e]
    · have ih := itV_stays st k h m (by omega)
      show (rVer (itV m st).2).2 = _
      rw [ih]
      exact rVer_bad h
theorem endV_bad {x : List Vc.V × St} (h : x.2.2 ≠ 0) : endV x = ([], x.2) := by
  unfold endV
  rw [fail_stays _ h, if_pos h]
theorem rLeaf_early {st : St} {k : Nat} (hk : k ≤ (rNumber st 64).1.toNat) (h : (itV k (rNumber st 64).2).2.2 ≠ 0) : endV (itV k (rNumber st 64).2) = rLeaf st := by
  unfold rLeaf
  have h2 := itV_stays _ k h _ hk
  rw [endV_bad h, endV_bad (by rw [h2]; exact h), h2]
theorem rCount (st : St) : (rNumber st 64).1.toNat ≤ 64 := by
  have := rNumber_most st 64 (by omega)
  omega
theorem endD_len (x : List Vc.D × St) : (endD x).1.length ≤ x.1.length := by
  unfold endD
  dsimp only
  split <;> simp
theorem endV_len (x : List Vc.V × St) : (endV x).1.length ≤ x.1.length := by
  unfold endV
  dsimp only
  split <;> simp
theorem rVec_len (st : St) : (rVec st).1.length ≤ 64 := by
  have h1 := endD_len (itD (rNumber st 64).1.toNat (rNumber st 64).2)
  rw [itD_len] at h1
  have h2 := rCount st
  unfold rVec
  omega
theorem rLeaf_len (st : St) : (rLeaf st).1.length ≤ 64 := by
  have h1 := endV_len (itV (rNumber st 64).1.toNat (rNumber st 64).2)
  rw [itV_len] at h1
  have h2 := rCount st
  unfold rLeaf
  omega
theorem rVer_past (st : St) : (rVer st).1.past.length ≤ 64 := rVec_len _
theorem itV_past : ∀ (k : Nat) (st : St), ∀ v ∈ (itV k st).1, v.past.length ≤ 64
  | 0, _, v, h => by cases h
  | k + 1, st, v, h => by
    rcases List.mem_append.1 (show v ∈ (itV k st).1 ++ [(rVer (itV k st).2).1] from h) with h | h
    · exact itV_past k st v h
    · rw [List.mem_singleton.1 h]
      exact rVer_past _
theorem rLeaf_past (st : St) : ∀ v ∈ (rLeaf st).1, v.past.length ≤ 64 := fun v hv => by
  unfold rLeaf endV at hv
  dsimp only at hv
  split at hv
  · cases hv
  · exact itV_past _ _ v hv

theorem rText_len (st : St) (most : Int) : (rText st most).2.1.length ≤ st.1.length := by
  have h := rNumber_len st most
  unfold rText
  split
  · exact h
  · split
    · exact Nat.le_refl _
    · rw [List.length_drop]; omega
theorem rFlag_len (st : St) : (rFlag st).2.1.length ≤ st.1.length := by
  obtain ⟨b, e⟩ := st
  unfold rFlag
  split
  · exact Nat.le_refl _
  · cases b with
    | nil => exact Nat.le_refl _
    | cons x r =>
      dsimp only
      split
      · exact Nat.le_refl _
      · simp
theorem rDot_less (st : St) : (rDot st).2.1.length ≤ st.1.length := by
  have h1 := rNumber_len st 63
  have h2 := rNumber_len (rNumber st 63).2 1048576
  unfold rDot
  dsimp only
  omega
theorem itD_less : ∀ (k : Nat) (st : St), (itD k st).2.1.length ≤ st.1.length
  | 0, _ => Nat.le_refl _
  | k + 1, st => Nat.le_trans (rDot_less _) (itD_less k st)
theorem rVec_less (st : St) : (rVec st).2.1.length ≤ st.1.length := by
  have h1 := itD_less (rNumber st 64).1.toNat (rNumber st 64).2
  have h2 := rNumber_len st 64
  unfold rVec endD
  dsimp only
  rw [fail_len]
  omega
theorem rVer_less (st : St) : (rVer st).2.1.length ≤ st.1.length := by
  have h1 := rDot_less st
  have h2 := rVec_less (rDot st).2
  have h3 := rFlag_len (rVec (rDot st).2).2
  have h4 := rText_len (rFlag (rVec (rDot st).2).2).2 48
  unfold rVer
  dsimp only
  omega
theorem itV_less : ∀ (k : Nat) (st : St), (itV k st).2.1.length ≤ st.1.length
  | 0, _ => Nat.le_refl _
  | k + 1, st => Nat.le_trans (rVer_less _) (itV_less k st)
theorem rLeaf_less (st : St) : (rLeaf st).2.1.length ≤ st.1.length := by
  have h1 := itV_less (rNumber st 64).1.toNat (rNumber st 64).2
  have h2 := rNumber_len st 64
  unfold rLeaf endV
  dsimp only
  rw [fail_len]
  omega
/-- What a text is, as a vector or as a leaf, and what is wrong first. -/
def ofVec (s : List UInt8) : List Vc.D × Int := (if rDone (rVec (s, 0)).2 ≠ 0 then [] else (rVec (s, 0)).1, rDone (rVec (s, 0)).2)
def ofLeaf (s : List UInt8) : List Vc.V × Int := (if rDone (rLeaf (s, 0)).2 ≠ 0 then [] else (rLeaf (s, 0)).1, rDone (rLeaf (s, 0)).2)
end Go.Proofs.Ytpfighkafmammaa

/-
  Plain facts: what is put is taken again, and bytes that are taken are those that are put. Conditions: none but those that each theorem names.
-/

namespace Go.Proofs.Ytpfighkafmammaa
open Go.RowKit

def encD (d : Vc.D) : List UInt8 := Cnt.putL d.1 ++ Cnt.putL d.2
def encDs (ds : List Vc.D) : List UInt8 := (ds.map encD).flatten
def encVec (ds : List Vc.D) : List UInt8 := Cnt.putL ds.length ++ encDs ds
def encT (l : List UInt8) : List UInt8 := Cnt.putL l.length ++ l
def encV (v : Vc.V) : List UInt8 := encD v.dot ++ (encVec v.past ++ (flagB v.dead ++ encT v.data.data.toList))
def encVs (l : List Vc.V) : List UInt8 := (l.map encV).flatten
def encLeaf (l : List Vc.V) : List UInt8 := Cnt.putL l.length ++ encVs l

theorem encDs_drop (l : List Vc.D) (k : Nat) (x : Vc.D) (h : l[k]? = some x) : encDs (l.drop k) = encD x ++ encDs (l.drop (k + 1)) := by
  have hk := (List.getElem?_eq_some_iff.1 h).1
  rw [List.drop_eq_getElem_cons hk]
  rw [List.getElem?_eq_getElem hk] at h
  injection h with h
  simp [encDs, h]
theorem encVs_drop (l : List Vc.V) (k : Nat) (x : Vc.V) (h : l[k]? = some x) : encVs (l.drop k) = encV x ++ encVs (l.drop (k + 1)) := by
  have hk := (List.getElem?_eq_some_iff.1 h).1
  rw [List.drop_eq_getElem_cons hk]
  rw [List.getElem?_eq_getElem hk] at h
  injection h with h
  simp [encVs, h]
theorem encDs_snoc (l : List Vc.D) (x : Vc.D) : encDs (l ++ [x]) = encDs l ++ encD x := by simp [encDs]
theorem encVs_snoc (l : List Vc.V) (x : Vc.V) : encVs (l ++ [x]) = encVs l ++ encV x := by simp [encVs]

/-! What is put. -/
theorem wput_ok (b c : List UInt8) : wput (b, 0) true c = (b ++ c, 0) := rfl
theorem wNumber_ok (b : List UInt8) {n : Int} (h0 : 0 ≤ n) (h1 : n ≤ 1073741824) : wNumber (b, 0) n = (b ++ Cnt.putL n, 0) := by
  unfold wNumber
  rw [decide_eq_true h0, decide_eq_true h1]
  rfl
theorem wDot_ok (b : List UInt8) {d : Vc.D} (h : Vc.Ok d) : wDot (b, 0) d = (b ++ encD d, 0) := by
  unfold Vc.Ok at h
  unfold wDot encD
  rw [wNumber_ok b (by omega) (by omega), wNumber_ok _ (by omega) (by omega), List.append_assoc]
theorem wDots_ok : ∀ (ds : List Vc.D) (b : List UInt8), (∀ d ∈ ds, Vc.Ok d) → wDots (b, 0) ds = (b ++ encDs ds, 0)
  | [], b, _ => by simp [wDots, encDs]
  | d :: l, b, h => by
    show wDots (wDot (b, 0) d) l = _
    rw [wDot_ok b (h d (by simp)), wDots_ok l _ fun x hx => h x (List.mem_cons_of_mem _ hx)]
    simp [encDs]
theorem vec_oks {ds : List Vc.D} (h : Vc.check ds = 0) : ∀ d ∈ ds, Vc.Ok d := fun _ hd => Vc.mem_ok ((Vc.check_zero ds).1 h) hd
theorem vec_few {ds : List Vc.D} (h : Vc.check ds = 0) : ds.length ≤ 64 := Vc.vec_len ((Vc.check_zero ds).1 h)
theorem wVec_enc (b : List UInt8) {ds : List Vc.D} (h : Vc.check ds = 0) : wVec (b, 0) ds = (b ++ encVec ds, 0) := by
  have hl := vec_few h
  rw [wVec_ok h, wNumber_ok b (by omega) (by omega), wDots_ok ds _ (vec_oks h)]
  simp [encVec]
theorem wFlag_ok (b : List UInt8) (is : Bool) : wFlag (b, 0) is = (b ++ flagB is, 0) := rfl
theorem wText_ok (b : List UInt8) {s : ByteArray} (h : s.size ≤ 65536) : wText (b, 0) s = (b ++ encT s.data.toList, 0) := by
  unfold wText encT
  rw [decide_eq_true h, size_data]
  rfl
theorem wVer_ok (b : List UInt8) {v : Vc.V} (h : Vc.OkV v) : wVer (b, 0) v = (b ++ encV v, 0) := by
  have hd := h.data
  unfold wVer encV
  rw [wDot_ok b h.dot, wVec_enc _ ((Vc.check_zero _).2 h.past), wFlag_ok, wText_ok _ (by omega)]
  simp
theorem wVers_ok : ∀ (l : List Vc.V) (b : List UInt8), (∀ v ∈ l, Vc.OkV v) → wVers (b, 0) l = (b ++ encVs l, 0)
  | [], b, _ => by simp [wVers, encVs]
  | v :: l, b, h => by
    show wVers (wVer (b, 0) v) l = _
    rw [wVer_ok b (h v (by simp)), wVers_ok l _ fun x hx => h x (List.mem_cons_of_mem _ hx)]
    simp [encVs]
theorem leaf_oks {l : List Vc.V} (h : Vc.checkLeaf l = 0) : ∀ v ∈ l, Vc.OkV v := fun _ hv => (((Vc.checkLeaf_zero l).1 h).up.mem hv).1
theorem leaf_few {l : List Vc.V} (h : Vc.checkLeaf l = 0) : l.length ≤ 64 := ((Vc.checkLeaf_zero l).1 h).len
theorem wLeaf_enc (b : List UInt8) {l : List Vc.V} (h : Vc.checkLeaf l = 0) : wLeaf (b, 0) l = (b ++ encLeaf l, 0) := by
  have hl := leaf_few h
  rw [wLeaf_ok h, wNumber_ok b (by omega) (by omega), wVers_ok l _ (leaf_oks h)]
  simp [encLeaf]
theorem wVec_check {ds : List Vc.D} {st : St} (h : (wVec st ds).2 = 0) : Vc.check ds = 0 := Classical.byContradiction fun hc => by
  rw [wVec_bad hc] at h
  exact fail_bad hc h
theorem wLeaf_check {l : List Vc.V} {st : St} (h : (wLeaf st l).2 = 0) : Vc.checkLeaf l = 0 := Classical.byContradiction fun hc => by
  rw [wLeaf_bad hc] at h
  exact fail_bad hc h

/-! It is taken again. -/
theorem back_textM {l : List UInt8} {most : Int} (hs : (l.length : Int) ≤ most) (hm : most ≤ 65536) (r : List UInt8) : rText (encT l ++ r, 0) most = (l, (r, 0)) := by
  have h := back_number (n := l.length) (by omega) (by omega) most hs (l ++ r)
  unfold rText encT
  rw [List.append_assoc, h]
  rw [if_neg (by simp), if_neg (by rw [List.length_append]; simp; omega)]
  simp only [Int.toNat_natCast]
  rw [List.take_left, List.drop_left]
theorem rDot_back {d : Vc.D} (h : Vc.Ok d) (r : List UInt8) : rDot (encD d ++ r, 0) = (d, (r, 0)) := by
  unfold Vc.Ok at h
  unfold rDot encD
  rw [List.append_assoc, back_number (by omega) (by omega) 63 (by omega)]
  dsimp only
  rw [back_number (by omega) (by omega) 1048576 (by omega)]
theorem itD_back {ds : List Vc.D} (h : ∀ d ∈ ds, Vc.Ok d) (r : List UInt8) : ∀ k, k ≤ ds.length → itD k (encDs ds ++ r, 0) = (ds.take k, (encDs (ds.drop k) ++ r, 0))
  | 0, _ => by simp [itD]
  | k + 1, hk => by
    obtain ⟨d, hd⟩ : ∃ d, ds[k]? = some d := ⟨_, List.getElem?_eq_getElem (by omega)⟩
    have ih := itD_back h r k (by omega)
    rw [encDs_drop ds k d hd, List.append_assoc] at ih
    unfold itD
    rw [ih]
    dsimp only
    rw [rDot_back (h d (List.mem_of_getElem? hd)), List.take_add_one, hd]
    rfl
theorem endD_ok {ds : List Vc.D} (h : Vc.check ds = 0) (r : List UInt8) : endD (ds, (r, 0)) = (ds, (r, 0)) := by
  unfold endD
  rw [h, fail_zero]
  rfl
theorem rVec_back {ds : List Vc.D} (h : Vc.check ds = 0) (r : List UInt8) : rVec (encVec ds ++ r, 0) = (ds, (r, 0)) := by
  have hl := vec_few h
  unfold rVec encVec
  rw [List.append_assoc, back_number (by omega) (by omega) 64 (by omega)]
  dsimp only
  rw [Int.toNat_natCast, itD_back (vec_oks h) r _ (Nat.le_refl _), List.take_length, List.drop_length]
  exact endD_ok h r
theorem rVer_back {v : Vc.V} (h : Vc.OkV v) (r : List UInt8) : rVer (encV v ++ r, 0) = (v, (r, 0)) := by
  have hd := h.data
  unfold rVer encV
  rw [List.append_assoc, List.append_assoc, List.append_assoc, rDot_back h.dot]
  dsimp only
  rw [rVec_back ((Vc.check_zero _).2 h.past)]
  dsimp only
  rw [back_flag, back_textM (by rw [size_data]; omega) (by omega)]
  dsimp only
  rw [str_of]
theorem itV_back {l : List Vc.V} (h : ∀ v ∈ l, Vc.OkV v) (r : List UInt8) : ∀ k, k ≤ l.length → itV k (encVs l ++ r, 0) = (l.take k, (encVs (l.drop k) ++ r, 0))
  | 0, _ => by simp [itV]
  | k + 1, hk => by
    obtain ⟨d, hd⟩ : ∃ d, l[k]? = some d := ⟨_, List.getElem?_eq_getElem (by omega)⟩
    have ih := itV_back h r k (by omega)
    rw [encVs_drop l k d hd, List.append_assoc] at ih
    unfold itV
    rw [ih]
    dsimp only
    rw [rVer_back (h d (List.mem_of_getElem? hd)), List.take_add_one, hd]
    rfl
theorem endV_ok {l : List Vc.V} (h : Vc.checkLeaf l = 0) (r : List UInt8) : endV (l, (r, 0)) = (l, (r, 0)) := by
  unfold endV
  rw [h, fail_zero]
  rfl
theorem rLeaf_back {l : List Vc.V} (h : Vc.checkLeaf l = 0) (r : List UInt8) : rLeaf (encLeaf l ++ r, 0) = (l, (r, 0)) := by
  have hl := leaf_few h
  unfold rLeaf encLeaf
  rw [List.append_assoc, back_number (by omega) (by omega) 64 (by omega)]
  dsimp only
  rw [Int.toNat_natCast, itV_back (leaf_oks h) r _ (Nat.le_refl _), List.take_length, List.drop_length]
  exact endV_ok h r
theorem ofVec_back {ds : List Vc.D} (h : Vc.check ds = 0) : ofVec (encVec ds) = (ds, 0) := by
  have := rVec_back h []
  rw [List.append_nil] at this
  unfold ofVec
  rw [this]
  rfl
theorem ofLeaf_back {l : List Vc.V} (h : Vc.checkLeaf l = 0) : ofLeaf (encLeaf l) = (l, 0) := by
  have := rLeaf_back h []
  rw [List.append_nil] at this
  unfold ofLeaf
  rw [this]
  rfl

/-! Bytes that are taken are those that are put. -/
theorem rNumber_one {st : St} {m : Int} (h : (rNumber st m).2.2 = 0) : st.2 = 0 ∧ st.1 = Cnt.putL (rNumber st m).1 ++ (rNumber st m).2.1 := by
  unfold rNumber at h ⊢
  by_cases h0 : st.2 ≠ 0
  · rw [if_pos h0] at h
    exact absurd h h0
  · rw [if_neg h0] at h ⊢
    by_cases h1 : (Cnt.takeF st.1).2.2 ≠ 0
    · rw [if_pos h1] at h
      exact absurd h h1
    · rw [if_neg h1] at h ⊢
      by_cases h2 : m < (Cnt.takeF st.1).1
      · rw [if_pos h2] at h
        cases h
      · rw [if_neg h2]
        obtain ⟨_, _, h3⟩ := Cnt.takeF_ok st.1 (by simpa using h1)
        refine ⟨by simpa using h0, ?_⟩
        dsimp only
        rw [h3, List.take_append_drop]
theorem rDot_one {st : St} (h : (rDot st).2.2 = 0) : st.2 = 0 ∧ st.1 = encD (rDot st).1 ++ (rDot st).2.1 := by
  unfold rDot at h ⊢
  dsimp only at h ⊢
  obtain ⟨h1, h2⟩ := rNumber_one h
  obtain ⟨h3, h4⟩ := rNumber_one h1
  refine ⟨h3, ?_⟩
  unfold encD
  dsimp only
  rw [List.append_assoc, ← h2]
  exact h4
theorem itD_one : ∀ (k : Nat) (st : St), (itD k st).2.2 = 0 → st.2 = 0 ∧ st.1 = encDs (itD k st).1 ++ (itD k st).2.1
  | 0, st, h => ⟨h, by simp [itD, encDs]⟩
  | k + 1, st, h => by
    have h' : (rDot (itD k st).2).2.2 = 0 := h
    obtain ⟨h1, h2⟩ := rDot_one h'
    obtain ⟨h3, h4⟩ := itD_one k st h1
    refine ⟨h3, ?_⟩
    show st.1 = encDs ((itD k st).1 ++ [(rDot (itD k st).2).1]) ++ (rDot (itD k st).2).2.1
    rw [encDs_snoc, List.append_assoc, ← h2]
    exact h4
theorem fail_parts {st : St} {e : Int} (h : (fail st e).2 = 0) : st.2 = 0 ∧ e = 0 := by
  unfold fail at h
  split at h
  · rename_i h1; exact ⟨h1, h⟩
  · rename_i h1; exact absurd h h1
theorem endD_one {x : List Vc.D × St} (h : (endD x).2.2 = 0) : x.2.2 = 0 ∧ Vc.check x.1 = 0 ∧ endD x = x := by
  have h' : (fail x.2 (Vc.check x.1)).2 = 0 := h
  obtain ⟨h1, h2⟩ := fail_parts h'
  refine ⟨h1, h2, ?_⟩
  unfold endD
  rw [h2, fail_zero, if_neg (by simpa using h1)]
theorem rVec_one {st : St} (h : (rVec st).2.2 = 0) : st.2 = 0 ∧ st.1 = encVec (rVec st).1 ++ (rVec st).2.1 ∧ Vc.check (rVec st).1 = 0 := by
  unfold rVec at h ⊢
  obtain ⟨h1, h2, h3⟩ := endD_one h
  rw [h3]
  obtain ⟨h4, h5⟩ := itD_one _ _ h1
  obtain ⟨h6, h7⟩ := rNumber_one h4
  refine ⟨h6, ?_, h2⟩
  unfold encVec
  rw [itD_len, List.append_assoc, ← h5]
  have h8 := rNumber_nonneg st 64
  rw [Int.toNat_of_nonneg h8]
  exact h7
theorem rFlag_one {st : St} (h : (rFlag st).2.2 = 0) : st.2 = 0 ∧ st.1 = flagB (rFlag st).1 ++ (rFlag st).2.1 := by
  obtain ⟨b, e⟩ := st
  unfold rFlag at h ⊢
  by_cases h0 : e ≠ 0
  · rw [if_pos h0] at h
    exact absurd h h0
  · rw [if_neg h0] at h ⊢
    refine ⟨by simpa using h0, ?_⟩
    cases b with
    | nil => cases h
    | cons x r =>
      dsimp only at h ⊢
      by_cases hx : 1 < x.toNat
      · rw [if_pos hx] at h
        cases h
      · rw [if_neg hx]
        dsimp only
        have hc : x = 0 ∨ x = 1 := by
          rcases (show x.toNat = 0 ∨ x.toNat = 1 by omega) with h1 | h1
          · exact .inl (UInt8.toNat_inj.1 h1)
          · exact .inr (UInt8.toNat_inj.1 h1)
        rcases hc with rfl | rfl <;> rfl
theorem rText_one {st : St} {m : Int} (h : (rText st m).2.2 = 0) : st.2 = 0 ∧ st.1 = encT (rText st m).1 ++ (rText st m).2.1 := by
  unfold rText at h ⊢
  by_cases h0 : (rNumber st m).2.2 ≠ 0
  · rw [if_pos h0] at h
    exact absurd h h0
  · rw [if_neg h0] at h ⊢
    by_cases h1 : ((rNumber st m).2.1.length : Int) < (rNumber st m).1
    · rw [if_pos h1] at h
      cases h
    · rw [if_neg h1]
      obtain ⟨h2, h3⟩ := rNumber_one (st := st) (m := m) (by simpa using h0)
      refine ⟨h2, ?_⟩
      have h8 := rNumber_nonneg st m
      unfold encT
      dsimp only
      rw [List.length_take, List.append_assoc, List.take_append_drop, show ((min (rNumber st m).1.toNat (rNumber st m).2.1.length : Nat) : Int) = (rNumber st m).1 by omega]
      exact h3
theorem rVer_one {st : St} (h : (rVer st).2.2 = 0) : st.2 = 0 ∧ st.1 = encV (rVer st).1 ++ (rVer st).2.1 := by
  unfold rVer at h ⊢
  dsimp only at h ⊢
  obtain ⟨h1, h2⟩ := rText_one h
  obtain ⟨h3, h4⟩ := rFlag_one h1
  obtain ⟨h5, h6, _⟩ := rVec_one h3
  obtain ⟨h7, h8⟩ := rDot_one h5
  refine ⟨h7, ?_⟩
  unfold encV
  dsimp only
  rw [str_data, List.append_assoc, List.append_assoc, List.append_assoc, ← h2, ← h4, ← h6]
  exact h8
theorem itV_one : ∀ (k : Nat) (st : St), (itV k st).2.2 = 0 → st.2 = 0 ∧ st.1 = encVs (itV k st).1 ++ (itV k st).2.1
  | 0, st, h => ⟨h, by simp [itV, encVs]⟩
  | k + 1, st, h => by
    have h' : (rVer (itV k st).2).2.2 = 0 := h
    obtain ⟨h1, h2⟩ := rVer_one h'
    obtain ⟨h3, h4⟩ := itV_one k st h1
    refine ⟨h3, ?_⟩
    show st.1 = encVs ((itV k st).1 ++ [(rVer (itV k st).2).1]) ++ (rVer (itV k st).2).2.1
    rw [encVs_snoc, List.append_assoc, ← h2]
    exact h4
theorem endV_one {x : List Vc.V × St} (h : (endV x).2.2 = 0) : x.2.2 = 0 ∧ Vc.checkLeaf x.1 = 0 ∧ endV x = x := by
  have h' : (fail x.2 (Vc.checkLeaf x.1)).2 = 0 := h
  obtain ⟨h1, h2⟩ := fail_parts h'
  refine ⟨h1, h2, ?_⟩
  unfold endV
  rw [h2, fail_zero, if_neg (by simpa using h1)]
theorem rLeaf_one {st : St} (h : (rLeaf st).2.2 = 0) : st.2 = 0 ∧ st.1 = encLeaf (rLeaf st).1 ++ (rLeaf st).2.1 ∧ Vc.checkLeaf (rLeaf st).1 = 0 := by
  unfold rLeaf at h ⊢
  obtain ⟨h1, h2, h3⟩ := endV_one h
  rw [h3]
  obtain ⟨h4, h5⟩ := itV_one _ _ h1
  obtain ⟨h6, h7⟩ := rNumber_one h4
  refine ⟨h6, ?_, h2⟩
  unfold encLeaf
  rw [itV_len, List.append_assoc, ← h5]
  have h8 := rNumber_nonneg st 64
  rw [Int.toNat_of_nonneg h8]
  exact h7
theorem rDone_zero {st : St} (h : rDone st = 0) : st.2 = 0 ∧ st.1 = [] := by
  unfold rDone at h
  by_cases h1 : st.2 = 0 ∧ st.1 ≠ []
  · rw [if_pos h1] at h
    cases h
  · rw [if_neg h1] at h
    exact ⟨h, Classical.byContradiction fun h2 => h1 ⟨h, h2⟩⟩
theorem ofLeaf_one {s : List UInt8} (h : (ofLeaf s).2 = 0) : Vc.checkLeaf (ofLeaf s).1 = 0 ∧ encLeaf (ofLeaf s).1 = s := by
  have h' : rDone (rLeaf (s, 0)).2 = 0 := h
  obtain ⟨h1, h2⟩ := rDone_zero h'
  obtain ⟨_, h3, h4⟩ := rLeaf_one h1
  have e : ofLeaf s = ((rLeaf (s, 0)).1, 0) := by
    unfold ofLeaf
    rw [h', if_neg (by simp)]
  rw [e]
  refine ⟨h4, ?_⟩
  rw [h2, List.append_nil] at h3
  exact h3.symm
end Go.Proofs.Ytpfighkafmammaa
