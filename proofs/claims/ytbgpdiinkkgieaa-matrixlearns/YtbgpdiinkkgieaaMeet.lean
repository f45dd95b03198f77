/-
  What Meet answers: of each peer the lesser count, those of 0 left out; nothing that lay in memory turns.
-/
import Derived.Test.YtbgpdiinkkgieaaJoin
namespace Go.Proofs.Ytbgpdiinkkgieaa
open Go.RowKit Go.Shelf

attribute [local go_sem] Oper.semAt_some

def mtL (l : List (Vc.D × Vc.D)) : List Vc.D := l.flatMap Vc.mt
theorem mt_len : ∀ l : List (Vc.D × Vc.D), (mtL l).length ≤ l.length
  | [] => Nat.le_refl _
  | s :: l => by
    have ih : (l.flatMap Vc.mt).length ≤ l.length := mt_len l
    unfold mtL
    rw [List.flatMap_cons, List.length_append, List.length_cons]
    have h2 : (Vc.mt s).length ≤ 1 := by unfold Vc.mt; split <;> simp
    omega

set_option maxRecDepth 100000 in
set_option maxHeartbeats 2000000 in
theorem meet_in (a b : Option Addr) (ca cb : Nat) (xs ys : List Vc.D) (hx : xs.length ≤ 9223372036854775807) (hy : ys.length ≤ 9223372036854775807) (hca : xs.length ≤ ca) (hcb : ys.length ≤ cb) (w : World) (sa : Sl w a xs) (sb : Sl w b ys) :
    CallsIn Fence.wide 3 Try.prog 28 #[.slice a xs.length ca, .slice b ys.length cb] w fun e w' => ∃ r cap, e = .returned (.slice r (Vc.meets xs ys).length cap) ∧ (Vc.meets xs ys).length ≤ cap ∧ Sl w' r (Vc.meets xs ys) ∧ Below w.heap.size w w' ∧ Fresh w.heap.size r (Vc.meets xs ys) := by
  have h35 : Fence.wide.fn 35 := trivial
  have h36 : Fence.wide.fn 36 := trivial
  obtain ⟨i0, hi, hz0, hz1, hz2⟩ := info_parts info24
  have KV := hide (vectors_any a b ca cb xs ys hx hy w sa sb)
  have HSA := hide sa.b
  have HSB := hide sb.b
  clear sa sb
  by_cases hv : isVec xs ys = true
  · have hvs := (isVec_iff xs ys).1 hv
    have ua := (Vc.check_zero xs).1 hvs.1
    have ub := (Vc.check_zero ys).1 hvs.2
    have HJ : Hid (Vc.meets xs ys = mtL (Vc.sides xs ys)) := by unfold Vc.meets; rw [if_pos hvs]; exact hide rfl
    have hla := Vc.vec_len ua
    have hlb := Vc.vec_len ub
    have HUA := hide ua
    have HUB := hide ub
    rw [hv] at KV
    clear hv hvs ua ub
    refine callsIn_of_wp_marks Try.func28 rfl trivial ?_ rfl
    simp only [Try.ntmps28, List.size_toArray, List.length_cons, List.length_nil, Nat.reduceAdd, Nat.reduceSub, Array.replicate_succ, Array.replicate_zero, List.push_toArray, List.append_toArray, List.nil_append, List.cons_append]
    gi_wp2_with (first
      | (gi_at_call 35; refine (callsIn_wide.2 (unhide KV)).mono ?_; rintro e w1 ⟨rfl, hb1⟩; have HB1 := hide hb1; clear hb1)
      | (gi_at_call 36; refine (sides_in Fence.wide 2 h36 rfl _ _ _ _ _ _ _).mono ?_; rintro e w' ⟨rfl, rfl⟩))
    have hs1 := (unhide HB1).size
    have bO := ((Boxed.new w1 32 (.slice none 0 0)).alloc (.cells #[.slice a xs.length ca] 32)).alloc (.cells #[.slice b ys.length cb] 32)
    have bA := (Boxed.new (w1.alloc (.cells #[.slice none 0 0] 32)) 32 (.slice a xs.length ca)).alloc (.cells #[.slice b ys.length cb] 32)
    have bB := Boxed.new ((w1.alloc (.cells #[.slice none 0 0] 32)).alloc (.cells #[.slice a xs.length ca] 32)) 32 (.slice b ys.length cb)
    simp only [World.size_alloc] at bA bB
    have hB0 : Below w.heap.size w (((w1.alloc (.cells #[.slice none 0 0] 32)).alloc (.cells #[.slice a xs.length ca] 32)).alloc (.cells #[.slice b ys.length cb] 32)) := (((unhide HB1).alloc hs1 _).alloc (by simp; omega) _).alloc (by simp; omega) _
    have hsz : (((w1.alloc (.cells #[.slice none 0 0] 32)).alloc (.cells #[.slice a xs.length ca] 32)).alloc (.cells #[.slice b ys.length cb] 32)).heap.size = w1.heap.size + 3 := by simp
    obtain ⟨W0, hW0⟩ : ∃ W0, ((w1.alloc (.cells #[.slice none 0 0] 32)).alloc (.cells #[.slice a xs.length ca] 32)).alloc (.cells #[.slice b ys.length cb] 32) = W0 := ⟨_, rfl⟩
    rw [hW0] at bO bA bB hB0 hsz ⊢
    clear hW0
    refine wpIn_rangeFunc_ownH rfl (by decide) (gf := 41) (lb := #[.pointer (some ⟨w1.heap.size + 1, 0, none⟩), .pointer (some ⟨w1.heap.size + 1 + 1, 0, none⟩)]) rfl trivial (enters_of Try.func41 (by kernel_rfl) rfl)
      (sides_stops 2 (Nat.le_refl _) (w1.heap.size + 1) (w1.heap.size + 1 + 1) w.heap.size a b ca cb xs ys hla hlb hca hcb (unhide HUA) (unhide HUB) W0 hB0.size bA bB ((unhide HSA).below hB0) ((unhide HSB).below hB0)) belowK_t (belowK_b (by omega)) (Below.refl _ _) (fun _ => rfl)
      (fun pre W => (∃ u, Boxed W w1.heap.size 32 u ∧ W.ownsRow w.heap.size 24 2 u (mtL pre).length (flat (mtL pre)) ∧ True) ∧ Below w.heap.size w W)
      (fun _ _ _ => False)
      (OwnFrom.and (Own.from (holdsRow_own w.heap.size w1.heap.size 32 24 2 (fun pre : List (Vc.D × Vc.D) => (mtL pre).length) (fun pre => flat (mtL pre)) (fun _ _ => True)) _) (ownFrom_below (Nat.le_refl _) (by omega)))
      (fun _ _ _ _ _ hs _ _ => hs)
      ⟨⟨_, bO, World.ownsRow_nil _ _ _ _, trivial⟩, hB0⟩
      (fun s a' W => ∃ Bx, w1.heap.size < Bx ∧ VRow W Bx 24 [.int .i64 s.1.1, .int .i64 s.1.2] ∧ VRow W (Bx + 1) 24 [.int .i64 s.2.1, .int .i64 s.2.2] ∧ a' = { tmps := #[.slice a xs.length ca, .slice b ys.length cb, undef, undef, .slice none 0 0, .pointer (some ⟨w1.heap.size, 0, none⟩), .pointer (some ⟨Bx, 0, none⟩), .pointer (some ⟨Bx + 1, 0, none⟩), undef, .slice a xs.length ca, .slice b ys.length cb, .bool true, .bool false, .slice a xs.length ca, .slice b ys.length cb, .func (.func 41) #[] #[.pointer (some ⟨w1.heap.size + 1, 0, none⟩), .pointer (some ⟨w1.heap.size + 1 + 1, 0, none⟩)], dotV s.1, dotV s.2, undef, undef, undef, undef, undef, undef, undef, undef, undef, undef, undef, undef, undef, undef, undef], defers := [] })
      (fun s a' _ X Y row hs hg hr => by obtain ⟨Bx, h1, h2, h3, h4⟩ := hs; exact ⟨Bx, h1, VRow.own Bx 24 _ () X Y row h2 hg (fun r e => (hr r e).2), VRow.own (Bx + 1) 24 _ () X Y row h3 hg (fun r e => (hr r e).2), h4⟩)
      ?assign ?body ?done ?stop
    case assign =>
      rintro l pre ⟨⟨p, c⟩, ⟨p', c'⟩⟩ W K ⟨⟨u, hv, hrow, _⟩, hB⟩ hK
      simp only [dotV]
      gi_wp2
      have hsW := hB.size
      exact hK _ _ (((KeepsOthers.alloc _ _).trans (KeepsOthers.alloc _ _)).from _) (((Below.refl _ W).alloc hsW _).alloc (by simp; omega) _) ⟨⟨u, (hv.alloc _).alloc _, (hrow.alloc _).alloc _, trivial⟩, (hB.alloc hsW _).alloc (by simp; omega) _⟩
        ⟨W.heap.size, hv.lt, (VRow.new W 24 [.int .i64 p, .int .i64 c]).alloc _, VRow.newAt (vs := [.int .i64 p', .int .i64 c']) (by simp), rfl⟩
    case body =>
      rintro l pre ⟨⟨p, c⟩, ⟨p', c'⟩⟩ a' W hl _ ⟨⟨u, hv, hrow, _⟩, hB⟩ ⟨Bx, hBx, hX, hY, rfl⟩ hlt
      have hc := hv.cell
      have x0 : W.cell? ⟨Bx, 0, none⟩ = some (.int .i64 p) := hX.cell 0 _ rfl
      have x1 : W.cell? ⟨Bx, 1, none⟩ = some (.int .i64 c) := hX.cell 1 _ rfl
      have y1 : W.cell? ⟨Bx + 1, 1, none⟩ = some (.int .i64 c') := hY.cell 1 _ rfl
      clear hX hY
      have hlm := mt_len pre
      obtain ⟨m, hm⟩ : ∃ m, (if c' < c then c' else c) = m := ⟨_, rfl⟩
      have hmm : min c c' = m := by rw [← hm]; split <;> omega
      by_cases h0 : 0 < m
      · have HJN : Hid (mtL (pre ++ [((p, c), (p', c'))]) = mtL pre ++ [(p, m)]) := hide (by unfold mtL; rw [List.flatMap_append, List.flatMap_singleton]; unfold Vc.mt; dsimp only; rw [hmm, if_pos h0])
        obtain ⟨ds, hds⟩ : ∃ ds, mtL pre = ds := ⟨_, rfl⟩
        rw [hds] at HJN hrow hlm
        clear hds hmm
        gi_wp2_with (gi_at_builtin; refine wpListIn_append_own _ rfl _ _ 32 rfl w.heap.size 24 i0 _ 2 16 Try.underlying32 hi hz0 hz1 hz2 rfl (by decide) _ _ _ rfl (hrow.alloc _) ⟨W.heap.size, 0, none⟩ 1 1 [.int .i64 p, .int .i64 m] rfl rfl (cell_two_new _ _ _ _) (by simp [Value.oneCell']) (by unfold maxLen; omega) (by omega) (by have := hB.size; simp; omega) ?_; intro v' w2 hown' hgrow _; obtain ⟨g', cap', rfl⟩ := ownsRow_succ hown'; obtain ⟨hv1, hv2, hr2, hk2, hb2⟩ := hv.appended (by decide) hrow hB.size hs1 hown' hgrow; have hc1 := hv1.cell; have hf1 := hv1.frozen)
        have hr3 : (w2.setCell ⟨w1.heap.size, 0, none⟩ (.slice (some ⟨g', 0, none⟩) (ds.length + 1) cap')).ownsRow w.heap.size 24 2 (.slice (some ⟨g', 0, none⟩) (ds.length + 1) cap') (mtL (pre ++ [((p, c), (p', c'))])).length (flat (mtL (pre ++ [((p, c), (p', c'))]))) := by
          rw [unhide HJN, List.length_append, flat_append]
          exact hr2
        exact ⟨hk2.from _, hb2, ⟨_, hv2, by first | exact hr3 | exact ⟨hr3, trivial⟩⟩, hB.trans hb2⟩
      · have HJN : Hid (mtL (pre ++ [((p, c), (p', c'))]) = mtL pre) := hide (by unfold mtL; rw [List.flatMap_append, List.flatMap_singleton]; unfold Vc.mt; dsimp only; rw [hmm, if_neg h0, List.append_nil])
        clear hmm
        gi_wp2_with fail
        have hr3 : W.ownsRow w.heap.size 24 2 u (mtL (pre ++ [((p, c), (p', c'))])).length (flat (mtL (pre ++ [((p, c), (p', c'))]))) := by
          rw [unhide HJN]
          exact hrow
        exact ⟨KeepsFrom.refl _ _, Below.refl _ _, ⟨_, hv, by first | exact hr3 | exact ⟨hr3, trivial⟩⟩, hB⟩
    case done =>
      rintro D zs W hD rfl ⟨⟨u, hv, hrow, _⟩, hB⟩ hK
      have hc := hv.cell
      gi_wp2
      refine ⟨by simp, .inl ⟨_, _, rfl, run_takeDeferred hK, ?_⟩⟩
      have hlen : (Vc.meets xs ys).length = (mtL (Vc.sides xs ys)).length := by rw [unhide HJ]
      rw [← unhide HJ] at hrow hlen
      obtain ⟨r, cap, rfl, hcap, hsl, hfr⟩ := own_slF hlen (ownsRow_putObj hrow (.deferred none) hK rfl)
      exact ⟨_, results_tmp rfl _ _ _, r, cap, rfl, hcap, hsl, hB.trans (belowK_b (w := w) (Nat.le_refl _) W D _ _ (by omega) hK rfl rfl), hfr⟩
    case stop =>
      rintro D c pre W _ _ h _
      exact h.elim
  · have hvs : ¬ (Vc.check xs = 0 ∧ Vc.check ys = 0) := fun h => hv ((isVec_iff xs ys).2 h)
    have hvf : isVec xs ys = false := by cases h : isVec xs ys with
      | false => rfl
      | true => exact absurd h hv
    have HJ : Hid (Vc.meets xs ys = []) := by unfold Vc.meets; rw [if_neg hvs]; exact hide rfl
    rw [hvf] at KV
    clear hv hvs hvf
    refine callsIn_of_wp_marks Try.func28 rfl trivial ?_ rfl
    simp only [Try.ntmps28, List.size_toArray, List.length_cons, List.length_nil, Nat.reduceAdd, Nat.reduceSub, Array.replicate_succ, Array.replicate_zero, List.push_toArray, List.append_toArray, List.nil_append, List.cons_append]
    gi_wp2_with (gi_at_call 35; refine (callsIn_wide.2 (unhide KV)).mono ?_; rintro e w1 ⟨rfl, hb1⟩; have HB1 := hide hb1; clear hb1)
    exact ⟨_, results_tmp rfl _ _ _, none, 0, by rw [unhide HJ]; rfl, by rw [unhide HJ]; exact Nat.le_refl _, by rw [unhide HJ]; exact Sl.none _ _, unhide HB1, fun _ e => (by cases e)⟩

theorem meet_any (a b : Option Addr) (ca cb : Nat) (xs ys : List Vc.D) (hx : xs.length ≤ 9223372036854775807) (hy : ys.length ≤ 9223372036854775807) (hca : xs.length ≤ ca) (hcb : ys.length ≤ cb) (w : World) (sa : Sl w a xs) (sb : Sl w b ys) :
    Calls Try.prog 28 #[.slice a xs.length ca, .slice b ys.length cb] w fun e w' => ∃ r cap, e = .returned (.slice r (Vc.meets xs ys).length cap) ∧ (Vc.meets xs ys).length ≤ cap ∧ Sl w' r (Vc.meets xs ys) ∧ Below w.heap.size w w' :=
  (callsIn_wide.1 (meet_in a b ca cb xs ys hx hy hca hcb w sa sb)).mono fun _ _ ⟨r, cap, h1, h2, h3, h4, _⟩ => ⟨r, cap, h1, h2, h3, h4⟩
theorem meet_fresh (a b : Option Addr) (ca cb : Nat) (xs ys : List Vc.D) (hx : xs.length ≤ 9223372036854775807) (hy : ys.length ≤ 9223372036854775807) (hca : xs.length ≤ ca) (hcb : ys.length ≤ cb) (w : World) (sa : Sl w a xs) (sb : Sl w b ys) :
    Calls Try.prog 28 #[.slice a xs.length ca, .slice b ys.length cb] w fun e w' => ∃ r cap, e = .returned (.slice r (Vc.meets xs ys).length cap) ∧ (Vc.meets xs ys).length ≤ cap ∧ Sl w' r (Vc.meets xs ys) ∧ Below w.heap.size w w' ∧ Fresh w.heap.size r (Vc.meets xs ys) :=
  callsIn_wide.1 (meet_in a b ca cb xs ys hx hy hca hcb w sa sb)
end Go.Proofs.Ytbgpdiinkkgieaa
