/-
  What the program's take answers: the number ahead of which so many are left, and that it is taken; nothing else that lay in memory turns.
-/
import Derived.Test.YtehamngfkmnckaaP2
namespace Go.Proofs.Ytehamngfkmnckaa
open Go.RowKit Go.Shelf

attribute [local go_sem] Oper.semAt_some

/-- The last that was met. -/
def lastN {N : Nat} (l : List {i : Nat // i < N}) : Nat := (l.getLast?.map (·.1)).getD 0
theorem lastN_snoc {N : Nat} (l : List {i : Nat // i < N}) (s : {i : Nat // i < N}) : lastN (l ++ [s]) = s.1 := by simp [lastN]
theorem last_pick {N : Nat} {g : List Bool} {pre : List {i : Nat // i < N}} {K : Nat} (hg : g.length = N) (h : pre.map (·.1) <+: stays g N) (hl : pre.length = K + 1) : Dc.pickAt g K = lastN pre := by
  refine (stays_pick g K N (by omega)).1 _ ?_
  obtain ⟨r, hr⟩ := h
  have hne : pre ≠ [] := by rintro rfl; simp at hl
  rw [← hr, List.getElem?_append_left (by rw [List.length_map]; omega), List.getElem?_map, lastN, List.getLast?_eq_getElem?, hl, Nat.add_sub_cancel]
  obtain ⟨x, hx⟩ : ∃ x, pre[K]? = some x := ⟨_, List.getElem?_eq_getElem (by omega)⟩
  rw [hx]
  rfl
theorem below_both {n G T : Nat} {w W : World} {vs : List Value} (h : Below n w W) (hr : VRow w G T vs) (hG : G < n) (k : Nat) (v : Value) : Below n (w.setCell ⟨G, k, none⟩ v) (W.setCell ⟨G, k, none⟩ v) :=
  ⟨h.os, h.tape, h.output, by simpa using h.size, fun j hj => by
    by_cases e : j = G
    · subst e
      exact ((hr.below h hG).set k v).trans (hr.set k v).symm
    · rw [heap_setCell_other W ⟨G, k, none⟩ j v e, heap_setCell_other w ⟨G, k, none⟩ j v e]
      exact h.block j hj⟩
theorem ownFrom_belowF {β : Type} {n₀ B : Nat} {f : β → World} (hn : ∀ s, n₀ ≤ (f s).heap.size) (hB : n₀ ≤ B) : OwnFrom B (fun (s : β) W => Below n₀ (f s) W) :=
  fun s _ _ _ hs hg hr => hs.grown hg (Nat.le_trans (hn s) hs.size) (fun k e => Nat.le_trans hB (hr k e).1)
theorem results_cell16 (tmps : Array Value) (w : World) (g : Nat) (v : Int) (hp : tmps.getD 4 undef = .pointer (some ⟨g, 0, none⟩)) (hc : w.cell? ⟨g, 0, none⟩ = some (.int .i64 v)) : (results Try.f16 tmps).run Try.prog w = .ok (.int .i64 v) w := by
  have hp' : tmps[4]?.getD undef = .pointer (some ⟨g, 0, none⟩) := by simpa using hp
  simp [results, hp', asAddr]
  go_simp
theorem set_other {W : World} {B B' k : Nat} {t : TypeId} {v : Value} (h : Boxed W B t v) (hne : B ≠ B') (u : Value) : Boxed (W.setCell ⟨B', k, none⟩ u) B t v := (heap_setCell_other W ⟨B', k, none⟩ B u hne).trans h

set_option maxRecDepth 100000 in
set_option maxHeartbeats 2000000 in
theorem take_in (G N K : Nat) (g : List Bool) (hgN : g.length = N) (hN : N ≤ 1000) (hK : K < Dc.lefts g) (w : World) (hr : VRow w G 4 (bools g)) :
    CallsIn Fence.wide 3 Try.prog 16 #[.slice (some ⟨G, 0, none⟩) N N, .int .i64 K] w fun e w' => e = .returned (.int .i64 (Dc.pickAt g K)) ∧ Below w.heap.size (w.setCell ⟨G, Dc.pickAt g K, none⟩ (.bool true)) w' := by
  have h17 : Fence.wide.fn 17 := trivial
  have HR := hide hr
  have hGs := hr.lt
  have HGN := hide hgN
  have HKl := hide hK
  have hK' : K ≤ 1000 := by have := Dc.lefts_le g; omega
  clear hr hgN hK
  obtain ⟨P, hP⟩ : ∃ P, Dc.pickAt g K = P := ⟨_, rfl⟩
  rw [hP]
  have HP := hide hP
  clear hP
  refine callsIn_of_wp_marks Try.func16 rfl trivial ?_ rfl
  simp only [Try.ntmps16, List.size_toArray, List.length_cons, List.length_nil, Nat.reduceAdd, Nat.reduceSub, Array.replicate_succ, Array.replicate_zero, List.push_toArray, List.append_toArray, List.nil_append, List.cons_append]
  gi_wp2_with (gi_at_call 17; refine (left_in Fence.wide 2 h17 rfl _ _ _ _).mono ?_; rintro e w' ⟨rfl, rfl⟩)
  have b0 := (((Boxed.new w 30 (.slice (some ⟨G, 0, none⟩) N N)).alloc (.cells #[.int .i64 K] 3)).alloc (.cells #[.int .i64 0] 3)).alloc (.cells #[.slice (some ⟨G, 0, none⟩) N N] 30)
  have b1 := ((Boxed.new (w.alloc (.cells #[.slice (some ⟨G, 0, none⟩) N N] 30)) 3 (.int .i64 K)).alloc (.cells #[.int .i64 0] 3)).alloc (.cells #[.slice (some ⟨G, 0, none⟩) N N] 30)
  have b2 := (Boxed.new ((w.alloc (.cells #[.slice (some ⟨G, 0, none⟩) N N] 30)).alloc (.cells #[.int .i64 K] 3)) 3 (.int .i64 0)).alloc (.cells #[.slice (some ⟨G, 0, none⟩) N N] 30)
  have b3 := Boxed.new (((w.alloc (.cells #[.slice (some ⟨G, 0, none⟩) N N] 30)).alloc (.cells #[.int .i64 K] 3)).alloc (.cells #[.int .i64 0] 3)) 30 (.slice (some ⟨G, 0, none⟩) N N)
  have hB0 : Below w.heap.size w ((((w.alloc (.cells #[.slice (some ⟨G, 0, none⟩) N N] 30)).alloc (.cells #[.int .i64 K] 3)).alloc (.cells #[.int .i64 0] 3)).alloc (.cells #[.slice (some ⟨G, 0, none⟩) N N] 30)) := ((((Below.refl _ w).alloc (Nat.le_refl _) _).alloc (by simp) _).alloc (by simp; omega) _).alloc (by simp; omega) _
  have hsz : ((((w.alloc (.cells #[.slice (some ⟨G, 0, none⟩) N N] 30)).alloc (.cells #[.int .i64 K] 3)).alloc (.cells #[.int .i64 0] 3)).alloc (.cells #[.slice (some ⟨G, 0, none⟩) N N] 30)).heap.size = w.heap.size + 4 := by simp
  simp only [World.size_alloc] at b1 b2 b3
  obtain ⟨W0, hW0⟩ : ∃ W0, (((w.alloc (.cells #[.slice (some ⟨G, 0, none⟩) N N] 30)).alloc (.cells #[.int .i64 K] 3)).alloc (.cells #[.int .i64 0] 3)).alloc (.cells #[.slice (some ⟨G, 0, none⟩) N N] 30) = W0 := ⟨_, rfl⟩
  rw [hW0] at b0 b1 b2 b3 hB0 hsz ⊢
  clear hW0
  refine wpIn_rangeFunc_ownH rfl (by decide) (gf := 18) (lb := #[.pointer (some ⟨w.heap.size + 1 + 1 + 1, 0, none⟩)]) rfl trivial (enters_of Try.func18 (by kernel_rfl) rfl)
    (left_stops 2 (by decide) (w.heap.size + 1 + 1 + 1) w.heap.size G N g (unhide HGN) hN hGs W0 b3 ((unhide HR).below hB0 hGs)) belowK_t (belowK_b (by omega)) (Below.refl _ _) (fun _ => rfl)
    (fun pre W => (pre.length ≤ K ∧ Boxed W (w.heap.size + 1) 3 (.int .i64 ((K - pre.length : Nat) : Int)) ∧ Boxed W w.heap.size 30 (.slice (some ⟨G, 0, none⟩) N N) ∧ Boxed W (w.heap.size + 1 + 1) 3 (.int .i64 0)) ∧ Below w.heap.size w W)
    (fun cd pre W => (cd = .ret ∧ pre.length = K + 1 ∧ Boxed W (w.heap.size + 1 + 1) 3 (.int .i64 (lastN pre : Int))) ∧ Below w.heap.size (w.setCell ⟨G, lastN pre, none⟩ (.bool true)) W)
    (OwnFrom.and (OwnFrom.and (ownFrom_pure _ _) (OwnFrom.and (Own.from (boxed_own _ _ _) _) (OwnFrom.and (Own.from (boxed_own _ _ (fun _ => Value.slice (some ⟨G, 0, none⟩) N N)) _) (Own.from (boxed_own _ _ (fun _ => Value.int .i64 0)) _)))) (ownFrom_below (Nat.le_refl _) (by omega)))
    (fun cd => OwnFrom.and (OwnFrom.and (ownFrom_pure _ _) (OwnFrom.and (ownFrom_pure _ _) (Own.from (boxed_own _ _ (fun pre : List {i : Nat // i < N} => Value.int .i64 (lastN pre : Int))) _))) (ownFrom_belowF (fun _ => by simp) (by omega)))
    ⟨⟨Nat.zero_le _, b1, b0, b2⟩, hB0⟩
    (fun s a' _ => a' = { tmps := #[.slice (some ⟨G, 0, none⟩) N N, .int .i64 K, .pointer (some ⟨w.heap.size, 0, none⟩), .pointer (some ⟨w.heap.size + 1, 0, none⟩), .pointer (some ⟨w.heap.size + 1 + 1, 0, none⟩), .int .i64 (s.1 : Int), .slice (some ⟨G, 0, none⟩) N N, .func (.func 18) #[] #[.pointer (some ⟨w.heap.size + 1 + 1 + 1, 0, none⟩)], .int .i64 (s.1 : Int), undef, undef, undef, undef, undef, undef, undef, undef], defers := [] })
    (fun s a' _ X Y row hs hg hr => hs)
    ?assign ?body ?done ?stop
  case assign =>
    rintro l pre ⟨s, hs⟩ W Kk hI hK
    gi_wp2
    exact hK _ _ (KeepsFrom.refl _ _) (Below.refl _ _) hI rfl
  case body =>
    rintro l pre ⟨s, hs⟩ a' W hl _ ⟨⟨hle, hv1, hv0, hv2⟩, hB⟩ rfl hlt
    have hc1 := hv1.cell
    have hf1 := hv1.frozen
    have hc0 := hv0.cell
    have HS1 := hide hv1
    have HS0 := hide hv0
    have HS2 := hide hv2
    have HBb := hide hB
    have hsN : (s : Int) < (N : Int) := by omega
    obtain ⟨c, hc⟩ : ∃ c, K - pre.length = c := ⟨_, rfl⟩
    rw [hc] at hc1
    have hcK : c ≤ 1000 := by omega
    by_cases h0 : c = 0
    · subst h0
      obtain ⟨b, hb⟩ : ∃ b, g[s]? = some b := ⟨_, List.getElem?_eq_getElem (by rw [unhide HGN]; exact hs)⟩
      have hrW := (unhide HR).below hB hGs
      have x0 := hrW.cell s _ (bools_at hb)
      have f0 := hrW.frozen s
      have hv2' := set_other (k := s) hv2 (show w.heap.size + 1 + 1 ≠ G by omega) (.bool true)
      have hc2 := hv2'.cell
      have hf2 := hv2'.frozen
      have HV2 := hide (hv2'.set (.int .i64 (s : Int)))
      have HBN := hide ((below_both hB (unhide HR) hGs s (.bool true)).setCell (p := ⟨w.heap.size + 1 + 1, 0, none⟩) (by show w.heap.size ≤ w.heap.size + 1 + 1; omega) (.int .i64 (s : Int)))
      clear hv1 hv0 hv2 hB hrW hv2' hb
      gi_wp2_with fail
      refine ⟨((KeepsOthers.setCell _ _ _).trans (KeepsOthers.setCell _ _ _)).from _, ⟨rfl, by rw [List.length_append]; simp; omega, ?_⟩, ?_⟩
      · rw [lastN_snoc]; exact unhide HV2
      · rw [lastN_snoc]; exact unhide HBN
    · have hcz : ((c : Int) == 0) = false := by simp; omega
      have HV1 := hide (hv1.set (.int .i64 ((c - 1 : Nat) : Int)))
      have HV0 := hide (set_other (k := 0) hv0 (show w.heap.size ≠ w.heap.size + 1 by omega) (.int .i64 ((c - 1 : Nat) : Int)))
      have HV2 := hide (set_other (k := 0) hv2 (show w.heap.size + 1 + 1 ≠ w.heap.size + 1 by omega) (.int .i64 ((c - 1 : Nat) : Int)))
      have HBN := hide (hB.setCell (p := ⟨w.heap.size + 1, 0, none⟩) (by show w.heap.size ≤ w.heap.size + 1; omega) (.int .i64 ((c - 1 : Nat) : Int)))
      have HBK := hide ((Below.refl w.heap.size W).setCell (p := ⟨w.heap.size + 1, 0, none⟩) (by show w.heap.size ≤ w.heap.size + 1; omega) (.int .i64 ((c - 1 : Nat) : Int)))
      have he : ((c - 1 : Nat) : Int) = (c : Int) - 1 := by omega
      rw [he] at HV1 HV0 HV2 HBN HBK
      clear hv1 hv0 hv2 hB
      gi_wp2_with fail
      refine ⟨(KeepsOthers.setCell _ _ _).from _, unhide HBK, ⟨by rw [List.length_append]; simp; omega, ?_, unhide HV0, unhide HV2⟩, unhide HBN⟩
      rw [show ((K - (pre ++ [(⟨s, hs⟩ : {i : Nat // i < N})]).length : Nat) : Int) = (c : Int) - 1 by rw [List.length_append]; simp; omega]
      exact unhide HV1
  case done =>
    rintro D zs W hD hS ⟨⟨hle, _, _, _⟩, hB⟩ hK
    exfalso
    have h1 := congrArg List.length hS
    have h2 := stays_all g
    rw [unhide HGN] at h2
    have h3 := unhide HKl
    rw [List.length_map] at h1
    omega
  case stop =>
    rintro D cd pre W hD hSp ⟨⟨rfl, hal, hv⟩, hB⟩ hK
    have hc := hv.cell
    have HR1 : Hid (P = lastN pre) := hide ((unhide HP).symm.trans (last_pick (unhide HGN) hSp hal))
    gi_wp2
    refine ⟨by simp, .inl ⟨_, _, rfl, run_takeDeferred hK, ?_⟩⟩
    have hbl := belowK_b (w := w) (n₀ := w.heap.size) (Nat.le_refl _) W D _ (.deferred none) (by omega) hK rfl rfl
    rw [unhide HR1]
    refine ⟨_, results_cell16 _ _ (w.heap.size + 1 + 1) _ rfl ?_, rfl, hB.trans hbl⟩
    exact cell_kept hc (grownBy_putObj' W D (.deferred none)) (fun r e => by cases e; exact ⟨_, hK, rfl⟩)

theorem take_any (G N K : Nat) (g : List Bool) (hgN : g.length = N) (hN : N ≤ 1000) (hK : K < Dc.lefts g) (w : World) (hr : VRow w G 4 (bools g)) :
    Calls Try.prog 16 #[.slice (some ⟨G, 0, none⟩) N N, .int .i64 K] w fun e w' => e = .returned (.int .i64 (Dc.pickAt g K)) ∧ Below w.heap.size (w.setCell ⟨G, Dc.pickAt g K, none⟩ (.bool true)) w' :=
  callsIn_wide.1 (take_in G N K g hgN hN hK w hr)
end Go.Proofs.Ytehamngfkmnckaa
