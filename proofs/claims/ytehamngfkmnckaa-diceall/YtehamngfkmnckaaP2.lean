/-
  What the program's take answers: the number ahead of which so many are left, and that it is taken; nothing else that lay in memory turns.
-/
import Derived.Test.YtehamngfkmnckaaP1
import Derived.RangeFuncNested
import Derived.RangeFuncBound
import Derived.RangeFuncCalls
import Derived.RangeFuncLeaves
import Derived.RangeFuncBox
import Derived.Shelf.Abstract
import Derived.Shelf.RegionOpen
import Derived.OwnWalkIn
import Derived.TacticsInMore
import Derived.LoopNIn
import Derived.LoopIn
import Derived.Maps.AppendAt
import Derived.BigRegionIn
namespace Go.Proofs.Ytehamngfkmnckaa
open Go.RowKit Go.Shelf

attribute [local go_sem] Oper.semAt_some

set_option maxHeartbeats 400000 in
theorem left_in (F : Fence) (n : Nat) (h17 : F.fn 17) (hro : F.round = none) (a : Option Addr) (la ca : Nat) (w : World) :
    CallsIn F n Try.prog 17 #[.slice a la ca] w fun e w' => e = .returned (.func (.func 18) #[] #[.pointer (some ⟨w.heap.size, 0, none⟩)]) ∧ w' = w.alloc (.cells #[.slice a la ca] 30) := by
  refine callsIn_of_wp Try.func17 rfl h17 ?_ hro
  simp only [Try.ntmps17, List.size_toArray, List.length_cons, List.length_nil, Nat.reduceAdd, Nat.reduceSub, Array.replicate_succ, Array.replicate_zero, List.push_toArray, List.append_toArray, List.nil_append, List.cons_append]
  gi_wp2
  go_ret
  exact ⟨rfl, rfl⟩

theorem map_snoc {N : Nat} {g : List Bool} {k : Nat} {pre : List {i : Nat // i < N}} (h : pre.map (·.1) = stays g k) (hk : k < N) (hg : g[k]? = some false) : (pre ++ [(⟨k, hk⟩ : {i : Nat // i < N})]).map (·.1) = stays g (k + 1) := by
  rw [List.map_append, h, stays_false hg]
  rfl

set_option maxRecDepth 100000 in
set_option maxHeartbeats 4000000 in
theorem left1_in (n : Nat) (hn : 1 ≤ n) (l B n₀ G N : Nat) (g : List Bool) (hgN : g.length = N) (hN : N ≤ 1000) (hG : G < n₀) (J Jx : List {i : Nat // i < N} → World → Prop)
    (hY : ∀ (pre : List {i : Nat // i < N}) (s : {i : Nat // i < N}) W, J pre W → pre.length < N → YieldAt Fence.wide (n - 1) Try.prog l #[.int .i64 (s.1 : Int)] W fun e W' =>
      (e = .returned (.bool true) ∧ J (pre ++ [s]) W' ∧ Below n₀ W W') ∨ (e = .returned (.bool false) ∧ Jx (pre ++ [s]) W'))
    (W : World) (hB : W.cell? ⟨B, 0, none⟩ = some (.slice (some ⟨G, 0, none⟩) N N)) (hr : VRow W G 4 (bools g)) (h0 : J [] W) :
    CallsIn Fence.wide n Try.prog 18 #[.func (.yield l) #[] #[], .pointer (some ⟨B, 0, none⟩)] W fun e W' => (∃ v, e = .returned v) ∧
      ((∃ zs : List {i : Nat // i < N}, zs.map (·.1) = stays g N ∧ J zs W') ∨ (∃ pre : List {i : Nat // i < N}, pre.map (·.1) <+: stays g N ∧ Jx pre W')) := by
  have HY := hide hY
  have HR := hide hr
  have HGN := hide hgN
  clear hY hr hgN
  refine callsIn_of_wp Try.func18 rfl trivial ?_ rfl
  simp only [Try.ntmps18, List.size_toArray, List.length_cons, List.length_nil, Nat.reduceAdd, Nat.reduceSub, Array.replicate_succ, Array.replicate_zero, List.push_toArray, List.append_toArray, List.nil_append, List.cons_append]
  gi_wp2
  gi_loopw [7] (fun i wr => ∃ (k : Nat) (pre : List {i : Nat // i < N}), k ≤ N ∧ i = .int .i64 k ∧ Hid (pre.map (·.1) = stays g k ∧ J pre wr ∧ Below n₀ W wr)) (fun i _ => N - (intOf i).toNat)
  case atStart => exact ⟨0, [], Nat.zero_le _, rfl, hide ⟨rfl, h0, Below.refl _ _⟩⟩
  case round =>
    obtain ⟨k, pre, hk, rfl, HH⟩ := hrel
    by_cases hlt : k < N
    · obtain ⟨b, hb⟩ : ∃ b, g[k]? = some b := ⟨_, List.getElem?_eq_getElem (by rw [unhide HGN]; exact hlt)⟩
      have x0 := ((unhide HR).below (unhide HH).2.2 hG).cell k _ (bools_at hb)
      have HBt := hide hb
      clear hb
      cases b with
      | true =>
        gi_wp2_with fail
        refine ⟨fun f hf => absurd hf (by simp), ?_⟩
        gi_wp2_with fail
        go_roundw
        case rel => exact ⟨k + 1, pre, by omega, by go_num, hide ⟨by rw [stays_true (unhide HBt)]; exact (unhide HH).1, (unhide HH).2⟩⟩
        case measure => simp [intOf]; omega
      | false =>
        obtain ⟨fn, tmps, assign, body, hy, hR⟩ := unhide HY pre ⟨k, hlt⟩ wr (unhide HH).2.1 (by
          have h1 := congrArg List.length (unhide HH).1
          have h2 := stays_le g k
          rw [List.length_map] at h1
          omega)
        dsimp only at hy
        gi_wp2_with fail
        refine hR.mono ?_
        rintro e W3 (⟨rfl, hJ3, hk3⟩ | ⟨rfl, hJx3⟩)
        · have HJ3 := hide hJ3
          have HK3 := hide ((unhide HH).2.2.trans hk3)
          clear hJ3 hk3 hy hR x0
          gi_wp2_with fail
          go_roundw
          case rel => exact ⟨k + 1, pre ++ [⟨k, hlt⟩], by omega, by go_num, hide ⟨map_snoc (unhide HH).1 hlt (unhide HBt), unhide HJ3, unhide HK3⟩⟩
          case measure => simp [intOf]; omega
        · have HJx3 := hide hJx3
          clear hJx3 hy hR x0
          gi_wp2_with fail
          refine bodyPost_ret (results_none rfl _ _ _) rfl ?_
          refine ⟨⟨_, rfl⟩, .inr ⟨pre ++ [⟨k, hlt⟩], ?_, unhide HJx3⟩⟩
          rw [map_snoc (unhide HH).1 hlt (unhide HBt)]
          have := stays_prefix g (k + 1) (N - (k + 1))
          rwa [show k + 1 + (N - (k + 1)) = N by omega] at this
    · obtain rfl : k = N := by omega
      gi_wp2_with fail
      go_end0
      exact ⟨⟨_, rfl⟩, .inl ⟨pre, (unhide HH).1, (unhide HH).2.1⟩⟩

theorem left_stops (n : Nat) (hn : 1 ≤ n) (B n₀ G N : Nat) (g : List Bool) (hgN : g.length = N) (hN : N ≤ 1000) (hG : G < n₀) (w : World) (h1 : Boxed w B 30 (.slice (some ⟨G, 0, none⟩) N N)) (hr : VRow w G 4 (bools g)) :
    SeqStopsK Fence.wide n Try.prog 18 #[.pointer (some ⟨B, 0, none⟩)] (fun s : {i : Nat // i < N} => #[.int .i64 (s.1 : Int)]) (Below n₀) (fun zs => zs.map (·.1) = stays g N) (fun pre => pre.map (·.1) <+: stays g N) N w := fun l J Jx W hW _ _ hY h0 =>
  left1_in n hn l B n₀ G N g hgN hN hG J Jx hY W ((hW.cell (p := ⟨B, 0, none⟩) h1.lt).trans h1.cell) (hr.below hW hr.lt) h0
end Go.Proofs.Ytehamngfkmnckaa
