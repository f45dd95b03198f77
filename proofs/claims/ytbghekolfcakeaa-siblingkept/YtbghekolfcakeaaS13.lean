/-
  Two rows of versions, one behind the other, in a row of the call's own (Concat, Grow).
-/
import Derived.Test.YtbghekolfcakeaaP3
import Derived.Lib.AppendZeros
namespace Go.Proofs.Ytbghekolfcakeaa
open Go.RowKit

theorem zeroCells_size (z : Array Value) (n : Nat) : (Builtin.zeroCells z n).size = n * z.size := by simp [Builtin.zeroCells]
theorem grow_run (w : World) (n : Nat) (h0 : 0 < n) (hn : n ≤ 200000) : ∃ C, n ≤ C ∧ C ≤ maxLen ∧ ∃ cur : Array Value, cur.size = C * 5 ∧ ∀ ty, (Builtin.append_ #[22, 3] ty #[.slice none 0 0, .int .i64 n]).run Try.prog w = .ok (.slice (some ⟨w.heap.size, 0, none⟩) n C) (w.drew.alloc (.cells cur 27)) := by
  obtain ⟨i0, hi, hz0, hz1, hz2⟩ := info_parts info27
  refine ⟨grownCap w n 0 27, grownCap_ge w n 0 27, grownCap_le_maxLen w n 0 27 (by unfold maxLen; omega), _, ?_, fun ty => Lib.run_append_nil_zeros w 22 3 ty 27 i0 _ .i64 .i64 Try.underlying22 Try.underlying3 hi hz0 n h0 (by omega) (by omega) (by rw [hz2]; omega)⟩
  have := grownCap_ge w n 0 27
  rw [Array.size_append, zeroCells_size, zeroCells_size]
  show n * 5 + (grownCap w n 0 27 - n) * 5 = _
  omega

theorem append_run {w : World} {ops : Array Oper} {rest : List Oper} {o : Oper} {a : Act} {Q : Exit → Act → World → Prop} (hgd : o.guard = none) (s x : Operand)
    (ho : o.op = .call { callee := .builtin .append, args := #[s, x], argTypes := #[22, 3] }) (vs vx v' : Value) (w' : World) (hs : a.eval s = vs) (hx : a.eval x = vx) (hrun : ∀ ty, (Builtin.append_ #[22, 3] ty #[vs, vx]).run Try.prog w = .ok v' w')
    (h : wpList Try.prog ops Q rest (a.put o.dst v') w') : wpList Try.prog ops Q (o :: rest) a w := by
  refine wpList_plain hgd fun K hK => ?_
  unfold Oper.wp
  simp [execOp, ho, resolve, invoke, builtin, hs, hx, hrun, Result.andThen]
  exact hK _ _ h

set_option maxRecDepth 100000 in
set_option maxHeartbeats 600000 in
theorem grow_any (O : Nat → Prop) (n : Nat) (hn : n ≤ 200000) (w : World) : Calls Try.prog 72 #[.slice none 0 0, .int .i64 n] w (Left O w []) := by
  by_cases h0 : 0 < n
  · obtain ⟨C, hC, hM, cur, hcur, hrun⟩ := grow_run w n h0 hn
    have HE : Hid (OV O (w.drew.alloc (.cells cur 27)) w.heap.size (.slice (some ⟨w.heap.size, 0, none⟩) 0 C) []) := hide ⟨[], rfl, ⟨rfl, .inr ⟨w.heap.size, C, cur, rfl, Nat.le_refl _, heap_alloc_new w.drew (.cells cur 27), Nat.zero_le _, hM, hcur, rfl⟩⟩, fun _ h => by cases h⟩
    have HB : Hid (Below w.heap.size w (w.drew.alloc (.cells cur 27))) := hide ((below_drew (Below.refl _ _)).alloc (Nat.le_refl _) _)
    have h0z : (0 : Int) < (n : Int) := by omega
    have h1z : ¬ (n : Int) < 0 := by omega
    have hwn : IntKind.i64.wrap (n : Int) = (n : Int) := wrap_small (by omega) (by omega)
    have HRUN := hide hrun
    clear hcur hM hrun
    go_enter Try.func72, Try.ntmps72
    go_wp2_with (at_builtin; refine append_run (by rfl) _ _ (by rfl) _ _ _ _ (by rfl) (by rfl) (unhide HRUN) ?_)
    go_ret
    exact ⟨_, rfl, unhide HE, unhide HB⟩
  · obtain rfl : n = 0 := by omega
    go_enter Try.func72, Try.ntmps72
    go_wp2_with fail
    go_ret
    exact ⟨_, rfl, OV.nil _ _ _, Below.refl _ _⟩

set_option maxRecDepth 100000 in
set_option maxHeartbeats 1000000 in
theorem concat_any (O : Nat → Prop) (B : Nat) (ra rb : Option Addr) (ca cb : Nat) (a b : List Vc.V) (ha : a.length ≤ 1000) (hb : b.length ≤ 1000) (w : World) (hr : VRow w B 22 [.slice ra a.length ca, .slice rb b.length cb])
    (sa : SV w ra a) (pa : Prov O w ra a) (sb : SV w rb b) (pb : Prov O w rb b) : Calls Try.prog 54 #[.slice (some ⟨B, 0, none⟩) 2 2] w (Left O w (a ++ b)) := by
  have RR := hide hr
  have SA := hide sa
  have PA := hide pa
  have SB := hide sb
  have PB := hide pb
  have K := hide fun n hn W => grow_any O n hn W
  obtain ⟨na, hna⟩ : ∃ n, a.length = n := ⟨_, rfl⟩
  obtain ⟨nb, hnb⟩ : ∃ n, b.length = n := ⟨_, rfl⟩
  have HNA := hide hna
  have HNB := hide hnb
  rw [hna] at RR ha
  rw [hnb] at RR hb
  have x0 := (unhide RR).cell 0 _ rfl
  have x1 := (unhide RR).cell 1 _ rfl
  clear hr sa pa sb pb hna hnb
  go_enter Try.func54, Try.ntmps54
  go_wp2_with fail
  go_loopw [3, 11] (fun s i wr => ∃ k : Nat, k ≤ 2 ∧ i = .int .i64 k ∧ s = .int .i64 ((if k = 0 then 0 else if k = 1 then na else na + nb : Nat) : Nat) ∧ wr = w) (fun _ i _ => 2 - (intOf i).toNat)
  case atStart => exact ⟨0, by omega, rfl, rfl, rfl⟩
  case round =>
    obtain ⟨k, hk, rfl, rfl, rfl⟩ := hrel
    rcases (show k = 0 ∨ k = 1 ∨ k = 2 by omega) with rfl | rfl | rfl
    · have h1 : ¬ (na : Int) < 0 := by omega
      go_wp2_with fail
      go_roundw
      case rel => exact ⟨1, by omega, by go_num, by first | rfl | simp, by trivial⟩
      case measure => simp [intOf]
    · have h1 : ¬ (na : Int) + (nb : Int) < 0 := by omega
      have h2 : IntKind.i64.wrap ((na : Int) + (nb : Int)) = (na : Int) + (nb : Int) := wrap_small (by omega) (by omega)
      go_wp2_with fail
      go_roundw
      case rel => exact ⟨2, by omega, by go_num, by first | rfl | simp, by trivial⟩
      case measure => simp [intOf]
    · rw [show (if 2 = 0 then 0 else if 2 = 1 then na else na + nb) = na + nb from rfl]
      obtain ⟨nn, hnn⟩ : ∃ n, n = na + nb := ⟨_, rfl⟩
      rw [← hnn]
      have KG := hide (unhide K nn (by omega) wr)
      have HNN := hide hnn
      clear hnn
      go_wp2_with fail
      refine (unhide KG).mono ?_
      rintro e w1 ⟨l0, rfl, hov0, hb0⟩
      have HO0 := hide hov0
      have HB0 := hide hb0
      clear hov0 hb0 x0 x1
      go_wp2_with fail
      generalize wr = w at *
      go_loopw [6, 27] (fun l i wr => ∃ k : Nat, k ≤ 2 ∧ i = .int .i64 k ∧ OV O wr w.heap.size l (if k = 0 then [] else if k = 1 then a else a ++ b) ∧ Below w.heap.size w wr) (fun _ i _ => 2 - (intOf i).toNat)
      case atStart => exact ⟨0, by omega, rfl, unhide HO0, unhide HB0⟩
      case round =>
        obtain ⟨k, hk, rfl, hov, hbw⟩ := hrel
        have HO := hide hov
        have HBW := hide hbw
        have R2 := (unhide RR).after hbw
        have y0 := R2.cell 0 _ rfl
        have y1 := R2.cell 1 _ rfl
        have HSZ := hide hbw.size
        clear hbw R2
        rcases (show k = 0 ∨ k = 1 ∨ k = 2 by omega) with rfl | rfl | rfl
        · have HV : Hid (SVN O u6.ownBlock wr ra a) := hide ((unhide SA).apart (unhide PA) (fun g e => (hov.lt g e).1) (unhide HBW))
          clear hov
          go_wp2_with (at_builtin; refine append_sv (by rfl) _ _ (by rfl) w.heap.size _ [] (by rfl) (unhide HO) ra ca a (by rw [unhide HNA]; rfl) (unhide HV) (by rw [unhide HNA]; simp; omega) (unhide HSZ) ?_; intro v9 w9 hown9 hb9 _ _; have HO9 := hide hown9; have HB9 := hide ((unhide HBW).trans hb9); clear hown9 hb9 y0 y1)
          go_roundw
          case rel => exact ⟨1, by omega, by go_num, unhide HO9, unhide HB9⟩
          case measure => simp [intOf]
        · have HV : Hid (SVN O u6.ownBlock wr rb b) := hide ((unhide SB).apart (unhide PB) (fun g e => (hov.lt g e).1) (unhide HBW))
          clear hov
          go_wp2_with (at_builtin; refine append_sv (by rfl) _ _ (by rfl) w.heap.size _ a (by rfl) (unhide HO) rb cb b (by rw [unhide HNB]; rfl) (unhide HV) (by rw [unhide HNA, unhide HNB]; omega) (unhide HSZ) ?_; intro v9 w9 hown9 hb9 _ _; have HO9 := hide hown9; have HB9 := hide ((unhide HBW).trans hb9); clear hown9 hb9 y0 y1)
          go_roundw
          case rel => exact ⟨2, by omega, by go_num, unhide HO9, unhide HB9⟩
          case measure => simp [intOf]
        · clear hov y0 y1
          go_wp2_with fail
          go_ret
          exact ⟨u6, rfl, unhide HO, unhide HBW⟩
end Go.Proofs.Ytbghekolfcakeaa
