/-
  What the document's of, Join, Meet and With answer: the vector of the counts of all peers.
-/
import Derived.Test.YtbgpdiinkkgieaaJoin
namespace Go.Proofs.Ytbgpdiinkkgieaa
open Go.RowKit

/-- The counts of the first peers, as cells. -/
def cnt (f : Nat → Int) (n : Nat) : List Value := (List.range n).map fun i => .int .i64 (f i)
def zero64 : List Value := List.replicate 64 (.int .i64 0)
theorem size63 : (Try.prog.info? 63).map (·.size) = some 64 := by kernel_rfl
theorem cnt_len (f : Nat → Int) (n : Nat) : (cnt f n).length = n := by simp [cnt]
theorem cnt_get (f : Nat → Int) (n i : Nat) (h : i < n) : (cnt f n)[i]? = some (.int .i64 (f i)) := by simp [cnt, h]
theorem cnt_one (f : Nat → Int) (n : Nat) : ∀ v ∈ cnt f n, v.oneCell' = true := by
  intro v hv
  obtain ⟨_, _, rfl⟩ := List.mem_map.1 hv
  rfl
theorem zero_one : ∀ v ∈ zero64, v.oneCell' = true := by
  intro v hv
  rw [List.eq_of_mem_replicate hv]
  rfl
theorem mid_set {α : Type} (L S : List α) (k : Nat) (x : α) (hL : L[k]? = some x) (hS : k < S.length) : (L.take k ++ S.drop k).set k x = L.take (k + 1) ++ S.drop (k + 1) := by
  have hk := (List.getElem?_eq_some_iff.1 hL).1
  have e := (List.getElem?_eq_some_iff.1 hL).2
  rw [List.set_append_right _ _ (by simp; omega), List.take_succ_eq_append_getElem hk, List.length_take, Nat.min_eq_left (by omega), Nat.sub_self]
  rw [List.drop_eq_getElem_cons hS, List.set_cons_zero, List.append_assoc, List.singleton_append, e]
theorem mid_all {α : Type} (L S : List α) (k : Nat) (hL : L.length ≤ k) (hS : S.length ≤ k) : L.take k ++ S.drop k = L := by
  rw [List.take_of_length_le hL, List.drop_of_length_le hS, List.append_nil]

theorem grown_below {w w' : World} {base : Nat} {e : TypeId} {size : Nat} {v : Value} {n : Nat} {xs : List Value} (hown : w.ownsRow base e size v n xs) (hg : w.grownBy w' v.ownBlock) (hb : base ≤ w.heap.size) : Below base w w' :=
  ⟨hg.os, hg.tape, hg.output, hg.size, fun k hk => hg.block k (by omega) (by
    rcases hown.2 with ⟨rfl, _⟩ | ⟨g, cap, cur, rfl, hg', _⟩
    · simp [Value.ownBlock]
    · simp [Value.ownBlock]; omega)⟩

theorem ofN_pos (f : Nat → Int) (k : Nat) (x : Int) (hx : f k = x) (h : 0 < x) : Vc.ofN f (k + 1) = Vc.ofN f k ++ [((k : Int), x)] := by
  rw [Vc.ofN, hx, if_pos h]
theorem ofN_zero (f : Nat → Int) (k : Nat) (x : Int) (hx : f k = x) (h : ¬ 0 < x) : Vc.ofN f (k + 1) = Vc.ofN f k := by
  rw [Vc.ofN, hx, if_neg h, List.append_nil]

set_option maxRecDepth 100000 in
set_option maxHeartbeats 1000000 in
theorem of_fresh (f : Nat → Int) (n : Nat) (hn : n = 64) (w : World) :
    Calls Try.prog 37 #[.agg (cnt f n).toArray] w fun e w' => ∃ r cap, e = .returned (.slice r (Vc.ofN f n).length cap) ∧ (Vc.ofN f n).length ≤ cap ∧ Sl w' r (Vc.ofN f n) ∧ Below w.heap.size w w' ∧ Fresh w.heap.size r (Vc.ofN f n) := by
  obtain ⟨i0, hi, hz0, hz1, hz2⟩ := info_parts info24
  obtain ⟨vs, hvs⟩ : ∃ vs, cnt f n = vs := ⟨_, rfl⟩
  have HG : Hid (∀ i, i < 64 → vs[i]? = some (.int .i64 (f i))) := hide (by rw [← hvs, hn]; exact fun i hi => cnt_get f 64 i hi)
  have HN := hide hn
  rw [hvs]
  clear hvs hn
  go_enter Try.func37, Try.ntmps37
  go_wp2_with fail
  go_loopw [3, 4] (fun s i wr => ∃ k : Nat, k ≤ 64 ∧ i = .int .i64 k ∧ wr.ownsRow (w.heap.size + 1) 24 2 s (Vc.ofN f k).length (flat (Vc.ofN f k)) ∧ VRow wr w.heap.size 63 vs ∧ Below w.heap.size w wr) (fun _ i _ => 64 - (intOf i).toNat)
  case atStart => exact ⟨0, Nat.zero_le _, rfl, World.ownsRow_nil _ _ _ _, VRow.newAt rfl, (Below.refl _ _).alloc (Nat.le_refl _) _⟩
  case round =>
    obtain ⟨k, hk, rfl, hown, hrow, hb⟩ := hrel
    have HB := hide hb
    have HR := hide hrow
    by_cases hlt : k < 64
    · obtain ⟨x, hx⟩ : ∃ x, f k = x := ⟨_, rfl⟩
      have c0 : wr.cell? ⟨w.heap.size, k, none⟩ = some (.int .i64 x) := by rw [← hx]; exact hrow.cell k _ (unhide HG k hlt)
      have hlen := Vc.ofN_len f k
      by_cases hp : 0 < x
      · have HST := hide (ofN_pos f k x hx hp)
        obtain ⟨ds, hds⟩ : ∃ ds, Vc.ofN f k = ds := ⟨_, rfl⟩
        rw [hds] at HST hown hlen
        have hs1 : w.heap.size + 1 ≤ wr.heap.size := hrow.lt
        have HO := hide hown
        clear hds hx hb hrow hown
        go_wp2_with (at_builtin; refine wpList_append_own _ rfl _ _ 32 rfl (w.heap.size + 1) 24 i0 _ 2 16 Try.underlying32 hi hz0 hz1 hz2 rfl (by decide) _ _ _ rfl ((unhide HO).alloc _) ⟨wr.heap.size, 0, none⟩ 1 1 [.int .i64 k, .int .i64 x] rfl rfl (cell_two_new _ _ _ _) (by simp [Value.oneCell']) (by unfold maxLen; omega) (by omega) (by simp; omega) ?_; intro v' w2 hown' hgrow _; have HB2 := hide (grown_below ((unhide HO).alloc _) hgrow (by simp; omega)); have HO2 := hide hown'; clear hgrow hown')
        go_roundw
        case rel =>
          refine ⟨k + 1, by omega, by go_num, ?_, ((unhide HR).alloc _).below (unhide HB2) (by omega), ((unhide HB).alloc (by omega) _).trans ((unhide HB2).mono (by omega))⟩
          rw [unhide HST, List.length_append, flat_append]
          exact unhide HO2
        case measure => simp [intOf]; omega
      · have HST := hide (ofN_zero f k x hx hp)
        have HO := hide hown
        clear hx hb hrow hown
        go_wp2_with fail
        go_roundw
        case rel => exact ⟨k + 1, by omega, by go_num, by rw [unhide HST]; exact unhide HO, unhide HR, unhide HB⟩
        case measure => simp [intOf]; omega
    · obtain rfl : n = k := by have := unhide HN; omega
      obtain ⟨r, cap, rfl, hcap, hsl, hfr⟩ := own_slF rfl hown
      have HFR : Hid (Fresh w.heap.size r (Vc.ofN f n)) := hide (fun ad e h0 => Nat.le_of_succ_le (hfr ad e h0))
      have HSL := hide hsl
      have HCAP := hide hcap
      clear hsl hcap hown hb hrow hfr
      go_wp2_with fail
      go_ret
      exact ⟨r, cap, rfl, unhide HCAP, unhide HSL, unhide HB, unhide HFR⟩
end Go.Proofs.Ytbgpdiinkkgieaa
