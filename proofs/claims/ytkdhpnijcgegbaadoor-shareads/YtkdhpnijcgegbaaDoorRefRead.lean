/-
  What the document's Unhex answers: the digest that signs say, or why they say none.
-/
import Derived.Test.YtkdhpnijcgegbaaDoorRead
import Derived.BigQuiet
namespace Go.Proofs.YtkdhpnijcgegbaaDoor
open Go.RowKit

theorem below_drewN' {B : Nat} {a w : World} (h : Below B a w) (q : Nat) : Below B a (w.drewN q) := ⟨h.os, h.tape, h.output, h.size, h.block⟩

def seek (c : UInt8) (k : Nat) : Int := match Sha.num c with
  | some n => if n < k then (n : Int) else -1
  | none => -1

theorem seek_hit (c : UInt8) (k : Nat) (hk : k < 16) (h : Sha.sign k = c) : seek c (k + 1) = (k : Int) := by
  have hn : Sha.num c = some k := by rw [← h]; exact Sha.num_sign k hk
  unfold seek
  rw [hn]
  simp
theorem seek_miss (c : UInt8) (k : Nat) (h : Sha.sign k ≠ c) : seek c (k + 1) = seek c k := by
  unfold seek
  cases hn : Sha.num c with
  | none => rfl
  | some n =>
    have hne : n ≠ k := fun e => h (e ▸ Sha.sign_num c n hn)
    simp only
    by_cases h1 : n < k
    · rw [if_pos h1, if_pos (by omega)]
    · rw [if_neg h1, if_neg (by omega)]
theorem seek_some (c : UInt8) (n : Nat) (h : Sha.num c = some n) : seek c 16 = (n : Int) := by
  have := Sha.num_lt c n h
  unfold seek
  rw [h]
  simp [this]
theorem seek_none (c : UInt8) (h : Sha.num c = none) : seek c 16 = -1 := by unfold seek; rw [h]
theorem seek_zero (c : UInt8) : seek c 0 = -1 := by
  unfold seek
  cases Sha.num c <;> simp

theorem run_sign64 (n : Nat) (h : n < 16) (w : World) :
    (Instr.index 9 (.string ⟨#[48, 49, 50, 51, 52, 53, 54, 55, 56, 57, 97, 98, 99, 100, 101, 102]⟩) (.int .i64 (n : Int))).run Tryd.prog w = .ok (.int .u8 ((Sha.sign n).toNat : Int)) w := by
  have : n = 0 ∨ n = 1 ∨ n = 2 ∨ n = 3 ∨ n = 4 ∨ n = 5 ∨ n = 6 ∨ n = 7 ∨ n = 8 ∨ n = 9 ∨ n = 10 ∨ n = 11 ∨ n = 12 ∨ n = 13 ∨ n = 14 ∨ n = 15 := by omega
  rcases this with rfl | rfl | rfl | rfl | rfl | rfl | rfl | rfl | rfl | rfl | rfl | rfl | rfl | rfl | rfl | rfl <;> rfl

set_option maxRecDepth 100000 in
set_option maxHeartbeats 1000000 in
theorem refUnhex_any (s : ByteArray) (hs : s.size ≤ maxLen) (U : List UInt8) (E : Nat) (hU : Sha.unhex s.data.toList = (U, E)) (w : World) :
    Calls Tryd.prog 16 #[.string s] w fun e w' => e = .returned (.tuple #[.agg (U.map byteVal).toArray, .int .i64 (E : Int)]) ∧ Below w.heap.size w w' := by
  unfold maxLen at hs
  have hbd := run_build24
  have hUl : U.length = 32 := by have := Sha.unhex_len s.data.toList; rwa [hU] at this
  have HU := hide hU
  clear hU
  go_enter Tryd.func16, Tryd.ntmps16
  go_wp2_with (first
    | (refine store_row (by rfl) 24 _ _ (by rfl) (w.heap.size + 1) (Sha.zeros.map byteVal) (by rfl) (by rfl) 24 (Sha.zeros.map byteVal) (VRow.newAt (by simp)) 32 size24 rfl rfl (one_bytes _) ?_; intro w1 ho1 hr1; have HO1 := hide ho1; have HR1 := hide hr1; clear ho1 hr1))
  have HZ1 := hide (((VRow.new w 24 (Sha.zeros.map byteVal)).alloc _).only (unhide HO1) (by omega))
  have HB1 := hide ((((Below.refl w.heap.size w).alloc (Nat.le_refl _) _).alloc (by simp) _).trans ((unhide HO1).below (by omega)))
  clear HO1
  go_loopw [5] (fun i wr => ∃ k : Nat, k ≤ s.size ∧ k ≤ 64 ∧ i = .int .i64 k ∧ (∀ j, j < k → ∃ n, Sha.num (s.data.toList.getD j 0) = some n) ∧ VRow wr w.heap.size 24 (Sha.zeros.map byteVal) ∧ VRow wr (w.heap.size + 1) 24 ((Sha.part s.data.toList k).map byteVal) ∧ Below w.heap.size w wr) (fun i _ => 64 - (intOf i).toNat)
  case atStart => exact ⟨0, Nat.zero_le _, Nat.zero_le _, rfl, fun j hj => absurd hj (Nat.not_lt_zero _), unhide HZ1, by rw [Sha.part_zero]; exact unhide HR1, unhide HB1⟩
  case round =>
    clear HZ1 HB1 HR1
    obtain ⟨k, hk, hk64, rfl, hall, hz, hrow, hbl⟩ := hrel
    have HZ := hide hz
    have HR := hide hrow
    have HB := hide hbl
    have HA := hide hall
    clear hz hbl hall hrow
    by_cases hks : k < s.size
    · by_cases hk6 : k < 64
      · have HGD := hide (getD_data s k hks)
        obtain ⟨c, hc⟩ : ∃ c, s[k] = c := ⟨_, rfl⟩
        rw [hc] at HGD
        go_wp2_with fail
        go_loopw [6, 7] (fun v i wq => ∃ j q : Nat, j ≤ 16 ∧ i = .int .i64 j ∧ v = .int .i64 (seek c j) ∧ wq = wr.drewN q) (fun _ i _ => 16 - (intOf i).toNat)
        case atStart => exact ⟨0, 0, Nat.zero_le _, rfl, by rw [seek_zero], rfl⟩
        case round =>
          obtain ⟨j, q, hj, rfl, rfl, rfl⟩ := hrel
          by_cases hj16 : j < 16
          · have hsg := run_sign64 j hj16
            by_cases he : Sha.sign j = c
            · have HK := hide (seek_hit c j hj16 he)
              have heq : (((Sha.sign j).toNat : Int) == (c.toNat : Int)) = true := by rw [he]; simp
              clear he
              go_wp2_with fail
              go_quiet (fail)
              go_wp2_with fail
              go_roundw
              case rel => exact ⟨j + 1, q + nq, by omega, by go_num, by rw [unhide HK], by first | rfl | rw [World.drewN_drewN]⟩
              case measure => simp [intOf]; omega
            · have HK := hide (seek_miss c j he)
              have heq : (((Sha.sign j).toNat : Int) == (c.toNat : Int)) = false := by
                cases h : (((Sha.sign j).toNat : Int) == (c.toNat : Int)) with
                | false => rfl
                | true =>
                  rw [beq_iff_eq] at h
                  exact absurd (UInt8.toNat_inj.1 (by omega)) he
              clear he
              go_wp2_with fail
              go_quiet (fail)
              go_wp2_with fail
              go_roundw
              case rel => exact ⟨j + 1, q + nq, by omega, by go_num, by rw [unhide HK], by first | rfl | rw [World.drewN_drewN]⟩
              case measure => simp [intOf]; omega
          · obtain rfl : j = 16 := by omega
            cases hnum : Sha.num c with
            | none =>
              have h7 := bad_at s.data.toList k hk6 hks (by rw [unhide HGD]; exact hnum)
              rw [unhide HU] at h7
              simp only [Prod.mk.injEq] at h7
              obtain ⟨rfl, rfl⟩ := h7
              rw [seek_none c hnum]
              clear hnum
              have HZ2 := hide ((unhide HZ).drewN q)
              go_wp2_with (first
                | (refine store_row (by rfl) 24 _ _ (by rfl) w.heap.size (Sha.zeros.map byteVal) (by rfl) (by rfl) 24 (Sha.zeros.map byteVal) (unhide HZ2) 32 size24 rfl rfl (one_bytes _) ?_; intro w6 ho6 hr6; have HO6 := hide ho6; have HR6 := hide hr6; clear ho6 hr6))
              refine bodyPost_ret (v := .tuple #[.agg (Sha.zeros.map byteVal).toArray, .int .i64 7]) ?_ rfl ⟨rfl, ?_⟩
              · exact results_row_int rfl _ _ w.heap.size 24 _ rfl rfl (unhide HR6) 32 32 5 Tryd.underlying24 size24 rfl
              · exact (below_drewN' (unhide HB) q).trans ((unhide HO6).below (Nat.le_refl _))
            | some n =>
              rw [seek_some c n hnum]
              obtain ⟨x, hx⟩ : ∃ x, (Sha.part s.data.toList k)[k / 2]? = some x := ⟨_, List.getElem?_eq_getElem (by rw [Sha.part_len]; omega)⟩
              have HN := hide (Sha.part_set s.data.toList k n (by rw [unhide HGD]; exact hnum) x hx)
              have hn16 := Sha.num_lt _ _ hnum
              have hxl := x.toNat_lt
              have HA2 : Hid (∀ j, j < k + 1 → ∃ n, Sha.num (s.data.toList.getD j 0) = some n) := hide fun j hj => by
                by_cases e : j = k
                · subst e; exact ⟨n, by rw [unhide HGD]; exact hnum⟩
                · exact unhide HA j (by omega)
              have c0 : wr.cell? ⟨w.heap.size + 1, k / 2, none⟩ = some (.int .u8 (x.toNat : Int)) := (unhide HR).cell (k / 2) _ (by rw [List.getElem?_map, hx]; rfl)
              have f0 := (unhide HR).frozen (k / 2)
              have HV : Hid ((x.toNat : Int) * 16 % 256 + (n : Int) = ((UInt8.ofNat ((x.toNat * 16 + n) % 256)).toNat : Int)) := by
                rw [u8_of _ (Nat.mod_lt _ (by decide))]
                exact hide (by omega)
              generalize UInt8.ofNat ((x.toNat * 16 + n) % 256) = y at HN HV
              clear hnum hx
              go_wp2_with fail
              go_roundw
              case rel =>
                rw [unhide HV]
                refine ⟨k + 1, by omega, by omega, by go_num, unhide HA2, ((unhide HZ).drewN q).setOther _ (by simp) _, ?_, (below_drewN' (unhide HB) q).setCell (p := ⟨w.heap.size + 1, k / 2, none⟩) (by simp) _⟩
                rw [← unhide HN]
                exact ((unhide HR).drewN q).setByte _ y
              case measure => simp [intOf]; omega
      · obtain rfl : k = 64 := by omega
        have hgood : Sha.bad s.data.toList = false := good_all _ fun i h1 h2 => unhide HA i h1
        have hUE := unhide HU
        unfold Sha.unhex at hUE
        rw [hgood, list_size] at hUE
        simp only [Bool.false_eq_true, if_false] at hUE
        rw [if_neg (by omega), if_pos hks] at hUE
        simp only [Prod.mk.injEq] at hUE
        obtain ⟨rfl, rfl⟩ := hUE
        clear hgood
        go_wp2_with (first
          | (refine store_row (by rfl) 24 _ _ (by rfl) w.heap.size (Sha.zeros.map byteVal) (by rfl) (by rfl) 24 (Sha.zeros.map byteVal) (unhide HZ) 32 size24 rfl rfl (one_bytes _) ?_; intro w6 ho6 hr6; have HO6 := hide ho6; have HR6 := hide hr6; clear ho6 hr6))
        refine bodyPost_ret (v := .tuple #[.agg (Sha.zeros.map byteVal).toArray, .int .i64 6]) ?_ rfl ⟨rfl, ?_⟩
        · exact results_row_int rfl _ _ w.heap.size 24 _ rfl rfl (unhide HR6) 32 32 5 Tryd.underlying24 size24 rfl
        · exact (unhide HB).trans ((unhide HO6).below (Nat.le_refl _))
    · obtain rfl : k = s.size := by omega
      have hgood : Sha.bad s.data.toList = false := good_all _ fun i h1 h2 => unhide HA i h2
      have hUE := unhide HU
      unfold Sha.unhex at hUE
      rw [hgood, list_size] at hUE
      simp only [Bool.false_eq_true, if_false] at hUE
      by_cases h5 : s.size < 64
      · rw [if_pos h5] at hUE
        simp only [Prod.mk.injEq] at hUE
        obtain ⟨rfl, rfl⟩ := hUE
        clear hgood
        go_wp2_with (first
          | (refine store_row (by rfl) 24 _ _ (by rfl) w.heap.size (Sha.zeros.map byteVal) (by rfl) (by rfl) 24 (Sha.zeros.map byteVal) (unhide HZ) 32 size24 rfl rfl (one_bytes _) ?_; intro w6 ho6 hr6; have HO6 := hide ho6; have HR6 := hide hr6; clear ho6 hr6))
        refine bodyPost_ret (v := .tuple #[.agg (Sha.zeros.map byteVal).toArray, .int .i64 5]) ?_ rfl ⟨rfl, ?_⟩
        · exact results_row_int rfl _ _ w.heap.size 24 _ rfl rfl (unhide HR6) 32 32 5 Tryd.underlying24 size24 rfl
        · exact (unhide HB).trans ((unhide HO6).below (Nat.le_refl _))
      · have h64 : s.size = 64 := by omega
        rw [if_neg h5, if_neg (by omega)] at hUE
        simp only [Prod.mk.injEq] at hUE
        obtain ⟨hUE, rfl⟩ := hUE
        have HR2 : Hid (VRow wr (w.heap.size + 1) 24 (U.map byteVal)) := by
          have := unhide HR
          rw [h64, hUE] at this
          exact hide this
        clear hgood hUE
        go_wp2_with (first
          | (refine load_row (by rfl) 24 _ (by rfl) (w.heap.size + 1) (by rfl) 24 (U.map byteVal) (unhide HR2) 32 32 5 Tryd.underlying24 size24 (by rw [List.length_map]; exact hUl) ?_)
          | (refine store_row (by rfl) 24 _ _ (by rfl) w.heap.size (U.map byteVal) (by rfl) (by rfl) 24 (Sha.zeros.map byteVal) (unhide HZ) 32 size24 (by rw [List.length_map]; exact hUl) rfl (one_bytes _) ?_; intro w6 ho6 hr6; have HO6 := hide ho6; have HR6 := hide hr6; clear ho6 hr6))
        refine bodyPost_ret (v := .tuple #[.agg (U.map byteVal).toArray, .int .i64 0]) ?_ rfl ⟨rfl, ?_⟩
        · exact results_row_int rfl _ _ w.heap.size 24 _ rfl rfl (unhide HR6) 32 32 5 Tryd.underlying24 size24 (by rw [List.length_map]; exact hUl)
        · exact (unhide HB).trans ((unhide HO6).below (Nat.le_refl _))
end Go.Proofs.YtkdhpnijcgegbaaDoor
