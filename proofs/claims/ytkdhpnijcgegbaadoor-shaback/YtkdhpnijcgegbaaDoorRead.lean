/-
  What Unhex answers: the digest that signs say, or why they say none.
-/
import Derived.Test.YtkdhpnijcgegbaaDoorUnhex
namespace Go.Proofs.YtkdhpnijcgegbaaDoor
open Go.RowKit

theorem run_build24 (w : World) : (Instr.build 24 #[]).run Tryd.prog w = .ok (.agg (Sha.zeros.map byteVal).toArray) w := by kernel_rfl

theorem bad_at (s : List UInt8) (i : Nat) (h1 : i < 64) (h2 : i < s.length) (h : Sha.num (s.getD i 0) = none) : Sha.unhex s = (Sha.zeros, 7) := by
  unfold Sha.unhex
  rw [if_pos ((Sha.bad_iff s).2 ⟨i, h1, h2, h⟩)]
theorem good_all (s : List UInt8) (h : ∀ i, i < 64 → i < s.length → ∃ n, Sha.num (s.getD i 0) = some n) : Sha.bad s = false := by
  cases hb : Sha.bad s with
  | false => rfl
  | true =>
    obtain ⟨i, h1, h2, h3⟩ := (Sha.bad_iff s).1 hb
    obtain ⟨n, hn⟩ := h i h1 h2
    rw [h3] at hn
    cases hn

theorem list_size (s : ByteArray) : s.data.toList.length = s.size := rfl

/-- A result in a row and one in a slot. -/
theorem results_row_int {fn : Func} {p q : Tmp} {ty : TypeId} (h : fn.results = #[.cell p ty, .tmp q]) (tmps : Array Value) (w : World) (g : Nat) (T : TypeId) (vs : List Value) {v : Value}
    (hp : tmps.getD p undef = .pointer (some ⟨g, 0, none⟩)) (hq : tmps.getD q undef = v) (hr : VRow w g T vs) (n m : Nat) (e : TypeId) (hu : Tryd.prog.underlying ty = some (.array m e))
    (hi : (Tryd.prog.info? ty).map (·.size) = some n) (hn : vs.length = n) : (results fn tmps).run Tryd.prog w = .ok (.tuple #[.agg vs.toArray, v]) w := by
  rw [results_cell_tmp h, hp, hq]
  simp only [asAddr, Sem.run_pure, Result.andThen_ok, run_loadVar_row w g T ty vs.toArray (0, 0) _ hr hu rfl (by rw [hi]; simp [hn])]

theorem getD_data (s : ByteArray) (k : Nat) (h : k < s.size) : s.data.toList.getD k 0 = s[k] := by
  have h' : k < s.data.toList.length := h
  rw [List.getD, List.getElem?_eq_getElem h']
  rfl

set_option maxRecDepth 100000 in
set_option maxHeartbeats 1000000 in
theorem unhex_any (s : ByteArray) (hs : s.size ≤ maxLen) (U : List UInt8) (E : Nat) (hU : Sha.unhex s.data.toList = (U, E)) (w : World) :
    Calls Tryd.prog 15 #[.string s] w fun e w' => e = .returned (.tuple #[.agg (U.map byteVal).toArray, .int .i64 (E : Int)]) ∧ Below w.heap.size w w' := by
  unfold maxLen at hs
  have hbd := run_build24
  have hUl : U.length = 32 := by have := Sha.unhex_len s.data.toList; rwa [hU] at this
  have HU := hide hU
  obtain ⟨N, hN⟩ : ∃ N, N = min s.size 64 := ⟨_, rfl⟩
  have hN1 : N ≤ s.size := by omega
  have hN2 : N ≤ 64 := by omega
  have hmin : ∀ w : World, (Builtin.min_ #[3, 3] 3 #[.int .i64 (s.size : Int), .int .i64 64]).run Tryd.prog w = .ok (.int .i64 (N : Int)) w := by
    intro w
    have e : (N : Int) = min (s.size : Int) 64 := by omega
    rw [e]
    simp [Builtin.min_, Builtin.min2]
    omega
  have HN := hide hN
  clear hU hN
  go_enter Tryd.func15, Tryd.ntmps15
  go_wp2_with fail
  clear hmin
  go_loopw [11] (fun i wr => ∃ k : Nat, k ≤ N ∧ i = .int .i64 k ∧ (∀ j, j < k → ∃ n, Sha.num (s.data.toList.getD j 0) = some n) ∧ VRow wr w.heap.size 24 (Sha.zeros.map byteVal) ∧ VRow wr (w.heap.size + 1) 24 ((Sha.part s.data.toList k).map byteVal) ∧ Below w.heap.size w wr) (fun i _ => N - (intOf i).toNat)
  case atStart => exact ⟨0, Nat.zero_le _, rfl, fun j hj => absurd hj (Nat.not_lt_zero _), (VRow.new w 24 (Sha.zeros.map byteVal)).alloc _, by rw [Sha.part_zero]; exact VRow.newAt (by simp), ((Below.refl _ _).alloc (Nat.le_refl _) _).alloc (by simp) _⟩
  case round =>
    obtain ⟨k, hk, rfl, hall, hz, hrow, hbl⟩ := hrel
    have HZ := hide hz
    have HR := hide hrow
    have HB := hide hbl
    have HA := hide hall
    clear hz hbl hall
    by_cases hlt : k < N
    · have hks : k < s.size := by omega
      have hg := getD_data s k hks
      cases hnum : Sha.num (s.data.toList.getD k 0) with
      | none =>
        have h7 := bad_at s.data.toList k (by omega) hks hnum
        rw [unhide HU] at h7
        simp only [Prod.mk.injEq] at h7
        obtain ⟨rfl, rfl⟩ := h7
        rw [hg] at hnum
        have HC := hide (numberOf_none s[k] hnum)
        clear hrow hnum hg
        go_wp2_with (first
          | (go_at_call 25; refine (unhide HC _).mono ?_; rintro e w1 ⟨rfl, rfl⟩)
          | (refine store_row (by rfl) 24 _ _ (by rfl) w.heap.size (Sha.zeros.map byteVal) (by rfl) (by rfl) 24 (Sha.zeros.map byteVal) (unhide HZ) 32 size24 rfl rfl (one_bytes _) ?_; intro w6 ho6 hr6; have HO6 := hide ho6; have HR6 := hide hr6; clear ho6 hr6))
        refine bodyPost_ret (v := .tuple #[.agg (Sha.zeros.map byteVal).toArray, .int .i64 7]) ?_ rfl ⟨rfl, ?_⟩
        · exact results_row_int rfl _ _ w.heap.size 24 _ rfl rfl (unhide HR6) 32 32 5 Tryd.underlying24 size24 rfl
        · exact (unhide HB).trans ((unhide HO6).below (Nat.le_refl _))
      | some n =>
        obtain ⟨x, hx⟩ : ∃ x, (Sha.part s.data.toList k)[k / 2]? = some x := ⟨_, List.getElem?_eq_getElem (by rw [Sha.part_len]; omega)⟩
        have HN := hide (Sha.part_set s.data.toList k n hnum x hx)
        have hn16 := Sha.num_lt _ _ hnum
        have hxl := x.toNat_lt
        have HA2 : Hid (∀ j, j < k + 1 → ∃ n, Sha.num (s.data.toList.getD j 0) = some n) := hide fun j hj => by
          by_cases e : j = k
          · subst e; exact ⟨n, hnum⟩
          · exact unhide HA j (by omega)
        have c0 : wr.cell? ⟨w.heap.size + 1, k / 2, none⟩ = some (.int .u8 (x.toNat : Int)) := hrow.cell (k / 2) _ (by rw [List.getElem?_map, hx]; rfl)
        have f0 := hrow.frozen (k / 2)
        have HV : Hid ((x.toNat : Int) * 16 % 256 + (n : Int) = ((UInt8.ofNat ((x.toNat * 16 + n) % 256)).toNat : Int)) := by
          rw [u8_of _ (Nat.mod_lt _ (by decide))]
          exact hide (by omega)
        rw [hg] at hnum
        have HC := hide (numberOf_some s[k] n hnum)
        generalize UInt8.ofNat ((x.toNat * 16 + n) % 256) = y at HN HV
        clear hrow hnum hg hx
        go_wp2_with (first
          | (go_at_call 25; refine (unhide HC _).mono ?_; rintro e w1 ⟨rfl, rfl⟩))
        go_roundw
        case rel =>
          rw [unhide HV]
          refine ⟨k + 1, by omega, by go_num, unhide HA2, (unhide HZ).setOther _ (by simp) _, ?_, (unhide HB).setCell (p := ⟨w.heap.size + 1, k / 2, none⟩) (by simp) _⟩
          rw [← unhide HN]
          exact (unhide HR).setByte _ y
        case measure => simp [intOf]; omega
    · obtain rfl : k = N := by omega
      have hgood : Sha.bad s.data.toList = false := good_all _ fun i h1 h2 => unhide HA i (by have := unhide HN; rw [list_size] at h2; omega)
      have hUE := unhide HU
      unfold Sha.unhex at hUE
      rw [hgood, list_size] at hUE
      simp only [Bool.false_eq_true, if_false] at hUE
      by_cases h5 : s.size < 64
      · rw [if_pos h5] at hUE
        simp only [Prod.mk.injEq] at hUE
        obtain ⟨rfl, rfl⟩ := hUE
        clear hrow hgood
        go_wp2_with (first
          | (refine store_row (by rfl) 24 _ _ (by rfl) w.heap.size (Sha.zeros.map byteVal) (by rfl) (by rfl) 24 (Sha.zeros.map byteVal) (unhide HZ) 32 size24 rfl rfl (one_bytes _) ?_; intro w6 ho6 hr6; have HO6 := hide ho6; have HR6 := hide hr6; clear ho6 hr6))
        refine bodyPost_ret (v := .tuple #[.agg (Sha.zeros.map byteVal).toArray, .int .i64 5]) ?_ rfl ⟨rfl, ?_⟩
        · exact results_row_int rfl _ _ w.heap.size 24 _ rfl rfl (unhide HR6) 32 32 5 Tryd.underlying24 size24 rfl
        · exact (unhide HB).trans ((unhide HO6).below (Nat.le_refl _))
      · rw [if_neg h5] at hUE
        by_cases h6 : 64 < s.size
        · rw [if_pos h6] at hUE
          simp only [Prod.mk.injEq] at hUE
          obtain ⟨rfl, rfl⟩ := hUE
          clear hrow hgood
          go_wp2_with (first
            | (refine store_row (by rfl) 24 _ _ (by rfl) w.heap.size (Sha.zeros.map byteVal) (by rfl) (by rfl) 24 (Sha.zeros.map byteVal) (unhide HZ) 32 size24 rfl rfl (one_bytes _) ?_; intro w6 ho6 hr6; have HO6 := hide ho6; have HR6 := hide hr6; clear ho6 hr6))
          refine bodyPost_ret (v := .tuple #[.agg (Sha.zeros.map byteVal).toArray, .int .i64 6]) ?_ rfl ⟨rfl, ?_⟩
          · exact results_row_int rfl _ _ w.heap.size 24 _ rfl rfl (unhide HR6) 32 32 5 Tryd.underlying24 size24 rfl
          · exact (unhide HB).trans ((unhide HO6).below (Nat.le_refl _))
        · rw [if_neg h6] at hUE
          simp only [Prod.mk.injEq] at hUE
          obtain ⟨hUE, rfl⟩ := hUE
          have h64 : k = 64 := by have := unhide HN; omega
          rw [h64, hUE] at HR
          clear hrow hgood hUE
          go_wp2_with (first
            | (refine load_row (by rfl) 24 _ (by rfl) (w.heap.size + 1) (by rfl) 24 (U.map byteVal) (unhide HR) 32 32 5 Tryd.underlying24 size24 (by rw [List.length_map]; exact hUl) ?_)
            | (refine store_row (by rfl) 24 _ _ (by rfl) w.heap.size (U.map byteVal) (by rfl) (by rfl) 24 (Sha.zeros.map byteVal) (unhide HZ) 32 size24 (by rw [List.length_map]; exact hUl) rfl (one_bytes _) ?_; intro w6 ho6 hr6; have HO6 := hide ho6; have HR6 := hide hr6; clear ho6 hr6))
          refine bodyPost_ret (v := .tuple #[.agg (U.map byteVal).toArray, .int .i64 0]) ?_ rfl ⟨rfl, ?_⟩
          · exact results_row_int rfl _ _ w.heap.size 24 _ rfl rfl (unhide HR6) 32 32 5 Tryd.underlying24 size24 (by rw [List.length_map]; exact hUl)
          · exact (unhide HB).trans ((unhide HO6).below (Nat.le_refl _))
end Go.Proofs.YtkdhpnijcgegbaaDoor
