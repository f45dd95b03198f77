/-
  What ending answers: what stands behind a text of that length.
-/
import Derived.Test.YtkdhpnijcgegbaaDoorDig
import Derived.Deep.OwnRows
import Derived.Lib.ConvBytes
namespace Go.Proofs.YtkdhpnijcgegbaaDoor
open Go.RowKit

theorem info5 : (Tryd.prog.info? 5).map (fun i => (i.zero, i.size, i.bytes)) = some (some (.int .u8 0), 1, 1) := by kernel_rfl

theorem made_zeros (n : Nat) : madeCells #[.int .u8 0] n = ((List.replicate n (0 : UInt8)).map byteVal).toArray := by
  apply Array.ext
  · simp [madeCells]
  · intro i h1 h2
    simp [madeCells, byteVal, Nat.mod_one]

theorem VRow.made (W : World) (n : Nat) : VRow (W.alloc (.cells (madeCells #[.int .u8 0] n) 5)) W.heap.size 5 ((List.replicate n (0 : UInt8)).map byteVal) := by
  refine (heap_alloc_new W _).trans ?_
  rw [made_zeros]

theorem made_set (N : Nat) (h : 1 ≤ N) : (madeCells #[.int .u8 0] N).setIfInBounds 0 (.int .u8 128) = ((128 :: List.replicate (N - 1) 0 : List UInt8).map byteVal).toArray := by
  rw [made_zeros]
  obtain ⟨M, rfl⟩ : ∃ M, N = M + 1 := ⟨N - 1, by omega⟩
  simp [List.replicate_succ, byteVal]
theorem made_zero (N : Nat) (h : 1 ≤ N) : (madeCells #[.int .u8 0] N)[0]? = some (.int .u8 0) := by
  rw [made_zeros]
  obtain ⟨M, rfl⟩ : ∃ M, N = M + 1 := ⟨N - 1, by omega⟩
  simp [List.replicate_succ, byteVal]

theorem VRow.text {W : World} {B T : Nat} {bs : List UInt8} (h : VRow W B T (bs.map byteVal)) (cap : Nat) :
    (convert 44 9 (.slice (some ⟨B, 0, none⟩) bs.length cap)).run Tryd.prog W = .ok (.string ⟨bs.toArray⟩) W := by
  refine run_convert_bytes_back W 44 9 5 ⟨B, 0, none⟩ cap bs Tryd.underlying44 Tryd.underlying5 Tryd.underlying9 fun j hj => ?_
  have e3 : (⟨B, 0, none⟩ : Addr).add j = ⟨B, j, none⟩ := by simp [Addr.add]; exact fun h => h.symm
  rw [e3]
  exact h.byte j hj

theorem back_set {α : Type} (S L : List α) (N k : Nat) (hS : S.length = N) (hL : L.length = N) (hk : k < N) (x : α) (hx : L[N - 1 - k]? = some x) :
    (S.take (N - k) ++ L.drop (N - k)).set (N - 1 - k) x = S.take (N - (k + 1)) ++ L.drop (N - (k + 1)) := by
  have h1 : N - k = (N - 1 - k) + 1 := by omega
  have h2 : N - (k + 1) = N - 1 - k := by omega
  obtain ⟨hlt, rfl⟩ := List.getElem?_eq_some_iff.1 hx
  rw [h2, h1, List.take_succ_eq_append_getElem (show N - 1 - k < S.length by omega), List.append_assoc, List.set_append_right _ _ (by simp; omega)]
  rw [List.length_take, Nat.min_eq_left (by omega), Nat.sub_self, List.singleton_append, List.set_cons_zero, ← List.drop_eq_getElem_cons hlt]

def endStart (N : Nat) : List UInt8 := 128 :: List.replicate (N - 1) 0

theorem end_last (n N : Nat) (hN : N = (119 - n % 64) % 64 + 9) : (endStart N).take (N - 8) ++ (Sha.pad n).drop (N - 8) = Sha.pad n := by
  have hq : N - 8 = (119 - n % 64) % 64 + 1 := by omega
  have hl : (119 - n % 64) % 64 ≤ N - 1 := by omega
  rw [hq, endStart, Sha.pad, List.take_succ_cons, List.drop_succ_cons, List.take_replicate, Nat.min_eq_left hl, List.drop_left' (by simp), List.cons_append]

theorem pad_at (n N k : Nat) (hN : N = (119 - n % 64) % 64 + 9) (hk : k < 8) : (Sha.pad n)[N - 1 - k]? = some (UInt8.ofNat (n * 8 / 2 ^ (8 * k) % 256)) := by
  have h1 : N - 1 - k = ((119 - n % 64) % 64 + (7 - k)) + 1 := by omega
  rw [h1, Sha.pad, List.getElem?_cons_succ, List.getElem?_append_right (by simp), List.length_replicate]
  have h2 : (119 - n % 64) % 64 + (7 - k) - (119 - n % 64) % 64 = 7 - k := by omega
  have h3 : 56 - 8 * (7 - k) = 8 * k := by omega
  have h4 : 7 - k < 8 := by omega
  rw [h2, Sha.be8, List.getElem?_map, List.getElem?_range h4, Option.map_some, h3]

set_option maxRecDepth 100000 in
set_option maxHeartbeats 1000000 in
theorem ending_any (n : Nat) (hn : n < 1152921504606846976) (w : World) :
    Calls Tryd.prog 22 #[.int .u64 (n : Int)] w fun e w' => e = .returned (.string ⟨(Sha.pad n).toArray⟩) ∧ Below w.heap.size w w' := by
  obtain ⟨N, hN⟩ : ∃ N, (119 - n % 64) % 64 + 9 = N := ⟨_, rfl⟩
  have hN1 : 9 ≤ N := by omega
  have hN2 : N ≤ 72 := by omega
  have eN : 1 + (119 - (n : Int)) % 64 + 8 = (N : Int) := by omega
  have hmk := run_make_row' (P := Tryd.prog) 44 5 (.int .u8 0) 1 Tryd.underlying44 info5 rfl .u64 .u64 N (by omega) (by omega)
  have hpl : (Sha.pad n).length = N := by rw [Sha.pad_len]; exact hN
  have HN := hide hN.symm
  generalize hP : Sha.pad n = PD at hpl
  have HP := hide hP
  clear hN hP
  have hm0 := made_zero N (by omega)
  go_enter Tryd.func22, Tryd.ntmps22
  go_wp2_with fail
  clear hmk hm0 eN
  have HR0 : Hid (VRow (w.alloc (.cells ((madeCells #[.int .u8 0] N).setIfInBounds 0 (.int .u8 128)) 5)) w.heap.size 5 ((endStart N).map byteVal)) := by
    rw [made_set N (by omega)]
    exact hide (VRow.new w 5 _)
  have hsl : (endStart N).length = N := by simp [endStart]; omega
  go_loopw [19] (fun i wr => ∃ k : Nat, k ≤ 8 ∧ i = .int .i64 k ∧ VRow wr w.heap.size 5 (((endStart N).take (N - k) ++ PD.drop (N - k)).map byteVal) ∧ Below w.heap.size w wr) (fun i _ => 8 - (intOf i).toNat)
  case atStart =>
    refine ⟨0, Nat.zero_le _, rfl, ?_, (Below.refl _ _).alloc (Nat.le_refl _) _⟩
    rw [Nat.sub_zero, List.take_of_length_le (by omega), List.drop_of_length_le (by omega), List.append_nil]
    exact unhide HR0
  case round =>
    clear HR0
    obtain ⟨k, hk, rfl, hrow, hbl⟩ := hrel
    have HR := hide hrow
    have HB := hide hbl
    by_cases hlt : k < 8
    · have hp : PD[N - 1 - k]? = some (UInt8.ofNat (n * 8 / 2 ^ (8 * k) % 256)) := by rw [← unhide HP]; exact pad_at n N k (unhide HN) hlt
      have HS := hide (back_set (endStart N) PD N k hsl hpl (by omega) _ hp)
      have HA : Hid ((n : Int) * 8 / 2 ^ (8 * k) % 256 = ((UInt8.ofNat (n * 8 / 2 ^ (8 * k) % 256)).toNat : Int)) := by
        rw [u8_of _ (Nat.mod_lt _ (by decide))]
        exact hide (by simp)
      generalize UInt8.ofNat (n * 8 / 2 ^ (8 * k) % 256) = y at HS HA
      obtain ⟨v0, c0⟩ : ∃ v, wr.cell? ⟨w.heap.size, N - 1 - k, none⟩ = some v := ⟨_, hrow.byte (N - 1 - k) (by simp [hsl, hpl]; omega)⟩
      have f0 := hrow.frozen (N - 1 - k)
      clear hrow hbl hp
      go_wp2_with fail
      go_roundw
      case rel =>
        rw [unhide HA]
        refine ⟨k + 1, by omega, by go_num, ?_, (unhide HB).setCell (p := ⟨w.heap.size, N - 1 - k, none⟩) (Nat.le_refl _) _⟩
        rw [← unhide HS]
        exact (unhide HR).setByte _ y
      case measure => simp [intOf]; omega
    · obtain rfl : k = 8 := by omega
      have hrow' : VRow wr w.heap.size 5 (PD.map byteVal) := by
        rw [← unhide HP, end_last n N (unhide HN), unhide HP] at hrow
        exact hrow
      have hcv : (convert 44 9 (.slice (some ⟨w.heap.size, 0, none⟩) N N)).run Tryd.prog wr = .ok (.string ⟨PD.toArray⟩) wr := by
        have h := hrow'.text N
        rwa [hpl] at h
      clear hrow hbl HR hrow'
      go_wp2_with fail
      go_ret
      exact ⟨rfl, unhide HB⟩
end Go.Proofs.YtkdhpnijcgegbaaDoor
