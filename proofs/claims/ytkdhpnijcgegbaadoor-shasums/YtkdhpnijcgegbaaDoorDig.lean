/-
  What digestOf answers: the words' bytes.
-/
import Derived.Test.YtkdhpnijcgegbaaDoorWords
namespace Go.Proofs.YtkdhpnijcgegbaaDoor
open Go.RowKit

theorem u8_of (n : Nat) (h : n < 256) : (UInt8.ofNat n).toNat = n := by rw [UInt8.toNat_ofNat']; exact Nat.mod_eq_of_lt h

set_option maxRecDepth 100000 in
set_option maxHeartbeats 1000000 in
theorem digestOf_any (ws : List Nat) (hw : Sha.Ok 8 ws) (w : World) :
    Calls Tryd.prog 23 #[.agg (ws.map u).toArray] w fun e w' => e = .returned (.agg ((Sha.digest ws).map byteVal).toArray) ∧ Below w.heap.size w w' := by
  obtain ⟨vs, hvs⟩ : ∃ vs, ws.map u = vs := ⟨_, rfl⟩
  rw [hvs]
  have HV := hide hvs
  clear hvs
  go_enter Tryd.func23, Tryd.ntmps23
  go_wp2_with fail
  go_loopw [5] (fun i wr => ∃ k : Nat, k ≤ 32 ∧ i = .int .i64 k ∧ VRow wr w.heap.size 30 vs ∧ VRow wr (w.heap.size + 1) 24 (Sha.zeros.map byteVal) ∧ VRow wr (w.heap.size + 2) 24 (((Sha.digest ws).take k ++ Sha.zeros.drop k).map byteVal) ∧ Below w.heap.size w wr) (fun i _ => 32 - (intOf i).toNat)
  case atStart => exact ⟨0, Nat.zero_le _, rfl, ((VRow.newAt rfl).alloc _).alloc _, VRow.alloc (VRow.newAt (by simp)) _, VRow.newAt (by simp), (((Below.refl _ _).alloc (Nat.le_refl _) _).alloc (by simp) _).alloc (by simp; omega) _⟩
  case round =>
    obtain ⟨k, hk, rfl, hws, hz, hrow, hbl⟩ := hrel
    have HW := hide hws
    have HR := hide hrow
    have HZ := hide hz
    have HB := hide hbl
    by_cases hlt : k < 32
    · obtain ⟨x, hx⟩ : ∃ x, ws[k / 4]? = some x := ⟨_, List.getElem?_eq_getElem (by rw [hw.1]; omega)⟩
      have c1 : wr.cell? ⟨w.heap.size, k / 4, none⟩ = some (.int .u32 (x : Int)) := hws.cell (k / 4) _ (by rw [← unhide HV]; simp [hx, u])
      have c2 : ∃ v, wr.cell? ⟨w.heap.size + 2, k, none⟩ = some v := ⟨_, hrow.byte k (by simp [Sha.digest_len, Sha.zeros]; omega)⟩
      obtain ⟨v0, c2⟩ := c2
      have f2 := hrow.frozen k
      have hx4 : x < 4294967296 := hw.2 x (List.mem_of_getElem? hx)
      obtain ⟨y, hy⟩ : ∃ y, UInt8.ofNat (x / 2 ^ (24 - 8 * (k % 4)) % 256) = y := ⟨_, rfl⟩
      have HA : Hid ((x : Int) / 2 ^ (24 - 8 * (k % 4)) % 256 = (y.toNat : Int)) := by
        rw [← hy, u8_of _ (Nat.mod_lt _ (by decide))]
        exact hide (by simp)
      have HN : Hid (((Sha.digest ws).take k ++ Sha.zeros.drop k).set k y = (Sha.digest ws).take (k + 1) ++ Sha.zeros.drop (k + 1)) := by
        have hl : k < (Sha.digest ws).length := by rw [Sha.digest_len]; exact hlt
        have e : (Sha.digest ws)[k] = y := by simp [Sha.digest, hx, ← hy]
        rw [← e]
        exact hide (Sha.mid_set _ _ k hl (by simpa [Sha.zeros] using hlt))
      clear hws hz hrow hbl hx hy
      go_wp2_with fail
      go_roundw
      case rel =>
        rw [unhide HA]
        refine ⟨k + 1, by omega, by go_num, (unhide HW).setOther _ (by simp; omega) _, (unhide HZ).setOther _ (by simp) _, ?_, (unhide HB).setCell (p := ⟨w.heap.size + 2, k, none⟩) (by simp) _⟩
        rw [← unhide HN]
        exact (unhide HR).setByte k y
      case measure => simp [intOf]; omega
    · obtain rfl : k = 32 := by omega
      rw [Sha.mid_all _ _ 32 (by rw [Sha.digest_len]; exact Nat.le_refl _) (by simp [Sha.zeros])] at HR
      clear hws hz hrow hbl
      go_wp2_with (first
        | (refine load_row (by rfl) 24 _ (by rfl) (w.heap.size + 2) (by rfl) 24 _ (unhide HR) 32 32 5 Tryd.underlying24 size24 (by simp [Sha.digest_len]) ?_)
        | (refine store_row (by rfl) 24 _ _ (by rfl) (w.heap.size + 1) _ (by rfl) (by rfl) 24 (Sha.zeros.map byteVal) (unhide HZ) 32 size24 (by simp [Sha.digest_len]) rfl (one_bytes _) ?_; intro w2 ho2 hr2; have HO2 := hide ho2; have HR2 := hide hr2; clear ho2 hr2))
      refine bodyPost_ret (v := .agg ((Sha.digest ws).map byteVal).toArray) ?_ rfl ⟨rfl, ?_⟩
      · exact results_cell_row rfl _ _ (w.heap.size + 1) 24 _ (0, 0) _ rfl (unhide HR2) Tryd.underlying24 rfl (by rw [size24]; simp [Sha.digest_len])
      · exact (unhide HB).trans ((unhide HO2).below (by omega))
end Go.Proofs.YtkdhpnijcgegbaaDoor
