/-
  What crc.bytesOf, crc.Seal, crc.Open and the document's Seal and Open answer, for every string; nothing that lay in memory turns.
-/
import Derived.Test.YthecijjmgfempaaZOf
import Derived.Lib.QuietBelow
namespace Go.Proofs.Ythecijjmgfempaa.Cr
open Go.RowKit

theorem le4 (v : Nat) : Crc.le 4 v = [UInt8.ofNat (v % 256), UInt8.ofNat (v / 256 % 256), UInt8.ofNat (v / 256 / 256 % 256), UInt8.ofNat (v / 256 / 256 / 256 % 256)] := rfl

theorem u8_of (n : Nat) (h : n < 256) : (UInt8.ofNat n).toNat = n := by rw [UInt8.toNat_ofNat']; exact Nat.mod_eq_of_lt h

theorem run_four (v : Nat) (hv : v < 4294967296) (w : World) :
    (convert 36 9 (.slice (some ⟨w.heap.size, 0, none⟩) 4 4)).run Try.prog (w.alloc (.cells #[.int .u8 ((v : Int) % 256), .int .u8 ((v : Int) / 256 % 256), .int .u8 ((v : Int) / 65536 % 256), .int .u8 ((v : Int) / 16777216)] 5))
      = .ok (.string ⟨(Crc.le 4 v).toArray⟩) (w.alloc (.cells #[.int .u8 ((v : Int) % 256), .int .u8 ((v : Int) / 256 % 256), .int .u8 ((v : Int) / 65536 % 256), .int .u8 ((v : Int) / 16777216)] 5)) := by
  refine run_convert_bytes_back _ 36 9 5 ⟨w.heap.size, 0, none⟩ 4 (Crc.le 4 v) Try.underlying36 Try.underlying5 Try.underlying9 fun j hj => ?_
  have hj4 : j < 4 := hj
  have e0 := u8_of (v % 256) (by omega)
  have e1 := u8_of (v / 256 % 256) (by omega)
  have e2 := u8_of (v / 256 / 256 % 256) (by omega)
  have e3 := u8_of (v / 256 / 256 / 256 % 256) (by omega)
  rcases j with _ | _ | _ | _ | j
  · simp [Addr.add, le4, e0]
  · simp [Addr.add, le4, e1]
  · simp [Addr.add, le4, e2]; omega
  · simp [Addr.add, le4, e3]; omega
  · omega

set_option maxRecDepth 100000 in
set_option maxHeartbeats 400000 in
theorem bytesOf_any (v : Nat) (hv : v < 4294967296) (w : World) :
    Calls Try.prog 17 #[.int .u32 (v : Int)] w fun e w' => e = .returned (.string ⟨(Crc.le 4 v).toArray⟩) ∧ Below w.heap.size w w' := by
  have hcv := run_four v hv
  go_enter Try.func17, Try.ntmps17
  go_wp2
  go_ret
  exact ⟨rfl, (Below.refl _ _).alloc (Nat.le_refl _) _⟩

theorem cat_seal (s : ByteArray) (h : ByteArray) (l m : List UInt8) (hs : s.data.toList = l) (hm : h = ⟨m.toArray⟩) : s ++ h = ⟨(l ++ m).toArray⟩ := by
  subst hm hs
  apply ByteArray.ext
  apply Array.toList_inj.1
  simp [ByteArray.data_append]

theorem le4_size (v : Nat) : (ByteArray.mk (Crc.le 4 v).toArray).size = 4 := by simp [ByteArray.size, Crc.le_len]

theorem ret_seal {s : ByteArray} {v : Nat} (h : Crc.sum s.data.toList = v) : Ending.returned (.string (s ++ ⟨(Crc.le 4 v).toArray⟩)) = .returned (.string ⟨(Crc.sealL s.data.toList).toArray⟩) := by
  rw [cat_seal s _ s.data.toList (Crc.le 4 v) rfl rfl, ← h]; rfl

set_option maxRecDepth 100000 in
set_option maxHeartbeats 400000 in
theorem refSeal_any (s : ByteArray) (hs : s.size ≤ 140737488351232) (w : World) :
    Calls Try.prog 12 #[.string s] w fun e w' => e = .returned (.string ⟨(Crc.sealL s.data.toList).toArray⟩) ∧ Below w.heap.size w w' := by
  have hv := Crc.sum_lt s.data.toList
  go_enter Try.func12, Try.ntmps12
  go_wp2_with fail
  refine (refOf_any s _ (by unfold maxLen; omega)).mono ?_
  rintro e w1 ⟨rfl, rfl⟩
  obtain ⟨v, hV⟩ : ∃ v, Crc.sum s.data.toList = v := ⟨_, rfl⟩
  rw [hV] at hv ⊢
  have HV := hide hV
  clear hV
  have hcv := run_four v hv
  have hcat : ¬ (s.size + ByteArray.size ⟨(Crc.le 4 v).toArray⟩ > 9223372036854775807) := by rw [le4_size]; omega
  go_wp2
  go_ret
  exact ⟨ret_seal (unhide HV), (Below.refl _ _).alloc (Nat.le_refl _) _⟩

set_option maxRecDepth 100000 in
set_option maxHeartbeats 400000 in
theorem Seal_any (s : ByteArray) (hs : s.size ≤ 140737488351232) (w : World) :
    Calls Try.prog 9 #[.string s] w fun e w' => e = .returned (.string ⟨(Crc.sealL s.data.toList).toArray⟩) ∧ Below w.heap.size w w' := by
  have hv := Crc.sum_lt s.data.toList
  obtain ⟨v, hV⟩ : ∃ v, Crc.sum s.data.toList = v := ⟨_, rfl⟩
  rw [hV] at hv
  have HV := hide hV
  clear hV
  have hcat : ¬ (s.size + ByteArray.size ⟨(Crc.le 4 v).toArray⟩ > 9223372036854775807) := by rw [le4_size]; omega
  go_enter Try.func9, Try.ntmps9
  go_wp2_with fail
  refine (Of_any s (by unfold maxLen; omega) _).mono ?_
  rintro e w1 ⟨rfl, hb1⟩
  rw [unhide HV]
  go_wp2_with fail
  refine (bytesOf_any v hv _).mono ?_
  rintro e w2 ⟨rfl, hb2⟩
  go_wp2
  go_ret
  exact ⟨ret_seal (unhide HV), hb1.trans (hb2.mono hb1.size)⟩
end Go.Proofs.Ythecijjmgfempaa.Cr
