/-
  What crc.Open and the document's Open answer, for every string; nothing that lay in memory turns.
-/
import Derived.Test.YthecijjmgfempaaGreatZSeal
import Derived.Lib.Strings
namespace Go.Proofs.YthecijjmgfempaaGreat.Cr
open Go.RowKit

def Sealed (l : List UInt8) (n : Nat) : Prop := l.drop n = Crc.le 4 (Crc.sum (l.take n))

theorem sealed_eq (s : ByteArray) (n : Nat) (hq : Sealed s.data.toList n) : ((s.extract n s.size).toList == Crc.le 4 (Crc.sum (List.take n s.data.toList))) = true := by
  rw [Go.Lib.extract_toList, ← hq, List.take_of_length_le (by simp)]
  exact beq_self_eq_true _
theorem sealed_ne (s : ByteArray) (n : Nat) (hq : ¬ Sealed s.data.toList n) : ((s.extract n s.size).toList == Crc.le 4 (Crc.sum (List.take n s.data.toList))) = false := by
  rw [Go.Lib.extract_toList, List.take_of_length_le (by simp)]
  exact beq_eq_false_iff_ne.2 hq

theorem sealL_iff (l : List UInt8) (n : Nat) : Crc.sealL (l.take n) = l ↔ Sealed l n := by
  unfold Crc.sealL Sealed
  constructor
  · intro h
    have h2 : l.take n ++ Crc.le 4 (Crc.sum (l.take n)) = l.take n ++ l.drop n := by rw [h, List.take_append_drop]
    exact (List.append_cancel_left h2).symm
  · intro h
    rw [← h, List.take_append_drop]

set_option maxRecDepth 100000 in
set_option maxHeartbeats 400000 in
theorem Open_short (s : ByteArray) (hs : s.size < 4) (w : World) :
    Calls Tryz.prog 28 #[.string s] w fun e w' => e = .returned (.tuple #[.string ⟨#[]⟩, .bool false]) ∧ w' = w := by
  go_enter Tryz.func28, Tryz.ntmps28
  go_wp2
  go_ret2
  exact ⟨rfl, rfl⟩

set_option maxRecDepth 100000 in
set_option maxHeartbeats 400000 in
theorem Open_yes (s : ByteArray) (n : Nat) (hs : s.size ≤ 140737488351232) (hn : n + 4 = s.size) (hq : Sealed s.data.toList n) (w : World) :
    Calls Tryz.prog 28 #[.string s] w fun e w' => e = .returned (.tuple #[.string (s.extract 0 n), .bool true]) ∧ Below w.heap.size w w' := by
  have he : (s.size : Int) - 4 = (n : Int) := by omega
  have hn1 : n ≤ s.size := by omega
  have h4 : 4 ≤ s.size := by omega
  have hb := sealed_eq s n hq
  have HN := hide hn
  clear hn hq
  go_enter Tryz.func28, Tryz.ntmps28
  go_wp2_with fail
  refine wp_region_quiet_below (by kernel_rfl) (by kernel_rfl) ?_
  repeat (quiet_step (first | (go_at_call 45; exact Calls.regrown_of (Of_any _ (by unfold maxLen; simp; omega) _)) | (go_at_call 44; exact Calls.regrown_of (bytesOf_any _ (Crc.sum_lt _) _))))
  refine wpQuiet_nil ?_
  intro _ hw'
  obtain ⟨⟨dq, osq⟩, hw''⟩ := hw'
  subst hw''
  go_wp2_with fail
  go_ret2
  exact ⟨rfl, below_regrown w dq osq⟩

set_option maxRecDepth 100000 in
set_option maxHeartbeats 400000 in
theorem Open_no (s : ByteArray) (n : Nat) (hs : s.size ≤ 140737488351232) (hn : n + 4 = s.size) (hq : ¬ Sealed s.data.toList n) (w : World) :
    Calls Tryz.prog 28 #[.string s] w fun e w' => e = .returned (.tuple #[.string ⟨#[]⟩, .bool false]) ∧ Below w.heap.size w w' := by
  have he : (s.size : Int) - 4 = (n : Int) := by omega
  have hn1 : n ≤ s.size := by omega
  have h4 : 4 ≤ s.size := by omega
  have hb := sealed_ne s n hq
  have HN := hide hn
  clear hn hq
  go_enter Tryz.func28, Tryz.ntmps28
  go_wp2_with fail
  refine wp_region_quiet_below (by kernel_rfl) (by kernel_rfl) ?_
  repeat (quiet_step (first | (go_at_call 45; exact Calls.regrown_of (Of_any _ (by unfold maxLen; simp; omega) _)) | (go_at_call 44; exact Calls.regrown_of (bytesOf_any _ (Crc.sum_lt _) _))))
  refine wpQuiet_nil ?_
  intro _ hw'
  obtain ⟨⟨dq, osq⟩, hw''⟩ := hw'
  subst hw''
  go_wp2_with fail
  go_ret2
  exact ⟨rfl, below_regrown w dq osq⟩

set_option maxRecDepth 100000 in
set_option maxHeartbeats 400000 in
theorem refOpen_short (s : ByteArray) (hs : s.size < 4) (w : World) :
    Calls Tryz.prog 19 #[.string s] w fun e w' => e = .returned (.tuple #[.string ⟨#[]⟩, .bool false]) ∧ w' = w := by
  go_enter Tryz.func19, Tryz.ntmps19
  go_wp2_with fail
  go_ret2
  exact ⟨rfl, rfl⟩

theorem ext_data (s : ByteArray) (k : Nat) : (s.extract 0 k).data.toList = s.data.toList.take k := by simp

set_option maxRecDepth 100000 in
set_option maxHeartbeats 400000 in
theorem refOpen_yes (s : ByteArray) (n : Nat) (hs : s.size ≤ 140737488351232) (hn : n + 4 = s.size) (hq : Sealed s.data.toList n) (w : World) :
    Calls Tryz.prog 19 #[.string s] w fun e w' => e = .returned (.tuple #[.string (s.extract 0 n), .bool true]) ∧ Below w.heap.size w w' := by
  have he : (s.size : Int) - 4 = (n : Int) := by omega
  have hn1 : n ≤ s.size := by omega
  have h4 : 4 ≤ s.size := by omega
  have HQ := hide ((sealL_iff _ _).2 hq)
  have HN := hide hn
  clear hn hq
  go_enter Tryz.func19, Tryz.ntmps19
  go_wp2_with fail
  refine (refSeal_any _ (by simp; omega) _).mono ?_
  rintro e w1 ⟨rfl, hb1⟩
  rw [ext_data, unhide HQ]
  go_wp2_with fail
  go_ret2
  exact ⟨rfl, hb1⟩

set_option maxRecDepth 100000 in
set_option maxHeartbeats 400000 in
theorem refOpen_no (s : ByteArray) (n : Nat) (hs : s.size ≤ 140737488351232) (hn : n + 4 = s.size) (hq : ¬ Sealed s.data.toList n) (w : World) :
    Calls Tryz.prog 19 #[.string s] w fun e w' => e = .returned (.tuple #[.string ⟨#[]⟩, .bool false]) ∧ Below w.heap.size w w' := by
  have he : (s.size : Int) - 4 = (n : Int) := by omega
  have hn1 : n ≤ s.size := by omega
  have h4 : 4 ≤ s.size := by omega
  have hq1 : (Crc.sealL (List.take n s.data.toList) == s.toList) = false := by
    rw [Go.Lib.toList_data]; exact beq_eq_false_iff_ne.2 fun h => hq ((sealL_iff _ _).1 h)
  have HN := hide hn
  clear hn hq
  go_enter Tryz.func19, Tryz.ntmps19
  go_wp2_with fail
  refine (refSeal_any _ (by simp; omega) _).mono ?_
  rintro e w1 ⟨rfl, hb1⟩
  rw [ext_data]
  go_wp2_with fail
  go_ret2
  exact ⟨rfl, hb1⟩

end Go.Proofs.YthecijjmgfempaaGreat.Cr
