/-
  A message's frame: the program's Seal; the chapter's example.
-/
import Derived.Test.YthecijjmgfempaaN3
import Derived.Test.YthecijjmgfempaaZSeal
namespace Go.Proofs.Ythecijjmgfempaa
open Go.RowKit

/-- What is sealed: the head, how many bytes, the bytes. -/
def putF (b : List UInt8) : List UInt8 := [104, 115, 1] ++ (Cnt.putL b.length ++ b)
/-- A message's frame, or why it has none. -/
def sealF (m : Msg) : List UInt8 × Int := if (bytesM m).2 ≠ 0 then ([], (bytesM m).2) else (Cr.Crc.sealL (putF (bytesM m).1), 0)
theorem cat_putF (b : List UInt8) : ((ByteArray.mk #[104, 115, 1] ++ ByteArray.mk (Cnt.putL (b.length : Int)).toArray) ++ str b).data.toList = putF b := by
  simp [putF, str, ByteArray.data_append]

set_option maxRecDepth 100000 in
set_option maxHeartbeats 1000000 in
theorem seal_any (m : Msg) (a b : Option Addr) (c d : Nat) (w : World) (hf : FewM m) (hn : (bytesM m).1.length ≤ 1000000) (s1 : Sl w a m.ctx) (s2 : RL w b m.rows) :
    Calls Try.prog 6 #[.agg (mL m a c b d).toArray] w fun e w' => e = .returned (.tuple #[.string (str (sealF m).1), .int .i64 (sealF m).2]) ∧ Below w.heap.size w w' := by
  have HR := hide (VRow.new w 27 (mL m a c b d))
  have HB := hide (below_alloc' (w := w) (.cells (mL m a c b d).toArray 27))
  have HL := hide (mL_len hf.root a c b d)
  have KB := hide (bytes_any m a b c d _ hf (s1.after (unhide HB)) (s2.after (unhide HB)))
  unfold sealF
  generalize bytesM m = X at KB hn ⊢
  obtain ⟨l, E⟩ := X
  dsimp only at KB hn ⊢
  clear hf s1 s2
  by_cases hE : E = 0
  · subst hE
    rw [if_neg (by simp)]
    have hz := str_size l
    have hp : (ByteArray.mk (Cnt.putL (l.length : Int)).toArray).size ≤ 5 := by
      have h := Cnt.putL_len (l.length : Int)
      rw [ByteArray.size_mk', List.size_toArray]
      exact h
    have hp3 : (ByteArray.mk #[104, 115, 1]).size = 3 := rfl
    have KS := hide fun W => Cr.Seal_any ((ByteArray.mk #[104, 115, 1] ++ ByteArray.mk (Cnt.putL (l.length : Int)).toArray) ++ str l) (by rw [ByteArray.size_append, ByteArray.size_append]; omega) W
    rw [cat_putF] at KS
    have hcat : ¬ ((ByteArray.mk #[104, 115, 1] ++ ByteArray.mk (Cnt.putL (l.length : Int)).toArray).size + (str l).size > 9223372036854775807) := by rw [ByteArray.size_append]; omega
    have hlen : ((str l).size : Int) = (l.length : Int) := by rw [hz]
    go_enter Try.func6, Try.ntmps6
    go_wp2_with ((with_reducible refine at27 ?_); (refine load_msg (by rfl) (.tmp 1) (by rfl) w.heap.size (by rfl) _ (unhide HR) (unhide HL) ?_))
    refine (unhide KB).mono ?_
    rintro e w1 ⟨rfl, hb⟩
    have HB1 := hide (below_grow (unhide HB) (Nat.le_refl _) hb)
    clear hb
    go_wp2_with fail
    refine (Put_any (l.length : Int) w1).mono ?_
    rintro e w2 ⟨rfl, hb⟩
    have HB2 := hide (below_grow (unhide HB1) (Nat.le_refl _) hb)
    clear hb
    go_wp2_with fail
    refine (KS _).mono ?_
    rintro e w3 ⟨rfl, hb⟩
    have HB3 := hide (below_grow (unhide HB2) (Nat.le_refl _) hb)
    clear hb
    go_wp2_with fail
    go_ret2
    exact ⟨rfl, unhide HB3⟩
  · have hne : (E != 0) = true := bne_iff_ne.2 hE
    rw [if_pos hE]
    go_enter Try.func6, Try.ntmps6
    go_wp2_with ((with_reducible refine at27 ?_); (refine load_msg (by rfl) (.tmp 1) (by rfl) w.heap.size (by rfl) _ (unhide HR) (unhide HL) ?_))
    refine (unhide KB).mono ?_
    rintro e w1 ⟨rfl, hb⟩
    have HB1 := hide (below_grow (unhide HB) (Nat.le_refl _) hb)
    clear hb
    go_wp2_with fail
    go_ret2
    exact ⟨rfl, unhide HB1⟩

theorem exM_frame : sealF exM = (Cr.Crc.sealL [104, 115, 1, 4, 1, 1, 2, 3], 0) := by
  unfold sealF
  rw [exM_bytes]
  rfl
set_option maxRecDepth 100000 in
set_option maxHeartbeats 1000000 in
theorem awake_any (w : World) : Calls Try.prog 5 #[] w fun e w' => e = .returned (.bool true) ∧ Below w.heap.size w w' := by
  have KB : Hid (Calls Try.prog 6 #[.agg #[.int .i64 1, .int .i64 1, .int .i64 2, .int .i64 3, .bool false, .string ⟨#[]⟩, .int .u8 0, .int .u8 0, .int .u8 0, .int .u8 0, .int .u8 0, .int .u8 0, .int .u8 0, .int .u8 0, .int .u8 0, .int .u8 0, .int .u8 0, .int .u8 0, .int .u8 0, .int .u8 0, .int .u8 0, .int .u8 0, .int .u8 0, .int .u8 0, .int .u8 0, .int .u8 0, .int .u8 0, .int .u8 0, .int .u8 0, .int .u8 0, .int .u8 0, .int .u8 0, .int .u8 0, .int .u8 0, .int .u8 0, .int .u8 0, .int .u8 0, .int .u8 0, .slice none 0 0, .slice none 0 0, .string ⟨#[]⟩]] w fun e w' => e = .returned (.tuple #[.string (str (Cr.Crc.sealL [104, 115, 1, 4, 1, 1, 2, 3])), .int .i64 0]) ∧ Below w.heap.size w w') := hide (by
    have h := seal_any exM none none 0 0 w (zero_few 1 1 2 3) (by rw [exM_bytes]; decide) (Sl.none _ _) (RL.none _ _)
    rw [exM_frame] at h
    exact h)
  obtain ⟨S, hS⟩ : ∃ S, str (Cr.Crc.sealL [104, 115, 1, 4, 1, 1, 2, 3]) = S := ⟨_, rfl⟩
  have hz : S.size = 12 := by
    rw [← hS, str_size]
    unfold Cr.Crc.sealL
    rw [List.length_append, Cr.Crc.le_len]
    rfl
  have he : ((S.extract 0 8).toList == [104, 115, 1, 4, 1, 1, 2, 3]) = true := by
    rw [Lib.toList_data, ← hS]
    simp [str, Cr.Crc.sealL]
  rw [hS] at KB
  clear hS
  go_enter Try.func5, Try.ntmps5
  go_wp2_with fail
  refine (unhide KB).mono ?_
  rintro e w1 ⟨rfl, hb⟩
  have HB := hide hb
  clear hb
  go_wp2_with fail
  go_ret
  exact ⟨rfl, unhide HB⟩
end Go.Proofs.Ythecijjmgfempaa
