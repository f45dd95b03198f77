/-
  Plain facts: what is sealed is opened, and what is opened is what is sealed.
-/
import Derived.Test.YthecijjmgfempaaGreatMathC
import Derived.Test.YthecijjmgfempaaGreatF0
import Derived.Test.YthecijjmgfempaaGreatS1
import Derived.Test.YthecijjmgfempaaGreatZMath
namespace Go.Proofs.YthecijjmgfempaaGreat
open Go.RowKit

theorem encT_len (l : List UInt8) : (encT l).length ≤ 5 + l.length := by
  have h := putL_bound (l.length : Int)
  unfold encT
  rw [List.length_append]
  omega
theorem encVec_len {ds : List Vc.D} (h : Vc.check ds = 0) : (encVec ds).length ≤ 645 := by
  have h1 := wVec_len ([], 0) ds
  rw [wVec_enc [] h] at h1
  simpa using h1
theorem encRows_len {l : List (List Vc.D)} (hn : l.length ≤ 64) (h : ∀ d ∈ l, Vc.check d = 0) : (encRows l).length ≤ 5 + 645 * l.length := by
  have h1 := wRows_len ([], 0) l
  rw [wRows_ok [] hn h] at h1
  simpa using h1
theorem flagB_len (b : Bool) : (flagB b).length = 1 := by cases b <;> rfl
theorem encM_len {m : Msg} (h : checkM m = 0) (hr : m.root.length = 32) : (encM m).length ≤ 70000 := by
  obtain ⟨h1, h2, h3, h4, h5, h6, h7⟩ := checkM_zero h
  have hrs := (rowsErr_zero m.rows).1 h6
  have hp := path_small h3
  have a1 := putL_bound m.kind
  have a2 := putL_bound m.frm
  have a3 := putL_bound m.dst
  have a4 := putL_bound m.sid
  have b1 := encVec_len h4
  have b2 := encRows_len h5 hrs
  have b3 := encT_len m.path.data.toList
  have b4 := encT_len m.text.data.toList
  have b5 := flagB_len m.turn
  rw [size_data] at b3 b4
  have ho : (encOwn m).length ≤ 69000 := by
    unfold encOwn
    split
    · simp only [List.length_append]; omega
    · split
      · simp only [List.length_append]; omega
      · split
        · simp only [List.length_append]; omega
        · split
          · omega
          · exact Nat.zero_le _
  unfold encM
  simp only [List.length_append]
  omega
theorem sealL_len (p : List UInt8) : (Cr.Crc.sealL p).length = p.length + 4 := by
  unfold Cr.Crc.sealL
  rw [List.length_append, Cr.Crc.le_len]
theorem right_seal (p : List UInt8) : Right (Cr.Crc.sealL p) ∧ (Cr.Crc.sealL p).take ((Cr.Crc.sealL p).length - 4) = p := by
  have e : (Cr.Crc.sealL p).take ((Cr.Crc.sealL p).length - 4) = p := by
    rw [sealL_len, Nat.add_sub_cancel]
    unfold Cr.Crc.sealL
    rw [List.take_left]
  refine ⟨⟨by rw [sealL_len]; omega, ?_⟩, e⟩
  rw [e, sealL_len, Nat.add_sub_cancel]
  unfold Cr.Crc.sealL
  rw [List.drop_left]
theorem seal_right {l : List UInt8} (h : Right l) : Cr.Crc.sealL (l.take (l.length - 4)) = l := by
  unfold Cr.Crc.sealL
  rw [← h.2, List.take_append_drop]
theorem text_backF {b : List UInt8} (h : b.length ≤ 131072) : rText (Cnt.putL b.length ++ b, 0) 131072 = (b, ([], 0)) := by
  have e := back_number (n := (b.length : Int)) (by omega) (by omega) 131072 (by omega) b
  unfold rText
  rw [e]
  rw [if_neg (by simp), if_neg (by simp)]
  simp
theorem openF_sealed {b : List UInt8} (h : b.length ≤ 131000) : openF (Cr.Crc.sealL (putF b)) = readM (b, 0) := by
  have h1 := putL_bound (b.length : Int)
  have hl : (putF b).length ≤ 131060 := by
    unfold putF
    simp only [List.length_append, List.length_cons, List.length_nil]
    omega
  unfold openF
  rw [if_neg (by rw [sealL_len]; omega)]
  unfold fr1
  rw [if_pos (right_seal _).1, (right_seal _).2]
  unfold fr2
  rw [if_neg (by unfold putF; simp)]
  have e3 : putF b = 104 :: 115 :: 1 :: (Cnt.putL b.length ++ b) := rfl
  rw [e3]
  unfold fr3
  rw [if_pos (by rfl)]
  show fr4 (1 :: (Cnt.putL b.length ++ b)) = _
  unfold fr4
  rw [if_pos (by rfl)]
  show fr5 (Cnt.putL b.length ++ b) = _
  unfold fr5 textF
  rw [text_backF (by omega)]
  rfl
theorem open_seal {m : Msg} (h : checkM m = 0) (hr : m.root.length = 32) : openF (sealF m).1 = (m, 0) := by
  have e := bytesM_ok h
  have hb := read_back h hr
  have hl := encM_len h hr
  unfold sealF
  rw [e] at hb ⊢
  rw [if_neg (by simp)]
  dsimp only at hb ⊢
  rw [openF_sealed (by omega)]
  exact hb
theorem sealF_err (m : Msg) : (sealF m).2 = checkM m := by
  have h := bytesM_err m
  unfold sealF
  split
  · exact h
  · rename_i h9
    rw [← h, Classical.not_not.1 h9]
theorem sealF_len {m : Msg} (h : checkM m = 0) (hr : m.root.length = 32) : 12 ≤ (sealF m).1.length ∧ (sealF m).1.length ≤ 131072 := by
  have e := bytesM_ok h
  have hl := encM_len h hr
  have h1 := putL_bound ((encM m).length : Int)
  have h2 := (Cnt.putL_mono ((encM m).length : Int) ((encM m).length : Int) (by omega) (by omega) (by omega)).2
  obtain ⟨hz, _⟩ := checkM_zero h
  obtain ⟨k1, k2, k3, k4, k5, k6, _, k7, k8⟩ := headM_zero hz
  have c1 := (Cnt.putL_mono m.kind m.kind (by omega) (by omega) (by omega)).2
  have c2 := (Cnt.putL_mono m.frm m.frm (by omega) (by omega) (by omega)).2
  have c3 := (Cnt.putL_mono m.dst m.dst (by omega) (by omega) (by omega)).2
  have c4 := (Cnt.putL_mono m.sid m.sid (by omega) (by omega) (by omega)).2
  have h4 : 4 ≤ (encM m).length := by
    unfold encM
    simp only [List.length_append]
    omega
  unfold sealF
  rw [e, if_neg (by simp)]
  dsimp only
  rw [sealL_len]
  unfold putF
  simp only [List.length_append, List.length_cons, List.length_nil]
  omega
/-- A frame that was turned within four bytes is no frame. -/
theorem bent_seen {p bs : List UInt8} {f m : Nat} (hp : p.length ≤ 131068) (hf : f ≤ p.length) (hm : m < 4294967296) (hm0 : m ≠ 0) (h : Cr.Crc.Turned (Cr.Crc.sealL p) f m 4 bs) : openF bs = (zeroM, 9) := by
  have hs := Cr.Crc.turned_seen p f m bs hf hm hm0 h
  have hl : bs.length = p.length + 4 := by rw [h.1, sealL_len]
  unfold openF
  rw [if_neg (by omega)]
  unfold fr1
  rw [if_neg]
  intro hr
  have h2 := hr.2
  rw [hl, Nat.add_sub_cancel] at h2
  exact hs h2
theorem seal_open {l : List UInt8} (h : (openF l).2 = 0) : sealF (openF l).1 = (l, 0) := by
  unfold openF at h ⊢
  split at h
  · exact absurd h (by simp)
  · rename_i h1
    rw [if_neg h1]
    unfold fr1 at h ⊢
    split at h
    · rename_i h2
      rw [if_pos h2]
      have hs := seal_right h2
      generalize l.take (l.length - 4) = t at h hs ⊢
      unfold fr2 at h ⊢
      split at h
      · exact absurd h (by simp)
      · rename_i h3
        rw [if_neg h3]
        unfold fr3 at h ⊢
        split at h
        · rename_i h4
          rw [if_pos h4]
          unfold fr4 at h ⊢
          split at h
          · rename_i h5
            rw [if_pos h5]
            unfold fr5 at h ⊢
            split at h
            · rename_i h6
              exact absurd h h6
            · rename_i h6
              rw [if_neg h6]
              have h7 := rDone_zero (Classical.not_not.1 h6)
              obtain ⟨_, h8⟩ := rText_one h7.1
              rw [h7.2, List.append_nil] at h8
              have h9 := read_one h
              have ht : t = putF (textF ((t.drop 2).drop 1)).1 := by
                obtain ⟨u, hu⟩ := List.isPrefixOf_iff_prefix.1 h4
                subst hu
                obtain ⟨v, hv⟩ := List.isPrefixOf_iff_prefix.1 h5
                have hv' : [1] ++ v = u := hv
                subst hv'
                show _ = [104, 115, 1] ++ encT (textF v).1
                have h8' : v = encT (textF v).1 := h8
                rw [← h8']
                rfl
              unfold sealF
              rw [h9, if_neg (by simp)]
              dsimp only
              rw [← ht, hs]
          · exact absurd h (by simp)
        · exact absurd h (by simp)
    · exact absurd h (by simp)
end Go.Proofs.YthecijjmgfempaaGreat
