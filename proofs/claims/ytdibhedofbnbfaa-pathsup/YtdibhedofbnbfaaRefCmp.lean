/-
  What the document's Compare answers.
-/
import Derived.Test.YtdibhedofbnbfaaPieces
namespace Go.Proofs.Ytdibhedofbnbfaa
open Go.RowKit

theorem bytesLess_cmp : ∀ a b : List UInt8, Op.bytesLess a b = decide (Pt.cmpB a b = -1)
  | [], [] => by decide
  | [], _ :: _ => by simp [Op.bytesLess, Pt.cmpB, Pt.lexC]
  | _ :: _, [] => by simp [Op.bytesLess, Pt.cmpB, Pt.lexC]
  | a :: l, b :: m => by
    have ih := bytesLess_cmp l m
    have e : Pt.cmpB (a :: l) (b :: m) = if Pt.cmp8 a b = 0 then Pt.cmpB l m else Pt.cmp8 a b := rfl
    rw [e]
    unfold Op.bytesLess
    unfold Pt.cmp8
    by_cases h : a < b
    · simp [h]
    · by_cases h' : b < a
      · simp [h, h']
        intro e
        subst e
        exact absurd h' h
      · have : a = b := by
          apply UInt8.toNat_inj.1
          rw [UInt8.lt_iff_toNat_lt] at h h'
          omega
        subst this
        simp [ih]

theorem same_cmpB (a b : ByteArray) : (a.toList == b.toList) = decide (Pt.cmpB a.data.toList b.data.toList = 0) := by
  rw [Lib.toList_data, Lib.toList_data, Bool.eq_iff_iff, beq_iff_eq, decide_eq_true_eq]
  exact (Pt.cmpB_good.eq _ _).symm
theorem less_cmpB (a b : ByteArray) : Op.bytesLess a.toList b.toList = decide (Pt.cmpB a.data.toList b.data.toList = -1) := by
  rw [Lib.toList_data, Lib.toList_data]; exact bytesLess_cmp _ _

theorem lists_get (bs : List ByteArray) (k : Nat) (h : k < bs.length) : (lists bs).drop k = bs[k].data.toList :: (lists bs).drop (k + 1) := by
  rw [List.drop_eq_getElem_cons (by rw [size_lists]; exact h)]
  congr 1
  simp [lists]

theorem nil_drop (bs : List ByteArray) (k : Nat) (h : bs.length ≤ k) : (lists bs).drop k = [] := List.drop_of_length_le (by rw [size_lists]; exact h)

theorem pieces_le : ∀ l : Pt.Bs, (Pt.pieces l).length ≤ l.length + 1
  | [] => by simp [Pt.pieces]
  | b :: l => by
    have ih := pieces_le l
    obtain ⟨p, r, h⟩ := Pt.pieces_cons l
    unfold Pt.pieces
    rw [h] at ih ⊢
    split <;> simp_all <;> omega

theorem few_pieces (s : ByteArray) (bs : List ByteArray) (hs : s.size ≤ 1000) (h : lists bs = Pt.pieces s.data.toList) : bs.length ≤ 100000 := by
  have h1 := congrArg List.length h
  rw [size_lists] at h1
  have h2 := pieces_le s.data.toList
  have h3 : s.data.toList.length = s.size := rfl
  omega

set_option maxRecDepth 100000 in
set_option maxHeartbeats 1000000 in
theorem refCompare_any (a b : ByteArray) (ha : a.size ≤ 1000) (hb : b.size ≤ 1000) (w : World) :
    Calls Try.prog 27 #[.string a, .string b] w fun e w' => e = .returned (.int .i64 (Pt.cmpT a.data.toList b.data.toList)) ∧ Below w.heap.size w w' := by
  obtain ⟨C, hC⟩ : ∃ C, Pt.cmpT a.data.toList b.data.toList = C := ⟨_, rfl⟩
  rw [hC]
  unfold Pt.cmpT at hC
  have HC := hide hC
  have HA := hide (pieces_any a ha)
  have HBB := hide (pieces_any b hb)
  clear hC
  go_enter Try.func27, Try.ntmps27
  go_wp2_with fail
  refine (unhide HA _).mono ?_
  rintro e w1 ⟨g1, cap1, l, rfl, hl, hf1, hb1⟩
  go_wp2_with fail
  refine (unhide HBB _).mono ?_
  rintro e w2 ⟨g2, cap2, m, rfl, hm, hf2, hb2⟩
  rw [← hl, ← hm] at HC
  have HF1 := hide (hf1.after hb2)
  have HF2 := hide hf2
  have HB2 := hide (below_grow hb1 (Nat.le_refl _) hb2)
  have hl1 : l.length ≤ 100000 := few_pieces a l ha hl
  have hm1 : m.length ≤ 100000 := few_pieces b m hb hm
  clear hl hm hf1 hf2 hb1 hb2 HA HBB ha hb
  go_wp2_with fail
  go_loopw [7] (fun i wr => ∃ k q : Nat, k ≤ l.length ∧ k ≤ m.length ∧ i = .int .i64 k ∧ Pt.cmpP ((lists l).drop k) ((lists m).drop k) = C ∧ wr = w2.drewN q) (fun i _ => l.length - (intOf i).toNat)
  case atStart => exact ⟨0, 0, Nat.zero_le _, Nat.zero_le _, rfl, unhide HC, rfl⟩
  case round =>
    clear HC
    obtain ⟨k, q, hkl, hkm, rfl, hC, rfl⟩ := hrel
    by_cases h1 : k < l.length
    · by_cases h2 : k < m.length
      · rw [lists_get l k h1, lists_get m k h2, Pt.cmpP_cons] at hC
        have c1 : w2.cell? ⟨g1, k, none⟩ = some (.string l[k]) := (unhide HF1).cell k _ (List.getElem?_eq_getElem h1)
        have c2 : w2.cell? ⟨g2, k, none⟩ = some (.string m[k]) := (unhide HF2).cell k _ (List.getElem?_eq_getElem h2)
        have hs := same_cmpB l[k] m[k]
        have hl := less_cmpB l[k] m[k]
        have hr := Pt.cmpB_good.rng l[k].data.toList m[k].data.toList
        generalize l[k] = x at *
        generalize m[k] = y at *
        generalize Pt.cmpB x.data.toList y.data.toList = D at *
        rcases hr with rfl | rfl | rfl
        · obtain rfl : (-1 : Int) = C := hC
          have hl' : Op.bytesLess x.toList y.toList = true := hl
          clear hs hl
          go_wp2_with fail
          go_quiet (fail)
          go_wp2_with fail
          go_ret
          exact ⟨rfl, below_drewN (below_drewN (unhide HB2) _) _⟩
        · have HC2 : Hid (Pt.cmpP ((lists l).drop (k + 1)) ((lists m).drop (k + 1)) = C) := hC
          have hl' : Op.bytesLess x.toList y.toList = false := hl
          have hs' : (x.toList == y.toList) = true := hs
          clear hC hs hl
          go_wp2_with fail
          go_quiet (fail)
          go_wp2_with fail
          go_quiet (fail)
          go_wp2_with fail
          go_roundw
          case rel => exact ⟨k + 1, _, by omega, by omega, by go_num, unhide HC2, rfl⟩
          case measure => simp [intOf]; omega
        · obtain rfl : (1 : Int) = C := hC
          have hl' : Op.bytesLess x.toList y.toList = false := hl
          have hs' : (x.toList == y.toList) = false := hs
          clear hs hl
          go_wp2_with fail
          go_quiet (fail)
          go_wp2_with fail
          go_quiet (fail)
          go_wp2_with fail
          go_ret
          exact ⟨rfl, below_drewN (below_drewN (below_drewN (unhide HB2) _) _) _⟩
      · obtain ⟨x, t, hx⟩ : ∃ x t, (lists l).drop k = x :: t := ⟨_, _, lists_get l k h1⟩
        rw [nil_drop m k (by omega), hx, Pt.cmpP_cons_nil] at hC
        obtain rfl : (1 : Int) = C := hC
        clear hx
        go_wp2_with fail
        go_ret
        exact ⟨rfl, below_drewN (unhide HB2) _⟩
    · rw [nil_drop l k (by omega)] at hC
      by_cases h2 : k < m.length
      · rw [lists_get m k h2, Pt.cmpP_nil_cons] at hC
        obtain rfl : (-1 : Int) = C := hC
        go_wp2_with fail
        go_ret
        exact ⟨rfl, below_drewN (unhide HB2) _⟩
      · rw [nil_drop m k (by omega), Pt.cmpP_nil] at hC
        obtain rfl : (0 : Int) = C := hC
        go_wp2_with fail
        go_ret
        exact ⟨rfl, below_drewN (unhide HB2) _⟩
end Go.Proofs.Ytdibhedofbnbfaa
