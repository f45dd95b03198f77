/-
  The walk of a law: a message that may be is read as it was written, and bytes that are read are those that are written.
-/
import Derived.Test.YthecijjmgfempaaGreatMathC
import Derived.Test.YthecijjmgfempaaGreatL1
namespace Go.Proofs.YthecijjmgfempaaGreat
open Go.RowKit
theorem load_msg_want' {ops : Array Oper} {rest : List Oper} {o : Oper} {a : Act} {w : World} {Q : Exit → Act → World → Prop} (hw : Region.wanted o (yielded ops a.tmps) = true) (x : Operand) (ho : o.op = .load 28 x)
    (B : Nat) (hx : a.eval x = .pointer (some ⟨B, 0, none⟩)) (vs : List Value) (hr : VRow w B 28 vs) (hn : vs.length = 41)
    (h : wpList Tryz.prog ops Q rest (a.put o.dst (.agg vs.toArray)) w) : wpList Tryz.prog ops Q (o :: rest) a w :=
  wpList_step fun _ hK => by rw [if_pos hw]; exact wp_load_row 28 x ho B hx 28 vs.toArray (0, 0) _ hr Tryz.underlying28 rfl (by rw [sizeM]; simp [hn]) (hK _ _ h)
theorem told_len (st : St) : (told st).length ≤ st.1.length := by
  unfold told
  split
  · exact Nat.zero_le _
  · exact Nat.le_refl _
theorem wMsg_len (m : Msg) (hr : m.root.length = 32) (hn : m.rows.length ≤ 70) : (wMsg ([], 0) m).1.length ≤ 1000000 := by
  have h0 := wHead_len ([], 0) m
  have h1 := wDigest_len (wHead ([], 0) m) hr
  unfold wMsg
  split
  · have h2 := wVec_len (wDigest (wHead ([], 0) m) m.root) m.ctx
    have h3 := wRows_len (wVec (wDigest (wHead ([], 0) m) m.root) m.ctx) m.rows
    simp only [List.length_nil] at h0
    omega
  · split
    · have h2 := (wText_len (wDigest (wHead ([], 0) m) m.root) m.path).1
      simp only [List.length_nil] at h0
      omega
    · split
      · have h2 := (wText_len (wHead ([], 0) m) m.path).1
        have h3 := (wText_len (wText (wHead ([], 0) m) m.path) m.text).1
        simp only [List.length_nil] at h0
        omega
      · split
        · have h2 := wFlag_len (wHead ([], 0) m) m.turn
          simp only [List.length_nil] at h0
          omega
        · simp only [List.length_nil] at h0
          omega
theorem bytesM_len (m : Msg) (hr : m.root.length = 32) (hn : m.rows.length ≤ 70) : (bytesM m).1.length ≤ 1000000 := by
  unfold bytesM
  split
  · exact Nat.zero_le _
  · exact Nat.le_trans (told_len _) (wMsg_len m hr hn)
theorem back_few (st : St) : FewM (readM st).1 := by
  unfold readM
  split
  · exact zero_few 0 0 0 0
  · exact rMsg_few st
theorem rl_keep {W W2 : World} {o : Obj} {b : Option Addr} {rows : List (List Vc.D)} (h : RL W b rows) (ho : Only W.heap.size (W.alloc o) W2) : RL W2 b rows := h.after ((below_alloc' o).trans (ho.below (Nat.le_refl _)))
theorem sl_keep {W W2 : World} {o : Obj} {b : Option Addr} {ds : List Vc.D} (h : Sl W b ds) (ho : Only W.heap.size (W.alloc o) W2) : Sl W2 b ds := h.after ((below_alloc' o).trans (ho.below (Nat.le_refl _)))
theorem row_keep {W W2 : World} {o : Obj} {B T : Nat} {vs : List Value} (h : VRow W B T vs) (ho : Only W.heap.size (W.alloc o) W2) : VRow W2 B T vs := h.after ((below_alloc' o).trans (ho.below (Nat.le_refl _)))

end Go.Proofs.YthecijjmgfempaaGreat
