/-
  Messages: what may be, and how one lies in memory. Plain facts.
-/
import Derived.Test.YthecijjmgfempaaR3
import Derived.Test.YthecijjmgfempaaSame
import Derived.Test.YthecijjmgfempaaSib
import Derived.Test.YthecijjmgfempaaQMath
import Derived.Deep.MidRow
import Derived.Stop.BytesEq
import Derived.Lib.Strings
namespace Go.Proofs.Ythecijjmgfempaa
open Go.RowKit

theorem data_inj (a b : ByteArray) (h : a.data.toList = b.data.toList) : a = b := by
  cases a; cases b
  simp at h
  rw [h]
theorem toList_eq (a b : ByteArray) : (a.toList == b.toList) = decide (a = b) := by
  rw [Bool.eq_iff_iff, beq_iff_eq, decide_eq_true_eq, Lib.toList_data, Lib.toList_data]
  exact ⟨data_inj a b, fun h => by rw [h]⟩
theorem str_is {s : ByteArray} (h : s = ⟨#[]⟩) : s.toList = [] := by rw [Lib.toList_data, h]
theorem str_not {s : ByteArray} (h : ¬ s = ⟨#[]⟩) : ¬ s.toList = [] := fun e => h (data_inj _ _ (by rw [← Lib.toList_data, e]))

/-- A message. -/
structure Msg where
  kind : Int
  frm : Int
  dst : Int
  sid : Int
  turn : Bool
  path : ByteArray
  root : List UInt8
  ctx : List Vc.D
  rows : List (List Vc.D)
  text : ByteArray

def headM (m : Msg) : Int := if m.kind < 1 ∨ 6 < m.kind then 15 else if m.frm < 0 ∨ 63 < m.frm ∨ m.dst < 0 ∨ 63 < m.dst ∨ m.frm = m.dst then 11 else if m.sid < 1 ∨ 1048576 < m.sid then 12 else 0
/-- A field that is not the kind's own is set. -/
def foreign (m : Msg) : Bool :=
  (decide (m.root ≠ zero32) && m.kind != 2 && m.kind != 3) || (decide (m.path ≠ ⟨#[]⟩) && m.kind != 3 && m.kind != 4) || (decide (0 < m.ctx.length) && m.kind != 2) || (decide (0 < m.rows.length) && m.kind != 2) || (decide (m.text ≠ ⟨#[]⟩) && m.kind != 4) || (m.turn && m.kind != 6)
def rowsErr : List (List Vc.D) → Int
  | [] => 0
  | d :: l => if Vc.check d ≠ 0 then Vc.check d else rowsErr l
def pathErr (s : ByteArray) : Int := if s = ⟨#[]⟩ then 0 else Pth.Pt.check s.data.toList
/-- What is wrong of a message's own fields. -/
def ownErr (m : Msg) : Int :=
  if pathErr m.path ≠ 0 then pathErr m.path else if Vc.check m.ctx ≠ 0 then Vc.check m.ctx else if 64 < m.rows.length then 2 else if rowsErr m.rows ≠ 0 then rowsErr m.rows else if 65536 < m.text.size then 2 else 0
def checkM (m : Msg) : Int := if headM m ≠ 0 then headM m else if foreign m = true then 7 else ownErr m

theorem rowsErr_drop (l : List (List Vc.D)) (k : Nat) (d : List Vc.D) (h : l[k]? = some d) : rowsErr (l.drop k) = if Vc.check d ≠ 0 then Vc.check d else rowsErr (l.drop (k + 1)) := by
  obtain ⟨h1, rfl⟩ := List.getElem?_eq_some_iff.1 h
  rw [List.drop_eq_getElem_cons h1]
  rfl
theorem rowsErr_zero : ∀ (l : List (List Vc.D)), rowsErr l = 0 ↔ ∀ d ∈ l, Vc.check d = 0
  | [] => by simp [rowsErr]
  | d :: l => by
    unfold rowsErr
    by_cases h : Vc.check d = 0
    · rw [if_neg (by simp [h]), rowsErr_zero l]
      simp [h]
    · rw [if_pos h]
      simp [h]

/-- The cells of a message: its lists at a and b. -/
def mL (m : Msg) (a : Option Addr) (c : Nat) (b : Option Addr) (d : Nat) : List Value :=
  .int .i64 m.kind :: .int .i64 m.frm :: .int .i64 m.dst :: .int .i64 m.sid :: .bool m.turn :: .string m.path :: (m.root.map byteVal ++ [.slice a m.ctx.length c, .slice b m.rows.length d, .string m.text])
theorem mL_len {m : Msg} (h : m.root.length = 32) (a : Option Addr) (c : Nat) (b : Option Addr) (d : Nat) : (mL m a c b d).length = 41 := by simp [mL, h]
theorem mL_one (m : Msg) (a : Option Addr) (c : Nat) (b : Option Addr) (d : Nat) : ∀ v ∈ mL m a c b d, v.oneCell' = true := by
  intro v hv
  simp only [mL, List.mem_cons, List.mem_append, List.mem_map, List.not_mem_nil, or_false] at hv
  rcases hv with rfl | rfl | rfl | rfl | rfl | rfl | ⟨x, _, rfl⟩ | rfl | rfl | rfl <;> rfl
theorem mL_back {r : List Value} (h : r.length = 32) (x y z : Value) : (r ++ [x, y, z])[32]? = some x ∧ (r ++ [x, y, z])[33]? = some y ∧ (r ++ [x, y, z])[34]? = some z := by
  refine ⟨?_, ?_, ?_⟩ <;> rw [List.getElem?_append_right (by omega), h] <;> rfl
section
variable {W : World} {B : Nat} {m : Msg} {a b : Option Addr} {c d : Nat}
theorem m0 (h : VRow W B 27 (mL m a c b d)) : W.cell? ⟨B, 0, none⟩ = some (.int .i64 m.kind) := h.cell 0 _ rfl
theorem m1 (h : VRow W B 27 (mL m a c b d)) : W.cell? ⟨B, 1, none⟩ = some (.int .i64 m.frm) := h.cell 1 _ rfl
theorem m2 (h : VRow W B 27 (mL m a c b d)) : W.cell? ⟨B, 2, none⟩ = some (.int .i64 m.dst) := h.cell 2 _ rfl
theorem m3 (h : VRow W B 27 (mL m a c b d)) : W.cell? ⟨B, 3, none⟩ = some (.int .i64 m.sid) := h.cell 3 _ rfl
theorem m4 (h : VRow W B 27 (mL m a c b d)) : W.cell? ⟨B, 4, none⟩ = some (.bool m.turn) := h.cell 4 _ rfl
theorem m5 (h : VRow W B 27 (mL m a c b d)) : W.cell? ⟨B, 5, none⟩ = some (.string m.path) := h.cell 5 _ rfl
theorem m38 (h : VRow W B 27 (mL m a c b d)) (hr : m.root.length = 32) : W.cell? ⟨B, 38, none⟩ = some (.slice a m.ctx.length c) := h.cell 38 _ (mL_back (by simp [hr]) _ _ _).1
theorem m39 (h : VRow W B 27 (mL m a c b d)) (hr : m.root.length = 32) : W.cell? ⟨B, 39, none⟩ = some (.slice b m.rows.length d) := h.cell 39 _ (mL_back (by simp [hr]) _ _ _).2.1
theorem m40 (h : VRow W B 27 (mL m a c b d)) (hr : m.root.length = 32) : W.cell? ⟨B, 40, none⟩ = some (.string m.text) := h.cell 40 _ (mL_back (by simp [hr]) _ _ _).2.2
theorem m6 (h : VRow W B 27 (mL m a c b d)) : W.rangeAt B 6 (m.root.map byteVal) := fun j v hv => by
  have hlt : j < (m.root.map byteVal).length := (List.getElem?_eq_some_iff.1 hv).1
  have e : (mL m a c b d)[6 + j]? = some v := by
    show (_ :: _ :: _ :: _ :: _ :: _ :: (m.root.map byteVal ++ _))[6 + j]? = some v
    rw [show 6 + j = j + 6 from by omega]
    simp only [List.getElem?_cons_succ]
    rw [List.getElem?_append_left hlt]
    exact hv
  exact h.cell (6 + j) v e
end
theorem sizeM : (Try.prog.info? 27).map (·.size) = some 41 := by kernel_rfl
/-- The message of zero values. -/
def zeroM : Msg := ⟨0, 0, 0, 0, false, ⟨#[]⟩, zero32, [], [], ⟨#[]⟩⟩
def mZ : List Value := mL zeroM none 0 none 0
theorem zeroM_root : zeroM.root.length = 32 := rfl

theorem load_msg {ops : Array Oper} {rest : List Oper} {o : Oper} {a : Act} {w : World} {Q : Exit → Act → World → Prop} (hgd : o.guard = none) (x : Operand) (ho : o.op = .load 27 x)
    (B : Nat) (hx : a.eval x = .pointer (some ⟨B, 0, none⟩)) (vs : List Value) (hr : VRow w B 27 vs) (hn : vs.length = 41)
    (h : wpList Try.prog ops Q rest (a.put o.dst (.agg vs.toArray)) w) : wpList Try.prog ops Q (o :: rest) a w :=
  wpList_load_row hgd 27 x ho B hx 27 vs.toArray (0, 0) _ hr Try.underlying27 rfl (by rw [sizeM]; simp [hn]) h
theorem load_root {ops : Array Oper} {rest : List Oper} {o : Oper} {a : Act} {w : World} {Q : Exit → Act → World → Prop} (hgd : o.guard = none) (x : Operand) (ho : o.op = .load 23 x)
    (B : Nat) (hx : a.eval x = .pointer (some ⟨B, 6, none⟩)) (r : List UInt8) (hr : w.rangeAt B 6 (r.map byteVal)) (hn : r.length = 32)
    (h : wpList Try.prog ops Q rest (a.put o.dst (.agg (r.map byteVal).toArray)) w) : wpList Try.prog ops Q (o :: rest) a w :=
  wpList_load_mid hgd 23 x ho B 6 hx _ _ hr Try.underlying23 rfl (by rw [sizeDg, List.length_map, hn]) h
theorem load_root_want {ops : Array Oper} {rest : List Oper} {o : Oper} {a : Act} {w : World} {Q : Exit → Act → World → Prop} (hw : Region.wanted o (yielded ops a.tmps) = true) (x : Operand) (ho : o.op = .load 23 x)
    (B : Nat) (hx : a.eval x = .pointer (some ⟨B, 6, none⟩)) (r : List UInt8) (hr : w.rangeAt B 6 (r.map byteVal)) (hn : r.length = 32)
    (h : wpList Try.prog ops Q rest (a.put o.dst (.agg (r.map byteVal).toArray)) w) : wpList Try.prog ops Q (o :: rest) a w :=
  wpList_step fun _ hK => by rw [if_pos hw]; exact wp_load_mid 23 x ho B 6 hx _ _ hr Try.underlying23 rfl (by rw [sizeDg, List.length_map, hn]) (hK _ _ h)
theorem eq_root (U V : List UInt8) (hU : U.length = 32) (hV : V.length = 32) (w : World) : (Op.equalIn 10000 23 (.agg (U.map byteVal).toArray) (.agg (V.map byteVal).toArray)).run Try.prog w = .ok (U == V) w :=
  run_equalIn_bytes (P := Try.prog) w 9998 23 5 32 Try.underlying23 Try.underlying5 (fun w => Try.sizeOf5 w) U V hU hV

set_option maxRecDepth 100000 in
theorem eq_zero (U : List UInt8) (hU : U.length = 32) (w : World) : (Op.equalIn 10000 23 (.agg (U.map byteVal).toArray) (.agg #[.int .u8 0, .int .u8 0, .int .u8 0, .int .u8 0, .int .u8 0, .int .u8 0, .int .u8 0, .int .u8 0, .int .u8 0, .int .u8 0, .int .u8 0, .int .u8 0, .int .u8 0, .int .u8 0, .int .u8 0, .int .u8 0, .int .u8 0, .int .u8 0, .int .u8 0, .int .u8 0, .int .u8 0, .int .u8 0, .int .u8 0, .int .u8 0, .int .u8 0, .int .u8 0, .int .u8 0, .int .u8 0, .int .u8 0, .int .u8 0, .int .u8 0, .int .u8 0])).run Try.prog w = .ok (U == zero32) w := eq_root U zero32 hU rfl w
set_option maxRecDepth 100000 in
set_option maxHeartbeats 1000000 in
/-- The document's first look. -/
theorem refHead_any (m : Msg) (a b : Option Addr) (c d : Nat) (w : World) :
    Calls Try.prog 37 #[.agg (mL m a c b d).toArray] w fun e w' => e = .returned (.int .i64 (headM m)) ∧ Below w.heap.size w w' := by
  have R := VRow.new w 27 (mL m a c b d)
  have HB := hide (below_alloc' (w := w) (.cells (mL m a c b d).toArray 27))
  have a0 := m0 R
  have a1 := m1 R
  have a2 := m2 R
  have a3 := m3 R
  unfold headM
  generalize m.kind = K at *
  generalize m.frm = F at *
  generalize m.dst = T at *
  generalize m.sid = S at *
  clear R
  obtain ⟨V, hV⟩ : ∃ V, (if K < 1 ∨ 6 < K then (15 : Int) else if F < 0 ∨ 63 < F ∨ T < 0 ∨ 63 < T ∨ F = T then 11 else if S < 1 ∨ 1048576 < S then 12 else 0) = V := ⟨_, rfl⟩
  rw [hV]
  rcases (by omega : K < 1 ∨ 6 < K ∨ (1 ≤ K ∧ K ≤ 6)) with h1 | h1 | ⟨h1, h2⟩
  · rw [if_pos (by omega)] at hV
    go_enter Try.func37, Try.ntmps37
    go_wp2_with fail
    go_ret
    exact ⟨ret_int hV, unhide HB⟩
  · rw [if_pos (by omega)] at hV
    go_enter Try.func37, Try.ntmps37
    go_wp2_with fail
    go_ret
    exact ⟨ret_int hV, unhide HB⟩
  rw [if_neg (by omega)] at hV
  rcases (by omega : F < 0 ∨ 63 < F ∨ (0 ≤ F ∧ F ≤ 63 ∧ (T < 0 ∨ 63 < T ∨ (0 ≤ T ∧ T ≤ 63)))) with h3 | h3 | ⟨h3, h4, h5 | h5 | ⟨h5, h6⟩⟩
  iterate 4
    · rw [if_pos (by omega)] at hV
      go_enter Try.func37, Try.ntmps37
      go_wp2_with fail
      go_ret
      exact ⟨ret_int hV, unhide HB⟩
  by_cases h7 : F = T
  · have h8 : (F == T) = true := beq_iff_eq.2 h7
    rw [if_pos (by omega)] at hV
    clear h7
    go_enter Try.func37, Try.ntmps37
    go_wp2_with fail
    go_ret
    exact ⟨ret_int hV, unhide HB⟩
  have h8 : (F == T) = false := beq_eq_false_iff_ne.2 h7
  rw [if_neg (by omega)] at hV
  clear h7
  rcases (by omega : S < 1 ∨ 1048576 < S ∨ (1 ≤ S ∧ S ≤ 1048576)) with h9 | h9 | ⟨h9, h10⟩
  iterate 2
    · rw [if_pos (by omega)] at hV
      go_enter Try.func37, Try.ntmps37
      go_wp2_with fail
      go_ret
      exact ⟨ret_int hV, unhide HB⟩
  rw [if_neg (by omega)] at hV
  go_enter Try.func37, Try.ntmps37
  go_wp2_with fail
  go_ret
  exact ⟨ret_int hV, unhide HB⟩
end Go.Proofs.Ythecijjmgfempaa
