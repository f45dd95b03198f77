/-
  An opening's steps in a row: what it has come to ahead of each.
-/
import Derived.Test.YthecijjmgfempaaGreatF2
namespace Go.Proofs.YthecijjmgfempaaGreat
open Go.RowKit

def frs : Nat → List UInt8 → Msg × Int
  | 0 => openF
  | 1 => fr1
  | 2 => fr2
  | 3 => fr3
  | 4 => fr4
  | 5 => fr5
  | _ => fun l => readM (l, 0)
/-- What an opening has come to, ahead of its step j. -/
def At (O n : Nat) (A : Msg × Int) (j : Nat) (W : World) : Prop :=
  (j ≤ 6 ∧ ∃ l, frs j l = A ∧ l.length ≤ 40000000 ∧ VRow W O 44 (oZ l)) ∨ (j = 7 ∧ A.2 = 0 ∧ ∃ l a c b d, VRow W O 44 (oL l A.1 a c b d) ∧ Fresh n a A.1.ctx ∧ RProv (fun g => n ≤ g) W b A.1.rows ∧ Sl W a A.1.ctx ∧ RL W b A.1.rows)
def Next (O n : Nat) (A : Msg × Int) (j : Nat) (w : World) (e : Ending) (w' : World) : Prop :=
  ∃ r : Int, e = .returned (.int .i64 r) ∧ Beside (· = O) w w' ∧ (r ≠ 0 → A = (zeroM, r)) ∧ (r = 0 → At O n A (j + 1) w')
section
variable {O n j : Nat} {A : Msg × Int} {w : World}
theorem next_of {l l' : List UInt8} {r : Int} (hj : j ≤ 5) (hl : l'.length ≤ 40000000) (hA : frs j l = A) (hs : frs j l = if r ≠ 0 then (zeroM, r) else frs (j + 1) l') (e : Ending) (w' : World) (h : StepMade O w l' r e w') : Next O n A j w e w' := by
  obtain ⟨he, hv, hb⟩ := h
  refine ⟨r, he, hb, fun h => ?_, fun h => Or.inl ⟨by omega, l', ?_, hl, hv⟩⟩
  · rw [← hA, hs, if_pos h]
  · rw [← hA, hs, if_neg (by simp [h])]
theorem textF_len (l : List UInt8) : (textF l).1.length ≤ 131072 := rText_most (l, 0) 131072 (by omega)
theorem step_next (hj : j ≤ 6) (hn : n ≤ w.heap.size) (h : At O n A j w) : Calls Tryz.prog (12 + j) #[.pointer (some ⟨O, 0, none⟩)] w (Next O n A j w) := by
  rcases h with ⟨_, l, hA, hl, hv⟩ | ⟨h7, _⟩
  · have hc : j = 0 ∨ j = 1 ∨ j = 2 ∨ j = 3 ∨ j = 4 ∨ j = 5 ∨ j = 6 := by omega
    rcases hc with rfl | rfl | rfl | rfl | rfl | rfl | rfl
    · refine (fits_any hv).mono (next_of (by omega) hl hA ?_)
      by_cases c : 131072 < l.length <;> simp [frs, openF, c]
    · refine (takeSum_any hv hl).mono (next_of (by omega) ?_ hA ?_)
      · split
        · rw [List.length_take]; omega
        · exact hl
      · by_cases c : Right l <;> simp [frs, fr1, c]
    · refine (hasHead_any hv).mono (next_of (by omega) hl hA ?_)
      by_cases c : l.length < 3 <;> simp [frs, fr2, c]
    · refine (takeLetters_any hv).mono (next_of (by omega) ?_ hA ?_)
      · split
        · rw [List.length_drop]; omega
        · exact hl
      · by_cases c : [104, 115].isPrefixOf l = true
        · simp only [frs, fr3, if_pos c]; rfl
        · simp only [frs, fr3, if_neg c]; rfl
    · refine (takeKind_any hv).mono (next_of (by omega) ?_ hA ?_)
      · split
        · rw [List.length_drop]; omega
        · exact hl
      · by_cases c : [1].isPrefixOf l = true
        · simp only [frs, fr4, if_pos c]; rfl
        · simp only [frs, fr4, if_neg c]; rfl
    · refine (takeText_any hv hl).mono (next_of (by omega) ?_ hA rfl)
      have := textF_len l
      omega
    · refine (readMessage_any hv hl).mono ?_
      rintro e w' ⟨a, c, b, d, rfl, h1, h2, h3, h4, h5, h6⟩
      have hA' : readM (l, 0) = A := hA
      rw [hA'] at h1 h2 h3 h4 h5
      rw [hA']
      refine ⟨A.2, rfl, h6, fun h => ?_, fun h => Or.inr ⟨rfl, h, l, a, c, b, d, h1, h2.weak hn, h3.weak (fun g hg => Nat.le_trans hn hg), h4, h5⟩⟩
      have h8 := readM_bad (l, 0) (by rw [hA']; exact h)
      rw [hA'] at h8
      rw [← h8]
  · omega
end
theorem size44 : (Tryz.prog.info? 44).map (·.size) = some 42 := by kernel_rfl
theorem oZ_len (l : List UInt8) : (oZ l).length = 42 := rfl
theorem at44 {ops : Array Oper} {d : Option Tmp} {x y : Operand} {ty : TypeId} {pos : String} {af : Array Edge} {g : Option (Nat × Bool)} {rest : List Oper} {a : Act} {w : World} {Q : Exit → Act → World → Prop} (h : wpList Tryz.prog ops Q ({dst := d, op := .store 44 x y, type := ty, pos := pos, after := af, guard := g} :: rest) a w) : wpList Tryz.prog ops Q ({dst := d, op := .store 44 x y, type := ty, pos := pos, after := af, guard := g} :: rest) a w := h
theorem load_found {ops : Array Oper} {rest : List Oper} {op : Oper} {a : Act} {w : World} {Q : Exit → Act → World → Prop} (hgd : op.guard = none) (x : Operand) (ho : op.op = .load 28 x)
    (B : Nat) (hx : a.eval x = .pointer (some ⟨B, 1, none⟩)) {z : Value} (vs : List Value) (hr : VRow w B 44 (z :: vs)) (hn : vs.length = 41)
    (h : wpList Tryz.prog ops Q rest (a.put op.dst (.agg vs.toArray)) w) : wpList Tryz.prog ops Q (op :: rest) a w :=
  wpList_load_mid hgd 28 x ho B 1 hx _ _ (fun j v hv => hr.cell (1 + j) v (by rw [Nat.add_comm]; exact hv)) Tryz.underlying28 rfl (by rw [sizeM, hn]) h
theorem results_msg7 (tmps : Array Value) (w : World) (g : Nat) (vs : List Value) (v : Value) (hp : tmps.getD 2 undef = .pointer (some ⟨g, 0, none⟩)) (hq : tmps.getD 3 undef = v) (hr : VRow w g 28 vs) (hn : vs.length = 41) :
    (results Tryz.f7 tmps).run Tryz.prog w = .ok (.tuple #[.agg vs.toArray, v]) w := by
  have hp' : tmps[2]?.getD undef = .pointer (some ⟨g, 0, none⟩) := by simpa using hp
  have hq' : tmps[3]?.getD undef = v := by simpa using hq
  have hl := run_loadVar_row (P := Tryz.prog) w g 28 28 vs.toArray (0, 0) _ hr Tryz.underlying28 rfl (by rw [sizeM]; simp [hn])
  simp [results, hp', hq', asAddr, hl]
end Go.Proofs.YthecijjmgfempaaGreat
