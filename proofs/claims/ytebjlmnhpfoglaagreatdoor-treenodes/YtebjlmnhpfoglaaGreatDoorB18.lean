/-
  The program's Writer: what it owns, and what its own functions do to it. Conditions: those that each theorem names.
-/
import Derived.Test.YtebjlmnhpfoglaaGreatDoorB09
import Derived.Lib.AppendStr
import Derived.Test.YtebjlmnhpfoglaaGreatDoorB17
import Derived.Test.YtebjlmnhpfoglaaGreatDoorB11
namespace Go.Proofs.YtebjlmnhpfoglaaGreatDoor
open Go.RowKit

/-- A Writer in its block, and the bytes that it holds in a row of its own. -/
structure WrAt (w : World) (q : Nat) (v : Value) (bs : List UInt8) (e : Int) : Prop where
  row : VRow w q 151 [v, .int .i64 e]
  own : w.ownsRow 0 5 1 v bs.length (bs.map byteVal)
  ne : v.ownBlock ≠ some q
def Wr (w : World) (p : Addr) (st : St) (own : Nat → Prop) : Prop :=
  ∃ q v bs, p = ⟨q, 0, none⟩ ∧ WrAt w q v bs st.2 ∧ (st.2 = 0 → bs = st.1) ∧ ∀ g, own g ↔ (g = q ∨ v.ownBlock = some g)

theorem own_keep {w w' : World} {v : Value} {n : Nat} {xs : List Value} (h : w.ownsRow 0 5 1 v n xs) (hk : ∀ g, v.ownBlock = some g → w'.heap[g]? = w.heap[g]?) : w'.ownsRow 0 5 1 v n xs := by
  refine ⟨h.1, ?_⟩
  rcases h.2 with h1 | ⟨g, cap, cur, rfl, hb, hg, h2⟩
  · exact .inl h1
  · exact .inr ⟨g, cap, cur, rfl, hb, (hk g rfl).trans hg, h2⟩
theorem own_zero {w : World} {base : Nat} {v : Value} {n : Nat} {xs : List Value} (h : w.ownsRow base 5 1 v n xs) : w.ownsRow 0 5 1 v n xs := by
  refine ⟨h.1, ?_⟩
  rcases h.2 with h1 | ⟨g, cap, cur, rfl, hb, hg, h2⟩
  · exact .inl h1
  · exact .inr ⟨g, cap, cur, rfl, Nat.zero_le _, hg, h2⟩
theorem WrAt.keep {w w' : World} {q : Nat} {v : Value} {bs : List UInt8} {e : Int} (h : WrAt w q v bs e) (hq : w'.heap[q]? = w.heap[q]?) (hk : ∀ g, v.ownBlock = some g → w'.heap[g]? = w.heap[g]?) : WrAt w' q v bs e :=
  ⟨hq.trans h.row, own_keep h.own hk, h.ne⟩
theorem WrAt.lt {w : World} {q : Nat} {v : Value} {bs : List UInt8} {e : Int} (h : WrAt w q v bs e) : ∀ g, g = q ∨ v.ownBlock = some g → g < w.heap.size := by
  rintro g (rfl | hg)
  · exact h.row.lt
  · exact (h.own.lt g hg).2
theorem WrAt.after {w w' : World} {q : Nat} {v : Value} {bs : List UInt8} {e : Int} (h : WrAt w q v bs e) (hb : Below w.heap.size w w') : WrAt w' q v bs e :=
  h.keep (hb.block q h.row.lt) fun g hg => hb.block g (h.lt g (.inr hg))
theorem wr_lt {w : World} {p : Addr} {st : St} {own : Nat → Prop} (h : Wr w p st own) : ∀ g, own g → g < w.heap.size := by
  obtain ⟨q, v, bs, rfl, h1, _, ho⟩ := h
  exact fun g hg => h1.lt g ((ho g).1 hg)
theorem wr_keep {w w' : World} {p : Addr} {st : St} {own : Nat → Prop} (h : Wr w p st own) (_ : w.heap.size ≤ w'.heap.size) (hk : ∀ g, own g → w'.heap[g]? = w.heap[g]?) : Wr w' p st own := by
  obtain ⟨q, v, bs, rfl, h1, h2, ho⟩ := h
  exact ⟨q, v, bs, rfl, h1.keep (hk q ((ho q).2 (.inl rfl))) fun g hg => hk g ((ho g).2 (.inr hg)), h2, ho⟩
theorem wr_after {w w' : World} {p : Addr} {st : St} {own : Nat → Prop} (h : Wr w p st own) (hb : Below w.heap.size w w') : Wr w' p st own := wr_keep h hb.size fun g hg => hb.block g (wr_lt h g hg)
theorem wr_zero (w : World) : ∃ own : Nat → Prop, Wr (w.alloc (.cells zeroW 151)) ⟨w.heap.size, 0, none⟩ ([], 0) own ∧ ∀ g, own g → w.heap.size ≤ g := by
  refine ⟨fun g => g = w.heap.size, ⟨w.heap.size, .slice none 0 0, [], rfl, ⟨VRow.new w 151 [.slice none 0 0, .int .i64 0], World.ownsRow_nil _ _ _ _, by simp [Value.ownBlock]⟩, fun _ => rfl, fun g => by simp [Value.ownBlock]⟩, fun g hg => Nat.le_of_eq hg.symm⟩
theorem turned_refl {X : World → Addr → St → (Nat → Prop) → Prop} {own : Nat → Prop} {p : Addr} {w w' : World} {st : St} {v : Value} (h : X w' p st own) (hb : Below w.heap.size w w') : Turned X own p w st v (.returned v) w' :=
  ⟨own, rfl, h, fun _ h => .inl h, beside_of hb⟩
theorem turned_of {X : World → Addr → St → (Nat → Prop) → Prop} {own : Nat → Prop} {p : Addr} {w w1 w' : World} {st : St} {v : Value} {e : Ending} (hb : Below w.heap.size w w1) (h : Turned X own p w1 st v e w') : Turned X own p w st v e w' := by
  obtain ⟨own', he, hx, ho, hbs⟩ := h
  exact ⟨own', he, hx, fun g hg => (ho g hg).imp_right fun h => Nat.le_trans hb.size h, (beside_of hb).trans hbs⟩
theorem beside_mono {own own' : Nat → Prop} {w w1 w' : World} (h : Beside own w w1) (ho : ∀ g, own' g → own g ∨ w.heap.size ≤ g) (h2 : Beside own' w1 w') : Beside own w w' :=
  ⟨h2.os.trans h.os, h2.tape.trans h.tape, h2.output.trans h.output, Nat.le_trans h.size h2.size, fun k hk hk2 => (h2.block k (Nat.lt_of_lt_of_le hk h.size) (fun hk3 => by rcases ho k hk3 with h3 | h3; exact hk2 h3; omega)).trans (h.block k hk hk2)⟩
theorem turned_trans {X : World → Addr → St → (Nat → Prop) → Prop} {own own1 : Nat → Prop} {p : Addr} {w w1 w' : World} {st : St} {v : Value} {e : Ending} (ho : ∀ g, own1 g → own g ∨ w.heap.size ≤ g) (hb : Beside own w w1) (h : Turned X own1 p w1 st v e w') : Turned X own p w st v e w' := by
  obtain ⟨own', he, hx, ho2, hbs⟩ := h
  refine ⟨own', he, hx, fun g hg => ?_, beside_mono hb ho hbs⟩
  rcases ho2 g hg with h1 | h1
  · exact ho g h1
  · exact .inr (Nat.le_trans hb.size h1)

/-- 'append(b, s...)', b a row of one's own: it stays where it lies, or lies anew. -/
theorem append_str (w : World) (ty : TypeId) (v : Value) (bs : List UInt8) (s : ByteArray) (hown : w.ownsRow 0 5 1 v bs.length (bs.map byteVal)) (hl : bs.length + s.size ≤ 100000000) :
    ∃ a n c w', (Builtin.append_ #[69, 9] ty #[v, .string s]).run Tryz.prog w = .ok (.slice a n c) w' ∧ w'.ownsRow 0 5 1 (.slice a n c) (bs ++ s.data.toList).length ((bs ++ s.data.toList).map byteVal) ∧ w.grownBy w' v.ownBlock ∧
      ∀ g, (Value.slice a n c).ownBlock = some g → v.ownBlock = some g ∨ w.heap.size ≤ g := by
  obtain ⟨i0, hi, hz0, hz1, hz2⟩ := info_parts info5
  have h63 : bs.length + s.size ≤ maxLen := by unfold maxLen; omega
  have e1 : bs.map byteVal ++ Go.Lib.strCells s = (bs ++ s.data.toList).map byteVal := by rw [List.map_append]; rfl
  have e2 : bs.length + s.size = (bs ++ s.data.toList).length := by rw [List.length_append, size_data]
  have form : ∀ {W : World} {base : Nat} {u : Value} {n : Nat} {xs : List Value}, W.ownsRow base 5 1 u n xs → ∃ a n c, u = .slice a n c := by
    intro W base u n xs h
    rcases h.2 with ⟨rfl, _⟩ | ⟨g, cap, cur, rfl, _⟩
    · exact ⟨_, _, _, rfl⟩
    · exact ⟨_, _, _, rfl⟩
  rcases hown.2 with ⟨rfl, h0⟩ | ⟨g, cap, cur, rfl, hbg, hg, hnc, hcm, hcs, htake⟩
  · obtain ⟨v', w', hr, hw, hgr, _⟩ := Go.Lib.run_append_own_string (P := Tryz.prog) w w.heap.size 69 9 ty 5 i0 Tryz.underlying69 Tryz.underlying9 hi hz0 hz1 hz2 (.slice none 0 0) bs.length (bs.map byteVal) ⟨hown.1, .inl ⟨rfl, h0⟩⟩ s h63 (by omega) (Nat.le_refl _)
    rw [e1, e2] at hw
    obtain ⟨a, n, c, rfl⟩ := form hw
    exact ⟨a, n, c, w', hr, own_zero hw, hgr, fun g hg => .inr (hw.lt g hg).1⟩
  · obtain ⟨v', w', hr, hw, hgr, _⟩ := Go.Lib.run_append_own_string (P := Tryz.prog) w 0 69 9 ty 5 i0 Tryz.underlying69 Tryz.underlying9 hi hz0 hz1 hz2 _ bs.length (bs.map byteVal) hown s h63 (by omega) (Nat.zero_le _)
    rw [e1, e2] at hw
    obtain ⟨a, n, c, rfl⟩ := form hw
    refine ⟨a, n, c, w', hr, hw, hgr, fun k hk => ?_⟩
    have hcs' : cur.size = cap := by simpa using hcs
    by_cases hroom : bs.length + s.size ≤ cap
    · have h2 := Go.Lib.run_append_room_string (P := Tryz.prog) w 69 9 ty 5 i0 Tryz.underlying69 Tryz.underlying9 hi hz1 g bs.length cap cur hg s hroom (by omega)
      rw [hr] at h2
      injection h2 with h3 h4
      rw [h3] at hk
      exact .inl hk
    · have h2 := Go.Lib.run_append_grow_string (P := Tryz.prog) w 69 9 ty 5 i0 (.int .u8 0) Tryz.underlying69 Tryz.underlying9 hi hz0 ⟨g, 0, none⟩ bs.length cap (bs.map byteVal) (by rw [hz1]; simp) (hown.cells (g := g) rfl) s (by omega) (by omega) (by rw [hz2]; exact growslice_fits (by omega) (by omega))
      rw [hr] at h2
      injection h2 with h3 h4
      rw [h3] at hk
      injection hk with hk
      exact .inr (Nat.le_of_eq hk)

theorem step_append {ops : Array Oper} {rest : List Oper} {o : Oper} {a : Act} {w : World} {Q : Exit → Act → World → Prop} (hgd : o.guard = none) (sl x : Operand)
    (ho : o.op = .call { callee := .builtin .append, args := #[sl, x], argTypes := #[69, 9] })
    (v : Value) (bs : List UInt8) (s : ByteArray) (hs : a.eval sl = v) (hx : a.eval x = .string s) (hown : w.ownsRow 0 5 1 v bs.length (bs.map byteVal)) (hl : bs.length + s.size ≤ 100000000)
    (h : ∀ b n c w', w'.ownsRow 0 5 1 (.slice b n c) (bs ++ s.data.toList).length ((bs ++ s.data.toList).map byteVal) → w.grownBy w' v.ownBlock → (∀ g, (Value.slice b n c).ownBlock = some g → v.ownBlock = some g ∨ w.heap.size ≤ g) → wpList Tryz.prog ops Q rest (a.put o.dst (.slice b n c)) w') :
    wpList Tryz.prog ops Q (o :: rest) a w := by
  refine wpList_plain hgd fun K hK => ?_
  obtain ⟨b, n, c, w', hr, h2, h3, h4⟩ := append_str w o.type v bs s hown hl
  unfold Oper.wp execOp
  simp only [ho, resolve, invoke, builtin, Sem.run_bind, Sem.run_pure, Result.andThen_ok, List.map_toArray, List.map_cons, List.map_nil, hs, hx, hr]
  exact hK _ _ (h b n c w' h2 h3 h4)

set_option maxRecDepth 100000 in
theorem wrong_any (q : Nat) (e : Int) (w : World) (c1 : w.cell? ⟨q, 1, none⟩ = some (.int .i64 e)) :
    Calls Tryz.prog 153 #[.pointer (some ⟨q, 0, none⟩)] w fun x w' => x = .returned (.int .i64 e) ∧ w' = w := by
  go_enter Tryz.func153, Tryz.ntmps153
  go_wp2_with fail
  go_ret
  exact ⟨rfl, rfl⟩
set_option maxRecDepth 100000 in
theorem wrong_nil (w : World) : Calls Tryz.prog 153 #[.pointer none] w fun x w' => x = .returned (.int .i64 13) ∧ w' = w := by
  go_enter Tryz.func153, Tryz.ntmps153
  go_wp2_with fail
  go_ret
  exact ⟨rfl, rfl⟩

set_option maxRecDepth 100000 in
set_option maxHeartbeats 400000 in
theorem add_any {w : World} {p : Addr} {st : St} {own : Nat → Prop} (h : Wr w p st own) (s : ByteArray) (hl : st.1.length + s.size ≤ 100000000) :
    Calls Tryz.prog 151 #[.pointer (some p), .string s] w (Turned Wr own p w (wput st true s.data.toList) (.tuple #[])) := by
  have HW := hide h
  obtain ⟨b, e⟩ := st
  obtain ⟨q, v, bs, rfl, h1, h2, ho⟩ := h
  dsimp only at h1 h2 hl
  have c0 := h1.row.cell 0 v rfl
  have c1 := h1.row.cell 1 _ rfl
  have K := hide (wrong_any q e w c1)
  have HA := hide h1
  clear h1
  by_cases he : e = 0
  · subst he
    obtain rfl := h2 rfl
    rw [show wput (bs, 0) true s.data.toList = (bs ++ s.data.toList, 0) from rfl]
    have HL := hide hl
    clear hl h2
    go_enter Tryz.func151, Tryz.ntmps151
    go_wp2_with (first
      | (go_at_call 153; refine (unhide K).mono ?_; rintro x w1 ⟨rfl, rfl⟩)
      | (at_builtin; refine step_append rfl _ _ rfl v bs s rfl rfl (unhide HA).own (unhide HL) ?_; intro a n c w1 hown hgr hat; have HO := hide hown; have HG := hide hgr; have HT := hide hat; have r1 := ((unhide HG).block q (unhide HA).row.lt (fun h => (unhide HA).ne h.symm)).trans (unhide HA).row; have f0 := VRow.frozen r1 0; have d0 := VRow.cell r1 0 v rfl; have HR := hide r1; clear r1 hown hgr hat))
    go_end0
    have hq := (unhide HA).row.lt
    have hne : (Value.slice a n c).ownBlock ≠ some q := fun h => by
      rcases unhide HT q h with h1 | h1
      · exact (unhide HA).ne h1
      · omega
    refine ⟨fun g => g = q ∨ (Value.slice a n c).ownBlock = some g, rfl, ⟨q, _, _, rfl, ⟨VRow.set (unhide HR) 0 _, own_keep (unhide HO) fun g hg => heap_setCell_other _ ⟨q, 0, none⟩ g _ (fun h => hne (hg.trans (congrArg some h))), hne⟩, fun _ => rfl, fun g => Iff.rfl⟩, ?_, ?_⟩
    · rintro g (rfl | hg)
      · exact .inl ((ho _).2 (.inl rfl))
      · exact (unhide HT g hg).imp_left fun h => (ho g).2 (.inr h)
    · have G := unhide HG
      refine ⟨G.os, G.tape, G.output, by simpa using G.size, fun k hk hk2 => ?_⟩
      rw [heap_setCell_other _ ⟨q, 0, none⟩ k _ (fun h => hk2 ((ho k).2 (.inl h)))]
      exact G.block k hk (fun h => hk2 ((ho k).2 (.inr h.symm)))
  · rw [show wput (b, e) true s.data.toList = (b, e) from if_pos he]
    have hne : (e == 0) = false := by simp [he]
    clear h2
    go_enter Tryz.func151, Tryz.ntmps151
    go_wp2_with (go_at_call 153; refine (unhide K).mono ?_; rintro x w1 ⟨rfl, rfl⟩)
    go_end0
    exact turned_refl (unhide HW) (Below.refl _ _)
end Go.Proofs.YtebjlmnhpfoglaaGreatDoor

/-
  The program's Writer: Fail, Number, Text, Flag, Digest and Done, of a Writer and of none. Conditions: those that each theorem names.
-/

namespace Go.Proofs.YtebjlmnhpfoglaaGreatDoor
open Go.RowKit

set_option maxRecDepth 100000 in
set_option maxHeartbeats 400000 in
theorem wfail_any {w : World} {p : Addr} {st : St} {own : Nat → Prop} (h : Wr w p st own) (x : Int) :
    Calls Tryz.prog 150 #[.pointer (some p), .int .i64 x] w (Turned Wr own p w (fail st x) (.tuple #[])) := by
  have HW := hide h
  obtain ⟨b, e⟩ := st
  obtain ⟨q, v, bs, rfl, h1, h2, ho⟩ := h
  dsimp only at h1 h2
  have c0 := h1.row.cell 0 v rfl
  have c1 := h1.row.cell 1 _ rfl
  have f0 := h1.row.frozen 0
  have f1 := h1.row.frozen 1
  have K := hide (wrong_any q e w c1)
  have HA := hide h1
  clear h1 h2
  by_cases he : e = 0
  · subst he
    rw [show fail (b, 0) x = (b, x) from rfl]
    by_cases hx : x = 0
    · subst hx
      go_enter Tryz.func150, Tryz.ntmps150
      go_wp2_with (go_at_call 153; refine (unhide K).mono ?_; rintro y w1 ⟨rfl, rfl⟩)
      go_end0
      exact turned_refl (unhide HW) (Below.refl _ _)
    · have hne : (x == 0) = false := by simp [hx]
      go_enter Tryz.func150, Tryz.ntmps150
      go_wp2_with (go_at_call 153; refine (unhide K).mono ?_; rintro y w1 ⟨rfl, rfl⟩)
      go_end0
      refine ⟨fun g => g = q, rfl, ⟨q, .slice none 0 0, [], rfl, ⟨((unhide HA).row.set 1 _).set 0 _, World.ownsRow_nil _ _ _ _, by simp [Value.ownBlock]⟩, fun h => absurd h hx, fun g => by simp [Value.ownBlock]⟩, fun g hg => .inl ((ho g).2 (.inl hg)), ?_⟩
      refine ⟨rfl, rfl, rfl, by simp, fun k hk hk2 => ?_⟩
      have hkq : k ≠ q := fun h => hk2 ((ho k).2 (.inl h))
      rw [heap_setCell_other _ ⟨q, 0, none⟩ k _ hkq, heap_setCell_other _ ⟨q, 1, none⟩ k _ hkq]
  · rw [show fail (b, e) x = (b, e) from if_neg he]
    have hne : (e != 0) = true := by simp [he]
    go_enter Tryz.func150, Tryz.ntmps150
    go_wp2_with (go_at_call 153; refine (unhide K).mono ?_; rintro y w1 ⟨rfl, rfl⟩)
    go_end0
    exact turned_refl (unhide HW) (Below.refl _ _)

set_option maxRecDepth 100000 in
set_option maxHeartbeats 400000 in
theorem wnumber_any {w : World} {p : Addr} {st : St} {own : Nat → Prop} (h : Wr w p st own) (hl : st.1.length ≤ 50000000) (n : Int) :
    Calls Tryz.prog 128 #[.pointer (some p), .int .i64 n] w (Turned Wr own p w (wNumber st n) (.tuple #[])) := by
  have KF := hide (wfail_any h 2)
  have hf : fail st 2 = wput st false (Cnt.putL n) := by unfold fail wput; by_cases he : st.2 = 0 <;> simp [he]
  rw [hf] at KF
  have KP := hide (Put_any n w)
  rw [show (⟨(Cnt.putL n).toArray⟩ : ByteArray) = str (Cnt.putL n) from rfl] at KP
  have KA := hide fun w' (hb : Below w.heap.size w w') => add_any (wr_after h hb) (str (Cnt.putL n)) (by rw [str_size]; have := Cnt.putL_len n; omega)
  rw [str_data] at KA
  unfold wNumber
  clear h hf
  generalize Cnt.putL n = P at KP KF KA ⊢
  by_cases h0 : 0 ≤ n
  · have h0' : ¬ n < 0 := by omega
    rw [decide_eq_true h0, Bool.true_and]
    by_cases h1 : n ≤ 1073741824
    · have h1' : ¬ 1073741824 < n := by omega
      rw [decide_eq_true h1]
      go_enter Tryz.func128, Tryz.ntmps128
      go_wp2_with (first
        | (go_at_call 152; refine (unhide KP).mono ?_; rintro e w1 ⟨rfl, hb⟩; have HB := hide hb; clear hb)
        | (go_at_call 151; refine (unhide KA _ (unhide HB)).mono ?_; intro e w2 hm; have HM := hide (turned_of (unhide HB) hm); clear hm; obtain rfl : e = .returned (.tuple #[]) := (unhide HM).choose_spec.1))
      go_end0
      exact unhide HM
    · have h1' : 1073741824 < n := by omega
      rw [decide_eq_false h1]
      go_enter Tryz.func128, Tryz.ntmps128
      go_wp2_with (go_at_call 150; refine (unhide KF).mono ?_; intro e w2 hm; have HM := hide hm; clear hm; obtain rfl : e = .returned (.tuple #[]) := (unhide HM).choose_spec.1)
      go_end0
      exact unhide HM
  · rw [decide_eq_false h0, Bool.false_and]
    have h0' : n < 0 := by omega
    go_enter Tryz.func128, Tryz.ntmps128
    go_wp2_with (go_at_call 150; refine (unhide KF).mono ?_; intro e w2 hm; have HM := hide hm; clear hm; obtain rfl : e = .returned (.tuple #[]) := (unhide HM).choose_spec.1)
    go_end0
    exact unhide HM

theorem text_is (st : St) (s : ByteArray) (hs : s.size ≤ 65536) : wText st s = wput (wNumber st s.size) true s.data.toList := by
  have h1 : (decide (0 ≤ (s.size : Int)) && decide ((s.size : Int) ≤ 1073741824)) = true := by simp; omega
  unfold wText wNumber
  rw [h1, decide_eq_true hs]
  unfold wput
  by_cases he : st.2 = 0 <;> simp [he]

set_option maxRecDepth 100000 in
set_option maxHeartbeats 400000 in
theorem wtext_any {w : World} {p : Addr} {st : St} {own : Nat → Prop} (h : Wr w p st own) (hl : st.1.length ≤ 50000000) (s : ByteArray) :
    Calls Tryz.prog 129 #[.pointer (some p), .string s] w (Turned Wr own p w (wText st s) (.tuple #[])) := by
  by_cases hs : s.size ≤ 65536
  · rw [text_is st s hs]
    have hs' : ¬ 65536 < (s.size : Int) := by omega
    have KN := hide (wnumber_any h hl s.size)
    have hl2 : (wNumber st s.size).1.length + s.size ≤ 100000000 := by
      have h1 := wput_len st (decide (0 ≤ (s.size : Int)) && decide ((s.size : Int) ≤ 1073741824)) (Cnt.putL s.size)
      have h2 := Cnt.putL_len s.size
      have h3 : (wNumber st s.size).1.length ≤ st.1.length + 5 := by
        unfold wNumber
        refine Nat.le_trans h1 ?_
        split <;> omega
      omega
    have HL := hide hl2
    clear hl2 h
    generalize wNumber st s.size = S at KN HL ⊢
    go_enter Tryz.func129, Tryz.ntmps129
    go_wp2_with (first
      | (go_at_call 128; refine (unhide KN).mono ?_; rintro e w1 ⟨own1, rfl, hx, ho1, hb1⟩; have HX := hide hx; have HO := hide ho1; have HB := hide hb1; clear hx ho1 hb1)
      | (go_at_call 151; refine (add_any (unhide HX) s (unhide HL)).mono ?_; intro e w2 hm; have HM := hide (turned_trans (unhide HO) (unhide HB) hm); clear hm; obtain rfl : e = .returned (.tuple #[]) := (unhide HM).choose_spec.1))
    go_end0
    exact unhide HM
  · have hs' : 65536 < (s.size : Int) := by omega
    have KF := hide (wfail_any h 2)
    have hf : fail st 2 = wText st s := by unfold fail wText wput; by_cases he : st.2 = 0 <;> simp [he, hs]
    rw [hf] at KF
    go_enter Tryz.func129, Tryz.ntmps129
    go_wp2_with (go_at_call 150; refine (unhide KF).mono ?_; intro e w2 hm; have HM := hide hm; clear hm; obtain rfl : e = .returned (.tuple #[]) := (unhide HM).choose_spec.1)
    go_end0
    exact unhide HM

set_option maxRecDepth 100000 in
set_option maxHeartbeats 400000 in
theorem wflag_any {w : World} {p : Addr} {st : St} {own : Nat → Prop} (h : Wr w p st own) (hl : st.1.length ≤ 50000000) (is : Bool) :
    Calls Tryz.prog 170 #[.pointer (some p), .bool is] w (Turned Wr own p w (wFlag st is) (.tuple #[])) := by
  have h1 : (⟨#[1]⟩ : ByteArray).size = 1 := rfl
  have h0 : (⟨#[0]⟩ : ByteArray).size = 1 := rfl
  cases is with
  | true =>
    have KA := hide (add_any h ⟨#[1]⟩ (by omega))
    rw [show wput st true (⟨#[1]⟩ : ByteArray).data.toList = wFlag st true from rfl] at KA
    go_enter Tryz.func170, Tryz.ntmps170
    go_wp2_with (go_at_call 151; refine (unhide KA).mono ?_; intro e w2 hm; have HM := hide hm; clear hm; obtain rfl : e = .returned (.tuple #[]) := (unhide HM).choose_spec.1)
    go_end0
    exact unhide HM
  | false =>
    have KA := hide (add_any h ⟨#[0]⟩ (by omega))
    rw [show wput st true (⟨#[0]⟩ : ByteArray).data.toList = wFlag st false from rfl] at KA
    go_enter Tryz.func170, Tryz.ntmps170
    go_wp2_with (go_at_call 151; refine (unhide KA).mono ?_; intro e w2 hm; have HM := hide hm; clear hm; obtain rfl : e = .returned (.tuple #[]) := (unhide HM).choose_spec.1)
    go_end0
    exact unhide HM

/-- 'd[:]', d an array of 32 bytes. -/
theorem slice_dig (g : Nat) (w : World) : (Instr.sliceAt 46 (.pointer (some ⟨g, 0, none⟩)) none none none).run Tryz.prog w = .ok (.slice (some ⟨g, 0, none⟩) 32 32) w := by
  have hal : Tryz.prog.arrayLen 46 = 32 := by simp [Program.arrayLen, Tryz.underlying46]
  have hel : Tryz.prog.elem 46 = 5 := by simp [Program.elem, Tryz.underlying46]
  rw [run_sliceAt_array_all w 46 ⟨g, 0, none⟩ (by rw [hal, hel]; exact Tryz.underlying46), hal, hel, Tryz.sizeOf5]
  simp [Result.andThen, slicedAt, Addr.add]
/-- 'string(d[:])'. -/
theorem run_string_row {W : World} {g T : Nat} {d : List UInt8} (hd : d.length = 32) (h : VRow W g T (d.map byteVal)) : (convert 69 9 (.slice (some ⟨g, 0, none⟩) 32 32)).run Tryz.prog W = .ok (.string (str d)) W := by
  rw [← hd]
  refine run_convert_bytes_back W 69 9 5 ⟨g, 0, none⟩ d.length d Tryz.underlying69 Tryz.underlying5 Tryz.underlying9 fun j hj => ?_
  have e3 : (⟨g, 0, none⟩ : Addr).add j = ⟨g, j, none⟩ := by simp [Addr.add]; exact fun h => h.symm
  rw [e3]
  exact h.cell j _ (by simp [hj, byteVal])

set_option maxRecDepth 100000 in
set_option maxHeartbeats 400000 in
theorem wdigest_any {w : World} {p : Addr} {st : St} {own : Nat → Prop} (h : Wr w p st own) (hl : st.1.length ≤ 50000000) (d : List UInt8) (hd : d.length = 32) :
    Calls Tryz.prog 130 #[.pointer (some p), .agg (d.map byteVal).toArray] w (Turned Wr own p w (wDigest st d) (.tuple #[])) := by
  have HB := hide (below_alloc' (w := w) (.cells (d.map byteVal).toArray 46))
  have KA := hide (add_any (wr_after h (unhide HB)) (str d) (by rw [str_size]; omega))
  rw [str_data, show wput st true d = wDigest st d from rfl] at KA
  have hsl := slice_dig w.heap.size (w.alloc (.cells (d.map byteVal).toArray 46))
  have hcv := run_string_row hd (VRow.new w 46 (d.map byteVal))
  go_enter Tryz.func130, Tryz.ntmps130
  go_wp2_with (go_at_call 151; refine (unhide KA).mono ?_; intro e w2 hm; have HM := hide (turned_of (unhide HB) hm); clear hm; obtain rfl : e = .returned (.tuple #[]) := (unhide HM).choose_spec.1)
  go_end0
  exact unhide HM

set_option maxRecDepth 100000 in
set_option maxHeartbeats 400000 in
theorem wdone_any {w : World} {p : Addr} {st : St} {own : Nat → Prop} (h : Wr w p st own) : Calls Tryz.prog 131 #[.pointer (some p)] w (Told w (.tuple #[.string (str (told st)), .int .i64 st.2])) := by
  obtain ⟨b, e⟩ := st
  obtain ⟨q, v, bs, rfl, h1, h2, ho⟩ := h
  dsimp only at h1 h2
  have c0 := h1.row.cell 0 v rfl
  have c1 := h1.row.cell 1 _ rfl
  have K := hide (wrong_any q e w c1)
  have hcv := run_string_own h1.own
  rw [show (⟨bs.toArray⟩ : ByteArray) = str bs from rfl] at hcv
  clear h1 ho
  by_cases he : e = 0
  · subst he
    obtain rfl := h2 rfl
    clear h2
    rw [show told (bs, 0) = bs from rfl]
    go_enter Tryz.func131, Tryz.ntmps131
    go_wp2_with (go_at_call 153; refine (unhide K).mono ?_; rintro y w1 ⟨rfl, rfl⟩)
    go_ret2
    exact ⟨rfl, Below.refl _ _⟩
  · have hne : (e != 0) = true := by simp [he]
    clear h2
    rw [show told (b, e) = [] from if_pos he]
    go_enter Tryz.func131, Tryz.ntmps131
    go_wp2_with (go_at_call 153; refine (unhide K).mono ?_; rintro y w1 ⟨rfl, rfl⟩)
    go_ret2
    exact ⟨rfl, Below.refl _ _⟩

set_option maxRecDepth 100000 in
theorem add_nil (s : ByteArray) (w : World) : Calls Tryz.prog 151 #[.pointer none, .string s] w fun e w' => e = .returned (.tuple #[]) ∧ w' = w := by
  have K := hide (wrong_nil w)
  go_enter Tryz.func151, Tryz.ntmps151
  go_wp2_with (go_at_call 153; refine (unhide K).mono ?_; rintro y w1 ⟨rfl, rfl⟩)
  go_end0
  exact ⟨rfl, rfl⟩
set_option maxRecDepth 100000 in
theorem wfail_nil (x : Int) (w : World) : Calls Tryz.prog 150 #[.pointer none, .int .i64 x] w (Told w (.tuple #[])) := by
  have K := hide (wrong_nil w)
  obtain ⟨e0, he0⟩ : ∃ e0 : Int, e0 = 13 := ⟨_, rfl⟩
  rw [← he0] at K
  have hne : (e0 != 0) = true := by rw [he0]; rfl
  clear he0
  go_enter Tryz.func150, Tryz.ntmps150
  go_wp2_with (go_at_call 153; refine (unhide K).mono ?_; rintro y w1 ⟨rfl, rfl⟩)
  go_end0
  exact ⟨rfl, Below.refl _ _⟩
set_option maxRecDepth 100000 in
theorem wdone_nil (w : World) : Calls Tryz.prog 131 #[.pointer none] w (Told w (.tuple #[.string ⟨#[]⟩, .int .i64 13])) := by
  have K := hide (wrong_nil w)
  go_enter Tryz.func131, Tryz.ntmps131
  go_wp2_with (go_at_call 153; refine (unhide K).mono ?_; rintro y w1 ⟨rfl, rfl⟩)
  go_ret2
  exact ⟨rfl, Below.refl _ _⟩
set_option maxRecDepth 100000 in
theorem wnumber_nil (n : Int) (w : World) : Calls Tryz.prog 128 #[.pointer none, .int .i64 n] w (Told w (.tuple #[])) := by
  have KF := hide (wfail_nil 2 w)
  have KP := hide (Put_any n w)
  by_cases h0 : 0 ≤ n
  · have h0' : ¬ n < 0 := by omega
    by_cases h1 : n ≤ 1073741824
    · have h1' : ¬ 1073741824 < n := by omega
      generalize (⟨(Cnt.putL n).toArray⟩ : ByteArray) = S at KP
      go_enter Tryz.func128, Tryz.ntmps128
      go_wp2_with (first
        | (go_at_call 152; refine (unhide KP).mono ?_; rintro e w1 ⟨rfl, hb⟩; have HB := hide hb; clear hb)
        | (go_at_call 151; refine (add_nil _ _).mono ?_; rintro e w2 ⟨rfl, rfl⟩))
      go_end0
      exact ⟨rfl, unhide HB⟩
    · have h1' : 1073741824 < n := by omega
      go_enter Tryz.func128, Tryz.ntmps128
      go_wp2_with (go_at_call 150; refine (unhide KF).mono ?_; rintro e w2 ⟨rfl, hb⟩; have HB := hide hb; clear hb)
      go_end0
      exact ⟨rfl, unhide HB⟩
  · have h0' : n < 0 := by omega
    go_enter Tryz.func128, Tryz.ntmps128
    go_wp2_with (go_at_call 150; refine (unhide KF).mono ?_; rintro e w2 ⟨rfl, hb⟩; have HB := hide hb; clear hb)
    go_end0
    exact ⟨rfl, unhide HB⟩
set_option maxRecDepth 100000 in
theorem wtext_nil (s : ByteArray) (w : World) : Calls Tryz.prog 129 #[.pointer none, .string s] w (Told w (.tuple #[])) := by
  by_cases hs : s.size ≤ 65536
  · have hs' : ¬ 65536 < (s.size : Int) := by omega
    have KN := hide (wnumber_nil s.size w)
    go_enter Tryz.func129, Tryz.ntmps129
    go_wp2_with (first
      | (go_at_call 128; refine (unhide KN).mono ?_; rintro e w1 ⟨rfl, hb⟩; have HB := hide hb; clear hb)
      | (go_at_call 151; refine (add_nil _ _).mono ?_; rintro e w2 ⟨rfl, rfl⟩))
    go_end0
    exact ⟨rfl, unhide HB⟩
  · have hs' : 65536 < (s.size : Int) := by omega
    have KF := hide (wfail_nil 2 w)
    go_enter Tryz.func129, Tryz.ntmps129
    go_wp2_with (go_at_call 150; refine (unhide KF).mono ?_; rintro e w2 ⟨rfl, hb⟩; have HB := hide hb; clear hb)
    go_end0
    exact ⟨rfl, unhide HB⟩
set_option maxRecDepth 100000 in
theorem wflag_nil (is : Bool) (w : World) : Calls Tryz.prog 170 #[.pointer none, .bool is] w (Told w (.tuple #[])) := by
  cases is with
  | true =>
    go_enter Tryz.func170, Tryz.ntmps170
    go_wp2_with (go_at_call 151; refine (add_nil _ _).mono ?_; rintro e w2 ⟨rfl, rfl⟩)
    go_end0
    exact ⟨rfl, Below.refl _ _⟩
  | false =>
    go_enter Tryz.func170, Tryz.ntmps170
    go_wp2_with (go_at_call 151; refine (add_nil _ _).mono ?_; rintro e w2 ⟨rfl, rfl⟩)
    go_end0
    exact ⟨rfl, Below.refl _ _⟩
set_option maxRecDepth 100000 in
theorem wdigest_nil (d : List UInt8) (w : World) (hd : d.length = 32) : Calls Tryz.prog 130 #[.pointer none, .agg (d.map byteVal).toArray] w (Told w (.tuple #[])) := by
  have HB := hide (below_alloc' (w := w) (.cells (d.map byteVal).toArray 46))
  have hsl := slice_dig w.heap.size (w.alloc (.cells (d.map byteVal).toArray 46))
  have hcv := run_string_row hd (VRow.new w 46 (d.map byteVal))
  go_enter Tryz.func130, Tryz.ntmps130
  go_wp2_with (go_at_call 151; refine (add_nil _ _).mono ?_; rintro e w2 ⟨rfl, rfl⟩)
  go_end0
  exact ⟨rfl, unhide HB⟩
end Go.Proofs.YtebjlmnhpfoglaaGreatDoor

/-
  What the program puts: dots, vectors, versions and leaves, into a Writer. Conditions: those that each theorem names.
-/

namespace Go.Proofs.YtebjlmnhpfoglaaGreatDoor
open Go.RowKit

/-- What a call has come to at a Writer so far. -/
abbrev WS (own : Nat → Prop) (p : Addr) (w : World) (st : St) (wr : World) : Prop := Turned Wr own p w st (.tuple #[]) (.returned (.tuple #[])) wr
theorem WS.start {own : Nat → Prop} {p : Addr} {w : World} {st : St} (h : Wr w p st own) : WS own p w st w := turned_refl h (Below.refl _ _)
theorem WS.after {own : Nat → Prop} {p : Addr} {w wr wr' : World} {st : St} (h : WS own p w st wr) (hb : Below wr.heap.size wr wr') : WS own p w st wr' := by
  obtain ⟨own', _, hx, ho, hbs⟩ := h
  exact ⟨own', rfl, wr_after hx hb, ho, ⟨hb.os.trans hbs.os, hb.tape.trans hbs.tape, hb.output.trans hbs.output, Nat.le_trans hbs.size hb.size, fun k hk hk2 => (hb.block k (Nat.lt_of_lt_of_le hk hbs.size)).trans (hbs.block k hk hk2)⟩⟩
theorem WS.beside {own : Nat → Prop} {p : Addr} {w wr : World} {st : St} (h : WS own p w st wr) : Beside own w wr := by
  obtain ⟨own', _, hx, _, hbs⟩ := h
  exact hbs
theorem WS.below {own : Nat → Prop} {p : Addr} {w wr : World} {st : St} (h : WS own p w st wr) {B : Nat} (hB : B ≤ w.heap.size) (ho : ∀ g, own g → B ≤ g) : Below B w wr := h.beside.below hB ho
theorem WS.row {own : Nat → Prop} {p : Addr} {w wr : World} {st : St} (h : WS own p w st wr) {B T : Nat} {vs : List Value} (hr : VRow w B T vs) (hB : ¬ own B) : VRow wr B T vs := hr.beside h.beside hB
theorem WS.of {own : Nat → Prop} {p : Addr} {w w1 wr : World} {st : St} (hb : Below w.heap.size w w1) (h : WS own p w1 st wr) : WS own p w st wr := turned_of hb h
/-- What a call does to a Writer, said of what was there ahead. -/
theorem WS.call {own : Nat → Prop} {p : Addr} {w wr : World} {st st' : St} {f : Nat} {args : Array Value} (h : WS own p w st wr)
    (K : ∀ own1, Wr wr p st own1 → (∀ g, own1 g → own g ∨ w.heap.size ≤ g) → Calls Tryz.prog f args wr (Turned Wr own1 p wr st' (.tuple #[]))) : Calls Tryz.prog f args wr fun e w' => e = .returned (.tuple #[]) ∧ WS own p w st' w' := by
  obtain ⟨own1, _, hx, ho, hbs⟩ := h
  refine (K own1 hx ho).mono fun e w' hm => ?_
  have h2 := turned_trans ho hbs hm
  obtain rfl : e = .returned (.tuple #[]) := h2.choose_spec.1
  exact ⟨rfl, h2⟩


set_option maxRecDepth 100000 in
set_option maxHeartbeats 400000 in
theorem putDot_any {w : World} {p : Addr} {st : St} {own : Nat → Prop} (h : Wr w p st own) (hl : st.1.length ≤ 49000000) (x y : Int) :
    Calls Tryz.prog 168 #[.pointer (some p), .agg #[.int .i64 x, .int .i64 y]] w (Turned Wr own p w (wDot st (x, y)) (.tuple #[])) := by
  have HB := hide (below_alloc' (w := w) (.cells #[.int .i64 x, .int .i64 y] 61))
  have HW := hide (WS.start (wr_after h (unhide HB)))
  have R := VRow.new w 61 [.int .i64 x, .int .i64 y]
  have HR := hide R
  have HN : Hid (¬ own w.heap.size) := hide fun ho => absurd (wr_lt h _ ho) (by omega)
  have HL := hide hl
  have HL2 := hide (wNumber_len st x)
  have a0 := R.cell 0 _ rfl
  clear h R hl
  go_enter Tryz.func168, Tryz.ntmps168
  go_wp2_with fail
  refine ((unhide HW).call fun own1 hx _ => wnumber_any hx (by have := unhide HL; omega) x).mono ?_
  rintro e w1 ⟨rfl, hs⟩
  have HS := hide hs
  have a1 := ((unhide HS).row (unhide HR) (unhide HN)).cell 1 _ rfl
  clear hs a0
  go_wp2_with fail
  refine ((unhide HS).call fun own1 hx _ => wnumber_any hx (by have := unhide HL; have := unhide HL2; omega) y).mono ?_
  rintro e w2 ⟨rfl, hs⟩
  have HS2 := hide hs
  clear hs
  go_wp2_with fail
  go_end0
  exact (unhide HS2).of (unhide HB)

set_option maxRecDepth 100000 in
set_option maxHeartbeats 1000000 in
theorem putListD_any {w : World} {p : Addr} {st : St} {own : Nat → Prop} (h : Wr w p st own) (hl : st.1.length ≤ 48000000) (w0 : World) (hb0 : Below w0.heap.size w0 w) (ho0 : ∀ g, own g → w0.heap.size ≤ g)
    (a : Option Addr) (cap : Nat) (ds : List Vc.D) (hd : ds.length ≤ 9223372036854775807) (s : Sl w0 a ds) :
    Calls Tryz.prog 176 #[.pointer (some p), .slice a ds.length cap, .func (.func 96) #[] #[], .func (.func 168) #[] #[]] w (Turned Wr own p w (wVec st ds) (.tuple #[])) := by
  have HW := hide (WS.start h)
  have HB0 := hide hb0
  have S := hide (s.after hb0)
  have S0 := hide s
  have HO0 := hide ho0
  have HL := hide hl
  have KC := hide fun W h => check_any a cap ds hd W h
  obtain ⟨C, hC⟩ : ∃ C, Vc.check ds = C := ⟨_, rfl⟩
  rw [hC] at KC
  clear h s hb0 ho0 hl
  by_cases hc : C = 0
  · subst hc
    have HLEN := hide (Vc.vec_len ((Vc.check_zero ds).1 hC))
    rw [wVec_ok hC]
    obtain ⟨S1, hS1⟩ : ∃ S1, wNumber st ds.length = S1 := ⟨_, rfl⟩
    have HPART : Hid (∀ k, (wDots S1 (ds.take k)).1.length ≤ 48001000) := hide fun k => by
      have h1 := wVec_part st ds k
      rw [hC, fail_zero, hS1] at h1
      have := unhide HL
      omega
    rw [hS1]
    go_enter Tryz.func176, Tryz.ntmps176
    go_wp2_with fail
    refine (unhide KC _ (unhide S)).mono ?_
    rintro e w1 ⟨rfl, hb1⟩
    have HW1 := hide ((unhide HW).after hb1)
    clear hb1
    go_wp2_with fail
    refine ((unhide HW1).call fun own1 hx _ => wnumber_any hx (by have := unhide HL; omega) ds.length).mono ?_
    rw [hS1]
    rintro e w2 ⟨rfl, hs⟩
    have HS := hide hs
    clear hs hS1 hC
    go_wp2_with fail
    go_loopw [25] (fun i wr => ∃ k : Nat, k ≤ ds.length ∧ i = .int .i64 k ∧ WS own p w (wDots S1 (ds.take k)) wr) (fun i _ => ds.length - (intOf i).toNat)
    case atStart => exact ⟨0, Nat.zero_le _, rfl, unhide HS⟩
    case round =>
      obtain ⟨k, hk, rfl, hs⟩ := hrel
      have HR := hide hs
      clear hs
      by_cases hlt : k < ds.length
      · obtain ⟨d, hx⟩ : ∃ d, ds[k]? = some d := ⟨_, List.getElem?_eq_getElem hlt⟩
        have hsl := (unhide S0).after ((unhide HB0).trans ((unhide HR).below (unhide HB0).size (unhide HO0)))
        obtain ⟨g, o, rfl, hg, hcell⟩ := hsl (by omega)
        obtain ⟨x0, x1⟩ := hcell k d hx
        have HST := hide (wDots_snoc S1 ds k d hx)
        clear hcell hx hg
        go_wp2_with (refine store_row (by rfl) 61 _ _ (by rfl) wr.heap.size [.int .i64 d.1, .int .i64 d.2] (by rfl) (by rfl) 61 zero61 (VRow.newAt rfl) 2 size61 rfl rfl (by simp [Value.oneCell']) ?_; intro wz ho hr; have HZ := hide ((below_alloc' (w := wr) (.cells zero61.toArray 61)).trans (ho.below (Nat.le_refl _))); have HZ2 := hide ((unhide HR).after (unhide HZ)); clear x0 x1; have z0 := hr.cell 0 _ rfl; have z1 := hr.cell 1 _ rfl; clear ho hr)
        refine ((unhide HZ2).call fun own1 hx _ => putDot_any hx (by have := unhide HPART k; omega) d.1 d.2).mono ?_
        rintro e w3 ⟨rfl, hs⟩
        have HS3 := hide hs
        clear hs z0 z1
        go_wp2_with fail
        go_roundw
        case rel => exact ⟨k + 1, by omega, by go_num, by rw [unhide HST]; exact unhide HS3⟩
        case measure => simp [intOf]; omega
      · obtain rfl : k = ds.length := by omega
        have HE := unhide HR
        rw [List.take_length] at HE
        have HE2 := hide HE
        clear HE
        go_wp2_with fail
        go_end0
        exact unhide HE2
  · rw [wVec_bad (by rw [hC]; exact hc), hC]
    have hne : (C != 0) = true := bne_iff_ne.2 hc
    go_enter Tryz.func176, Tryz.ntmps176
    go_wp2_with fail
    refine (unhide KC _ (unhide S)).mono ?_
    rintro e w1 ⟨rfl, hb1⟩
    have HW1 := hide ((unhide HW).after hb1)
    clear hb1
    go_wp2_with fail
    refine ((unhide HW1).call fun own1 hx _ => wfail_any hx C).mono ?_
    rintro e w2 ⟨rfl, hs⟩
    have HS := hide hs
    clear hs
    go_wp2_with fail
    go_end0
    exact unhide HS

theorem ws_of {own : Nat → Prop} {p : Addr} {w w' : World} {st : St} {e : Ending} (h : Turned Wr own p w st (.tuple #[]) e w') : e = .returned (.tuple #[]) ∧ WS own p w st w' := by
  obtain rfl : e = .returned (.tuple #[]) := h.choose_spec.1
  exact ⟨rfl, h⟩
set_option maxRecDepth 100000 in
set_option maxHeartbeats 400000 in
theorem putVec_any {w : World} {p : Addr} {st : St} {own : Nat → Prop} (h : Wr w p st own) (hl : st.1.length ≤ 48000000) (w0 : World) (hb0 : Below w0.heap.size w0 w) (ho0 : ∀ g, own g → w0.heap.size ≤ g)
    (a : Option Addr) (cap : Nat) (ds : List Vc.D) (hd : ds.length ≤ 9223372036854775807) (s : Sl w0 a ds) :
    Calls Tryz.prog 169 #[.pointer (some p), .slice a ds.length cap] w (Turned Wr own p w (wVec st ds) (.tuple #[])) := by
  have K := hide (putListD_any h hl w0 hb0 ho0 a cap ds hd s)
  clear h hl s hb0 ho0
  go_enter Tryz.func169, Tryz.ntmps169
  go_wp2_with fail
  refine (unhide K).mono ?_
  intro e w1 hm
  obtain ⟨rfl, hs⟩ := ws_of hm
  have HS := hide hs
  clear hm hs
  go_wp2_with fail
  go_end0
  exact unhide HS

set_option maxRecDepth 100000 in
set_option maxHeartbeats 400000 in
theorem putVersion_any {w : World} {p : Addr} {st : St} {own : Nat → Prop} (h : Wr w p st own) (hl : st.1.length ≤ 47000000) (w0 : World) (hb0 : Below w0.heap.size w0 w) (ho0 : ∀ g, own g → w0.heap.size ≤ g)
    (v : Vc.V) (r : Option Addr) (c : Nat) (hd : v.past.length ≤ 9223372036854775807) (s : Sl w0 r v.past) :
    Calls Tryz.prog 149 #[.pointer (some p), .agg (verL v r c).toArray] w (Turned Wr own p w (wVer st v) (.tuple #[])) := by
  have HB := hide (below_alloc' (w := w) (.cells (verL v r c).toArray 64))
  have HW := hide (WS.start (wr_after h (unhide HB)))
  have R := VRow.new w 64 (verL v r c)
  have HR := hide R
  have HN : Hid (¬ own w.heap.size) := hide fun ho => absurd (wr_lt h _ ho) (by omega)
  have HL := hide hl
  have HL1 := hide (wDot_len st (v.dot.1, v.dot.2))
  have HL2 := hide (wVec_len (wDot st (v.dot.1, v.dot.2)) v.past)
  have HL3 := hide (wFlag_len (wVec (wDot st (v.dot.1, v.dot.2)) v.past) v.dead)
  have HB0 := hide hb0
  have HO0 := hide ho0
  have HW0 := hide (Nat.le_trans hb0.size (unhide HB).size)
  have S := hide s
  have HF : Hid (wText (wFlag (wVec (wDot st (v.dot.1, v.dot.2)) v.past) v.dead) v.data = wVer st v) := hide rfl
  have a0 := R.cell 0 _ rfl
  have a1 := R.cell 1 _ rfl
  clear h R hl s hb0 ho0
  unfold verL at a0 a1 ⊢
  go_enter Tryz.func149, Tryz.ntmps149
  go_wp2_with fail
  refine ((unhide HW).call fun own1 hx _ => putDot_any hx (by have := unhide HL; omega) v.dot.1 v.dot.2).mono ?_
  rintro e w1 ⟨rfl, hs⟩
  have HS1 := hide hs
  have a2 := ((unhide HS1).row (unhide HR) (unhide HN)).cell 2 _ rfl
  clear hs a0 a1
  go_wp2_with fail
  refine ((unhide HS1).call fun own1 hx ho => putVec_any hx (by have := unhide HL; have := unhide HL1; omega) w0 (((unhide HB0).trans ((unhide HB).mono (unhide HB0).size)).trans ((unhide HS1).below (unhide HW0) (unhide HO0)))
    (fun g hg => by rcases ho g hg with h1 | h1; exact unhide HO0 g h1; exact Nat.le_trans (unhide HW0) h1) r c v.past hd (unhide S)).mono ?_
  rintro e w2 ⟨rfl, hs⟩
  have HS2 := hide hs
  have a3 := ((unhide HS2).row (unhide HR) (unhide HN)).cell 3 _ rfl
  clear hs a2
  go_wp2_with fail
  refine ((unhide HS2).call fun own1 hx _ => wflag_any hx (by have := unhide HL; have := unhide HL1; have := unhide HL2; omega) v.dead).mono ?_
  rintro e w3 ⟨rfl, hs⟩
  have HS3 := hide hs
  have a4 := ((unhide HS3).row (unhide HR) (unhide HN)).cell 4 _ rfl
  clear hs a3
  go_wp2_with fail
  refine ((unhide HS3).call fun own1 hx _ => wtext_any hx (by have := unhide HL; have := unhide HL1; have := unhide HL2; have := unhide HL3; omega) v.data).mono ?_
  rw [unhide HF]
  rintro e w4 ⟨rfl, hs⟩
  have HS4 := hide hs
  clear hs a4
  go_wp2_with fail
  go_end0
  exact (unhide HS4).of (unhide HB)

set_option maxRecDepth 100000 in
set_option maxHeartbeats 1000000 in
theorem putListV_any {w : World} {p : Addr} {st : St} {own : Nat → Prop} (h : Wr w p st own) (hl : st.1.length ≤ 40000000) (w0 : World) (hb0 : Below w0.heap.size w0 w) (ho0 : ∀ g, own g → w0.heap.size ≤ g)
    (a : Option Addr) (cap : Nat) (vs : List Vc.V) (hf : Few vs) (s : SV w0 a vs) :
    Calls Tryz.prog 148 #[.pointer (some p), .slice a vs.length cap, .func (.func 35) #[] #[], .func (.func 149) #[] #[]] w (Turned Wr own p w (wLeaf st vs) (.tuple #[])) := by
  have HW := hide (WS.start h)
  have HB0 := hide hb0
  have S := hide (s.after hb0)
  have S0 := hide s
  have HO0 := hide ho0
  have HL := hide hl
  have HF := hide hf
  have hd : vs.length ≤ 100000 := hf.1
  have KC := hide fun W h => checkLeaf_any a cap vs hf W h
  obtain ⟨C, hC⟩ : ∃ C, Vc.checkLeaf vs = C := ⟨_, rfl⟩
  rw [hC] at KC
  clear h s hb0 ho0 hl hf
  by_cases hc : C = 0
  · subst hc
    rw [wLeaf_ok hC]
    obtain ⟨S1, hS1⟩ : ∃ S1, wNumber st vs.length = S1 := ⟨_, rfl⟩
    have HPART : Hid (∀ k, (wVers S1 (vs.take k)).1.length ≤ 44400000) := hide fun k => by
      have h1 := wLeaf_part st vs k
      rw [hC, fail_zero, hS1] at h1
      have := unhide HL
      omega
    rw [hS1]
    go_enter Tryz.func148, Tryz.ntmps148
    go_wp2_with fail
    refine (unhide KC _ (unhide S)).mono ?_
    rintro e w1 ⟨rfl, hb1⟩
    have HW1 := hide ((unhide HW).after hb1)
    clear hb1
    go_wp2_with fail
    refine ((unhide HW1).call fun own1 hx _ => wnumber_any hx (by have := unhide HL; omega) vs.length).mono ?_
    rw [hS1]
    rintro e w2 ⟨rfl, hs⟩
    have HS := hide hs
    clear hs hS1 hC
    go_wp2_with fail
    go_loopw [25] (fun i wr => ∃ k : Nat, k ≤ vs.length ∧ i = .int .i64 k ∧ WS own p w (wVers S1 (vs.take k)) wr) (fun i _ => vs.length - (intOf i).toNat)
    case atStart => exact ⟨0, Nat.zero_le _, rfl, unhide HS⟩
    case round =>
      obtain ⟨k, hk, rfl, hs⟩ := hrel
      have HR := hide hs
      clear hs
      by_cases hlt : k < vs.length
      · obtain ⟨v, hx⟩ : ∃ d, vs[k]? = some d := ⟨_, List.getElem?_eq_getElem hlt⟩
        have hsl := (unhide S0).after ((unhide HB0).trans ((unhide HR).below (unhide HB0).size (unhide HO0)))
        obtain ⟨g, o, rfl, hg, hcell⟩ := hsl (by omega)
        obtain ⟨g0, o0, e0, _, hcell0⟩ := unhide S0 (by omega)
        obtain ⟨q, d, x0, x1, x2, x3, x4, h5, h6⟩ := hcell k v hx
        obtain ⟨q0, d0, _, _, y2, _, _, _, y6⟩ := hcell0 k v hx
        have eq0 : q0 = q := by
          injection e0 with e0
          injection e0 with e1 e2
          subst e1
          subst e2
          have hlt0 : g < w0.heap.size := block_lt_of_cell y2
          have hk0 := ((unhide HB0).trans ((unhide HR).below (unhide HB0).size (unhide HO0))).cell (p := ⟨g, o + k * 5 + 2, none⟩) hlt0
          rw [x2, y2] at hk0
          injection hk0 with hk0
          injection hk0 with hk0
          exact hk0.symm
        subst eq0
        have HST := hide (wVers_snoc S1 vs k v hx)
        have H6 := hide y6
        have HD := hide ((unhide HF).at hx)
        clear hcell hx hg h5 h6 e0 hcell0 y2 y6 hsl
        go_wp2_with (refine store_row (by rfl) 64 _ _ (by rfl) wr.heap.size (verL v q0 d) (by rfl) (by rfl) 64 zero64 (VRow.newAt rfl) 5 size64 rfl rfl (verL_one _ _ _) ?_; intro wz ho hr; have HZ := hide ((below_alloc' (w := wr) (.cells zero64.toArray 64)).trans (ho.below (Nat.le_refl _))); have HZ2 := hide ((unhide HR).after (unhide HZ)); clear x0 x1 x2 x3 x4; have z0 := hr.cell 0 _ rfl; have z1 := hr.cell 1 _ rfl; have z2 := hr.cell 2 _ rfl; have z3 := hr.cell 3 _ rfl; have z4 := hr.cell 4 _ rfl; have HZB := hide ((unhide HB0).trans ((unhide HZ2).below (unhide HB0).size (unhide HO0))); clear ho hr)
        refine ((unhide HZ2).call fun own1 hx ho => putVersion_any hx (by have := unhide HPART k; omega) w0 (unhide HZB) (fun g hg => by rcases ho g hg with h1 | h1; exact unhide HO0 g h1; have := (unhide HB0).size; omega) v q0 d (unhide HD) (unhide H6)).mono ?_
        rintro e w3 ⟨rfl, hs⟩
        have HS3 := hide hs
        clear hs z0 z1 z2 z3 z4
        go_wp2_with fail
        go_roundw
        case rel => exact ⟨k + 1, by omega, by go_num, by rw [unhide HST]; exact unhide HS3⟩
        case measure => simp [intOf]; omega
      · obtain rfl : k = vs.length := by omega
        have HE := unhide HR
        rw [List.take_length] at HE
        have HE2 := hide HE
        clear HE
        go_wp2_with fail
        go_end0
        exact unhide HE2
  · rw [wLeaf_bad (by rw [hC]; exact hc), hC]
    have hne : (C != 0) = true := bne_iff_ne.2 hc
    go_enter Tryz.func148, Tryz.ntmps148
    go_wp2_with fail
    refine (unhide KC _ (unhide S)).mono ?_
    rintro e w1 ⟨rfl, hb1⟩
    have HW1 := hide ((unhide HW).after hb1)
    clear hb1
    go_wp2_with fail
    refine ((unhide HW1).call fun own1 hx _ => wfail_any hx C).mono ?_
    rintro e w2 ⟨rfl, hs⟩
    have HS := hide hs
    clear hs
    go_wp2_with fail
    go_end0
    exact unhide HS

set_option maxRecDepth 100000 in
set_option maxHeartbeats 400000 in
theorem putLeaf_any {w : World} {p : Addr} {st : St} {own : Nat → Prop} (h : Wr w p st own) (hl : st.1.length ≤ 40000000) (w0 : World) (hb0 : Below w0.heap.size w0 w) (ho0 : ∀ g, own g → w0.heap.size ≤ g)
    (a : Option Addr) (cap : Nat) (vs : List Vc.V) (hf : Few vs) (s : SV w0 a vs) :
    Calls Tryz.prog 127 #[.pointer (some p), .slice a vs.length cap] w (Turned Wr own p w (wLeaf st vs) (.tuple #[])) := by
  have K := hide (putListV_any h hl w0 hb0 ho0 a cap vs hf s)
  clear h hl s hb0 ho0 hf
  go_enter Tryz.func127, Tryz.ntmps127
  go_wp2_with fail
  refine (unhide K).mono ?_
  intro e w1 hm
  obtain ⟨rfl, hs⟩ := ws_of hm
  have HS := hide hs
  clear hm hs
  go_wp2_with fail
  go_end0
  exact unhide HS

end Go.Proofs.YtebjlmnhpfoglaaGreatDoor

/-
  A node's bytes: the program's. Conditions: those that each theorem names.
-/

namespace Go.Proofs.YtebjlmnhpfoglaaGreatDoor
open Go.RowKit

theorem wNode_zero {n : Nd} (h : chkN n = 0) : wNode n = wKids (wNumber (wLeaf ([], 0) n.vs) n.ks.length) n.ks := by
  unfold wNode
  rw [h, fail_zero]
/-- How long a node's bytes may be on the way. -/
theorem wKids_part {n : Nd} (hn : Nok n) (h : chkN n = 0) (k : Nat) : (wKids (wNumber (wLeaf ([], 0) n.vs) n.ks.length) (n.ks.take k)).1.length ≤ 10000000 := by
  have h1 := wLeaf_len ([], 0) n.vs
  have h2 := wNumber_len (wLeaf ([], 0) n.vs) n.ks.length
  have h3 := wKids_len (n.ks.take k) (wNumber (wLeaf ([], 0) n.vs) n.ks.length) fun x hx => hn.digs x (List.mem_of_mem_take hx)
  have h4 := (chkN_zero h).2.1
  have h5 : (n.ks.take k).length ≤ n.ks.length := List.length_take_le' _ _
  have h6 : ([] : List UInt8).length = 0 := rfl
  simp only [h6] at h1
  omega

set_option maxRecDepth 100000 in
set_option maxHeartbeats 2000000 in
theorem bytesN_any (a : Option Addr) (c : Nat) (b : Option Addr) (d : Nat) (n : Nd) (hn : Nok n) (w : World) (h : NdAt w n a c b d) :
    Calls Tryz.prog 107 #[.agg (ndL n a c b d).toArray] w fun e w' => e = .returned (.tuple #[.string (str (bytesN n).1), .int .i64 (bytesN n).2]) ∧ Below w.heap.size w w' := by
  have HB0 := hide (below_alloc' (w := w) (.cells (ndL n a c b d).toArray 52))
  have HR0 := hide (VRow.new w 52 (ndL n a c b d))
  have hr0 := unhide HR0
  have HC := hide (checkN_any a c b d n hn (w.alloc (.cells (ndL n a c b d).toArray 52)) (h.after (unhide HB0)))
  have x0 := (unhide HR0).cell 0 _ rfl
  have x1 := (unhide HR0).cell 1 _ rfl
  have HH := hide h
  have HN := hide hn
  obtain ⟨E, hE⟩ : ∃ E, chkN n = E := ⟨_, rfl⟩
  rw [hE] at HC
  have HE := hide hE
  obtain ⟨X, hX⟩ : ∃ X, bytesN n = X := ⟨_, rfl⟩
  rw [hX]
  have HX := hide hX
  have HLT : Hid (w.heap.size < (w.alloc (.cells (ndL n a c b d).toArray 52)).heap.size) := hide (by simp)
  clear h hn hr0
  unfold ndL at HB0 HR0 HC x0 x1 HLT ⊢
  clear hE hX
  go_enter Tryz.func107, Tryz.ntmps107
  go_wp2_with fail
  refine (unhide HC).mono ?_
  rintro e w1 ⟨rfl, hb⟩
  have HB1 := hide (below_grow (unhide HB0) (Nat.le_refl _) hb)
  have HR1 := hide ((unhide HR0).after hb)
  have HLT1 : Hid (w.heap.size < w1.heap.size) := hide (Nat.lt_of_lt_of_le (unhide HLT) hb.size)
  clear hb x0 x1 HC
  by_cases hE : E = 0
  · subst hE
    have HBN : Hid (X = (told (wKids (wNumber (wLeaf ([], 0) n.vs) n.ks.length) n.ks), (wKids (wNumber (wLeaf ([], 0) n.vs) n.ks.length) n.ks).2)) := hide (by
      rw [← unhide HX]
      unfold bytesN
      rw [wNode_zero (unhide HE)])
    have HPART := hide (wKids_part (unhide HN) (unhide HE))
    have HL1 := hide (wLeaf_len ([], 0) n.vs)
    obtain ⟨own, hw, ho⟩ := wr_zero w1
    have HBA := hide (below_grow (unhide HB1) (Nat.le_refl _) (below_alloc' (w := w1) (.cells zeroW 151)))
    have HRA := hide ((unhide HR1).alloc (.cells zeroW 151))
    have HNO : Hid (¬ own w.heap.size) := hide fun hg => by have := ho _ hg; have := unhide HLT1; omega
    have HOW : Hid (∀ g, own g → w.heap.size ≤ g) := hide fun g hg => by have := ho g hg; have := unhide HLT1; omega
    have HWS := hide (WS.start hw)
    have y0 := (unhide HRA).cell 0 _ rfl
    clear hw ho
    go_wp2_with fail
    generalize w1.alloc (.cells _ 151) = wa at HBA HRA HWS y0 ⊢
    obtain ⟨WI, hWI⟩ : ∃ WI : Nat, w1.heap.size = WI := ⟨_, rfl⟩
    rw [hWI]
    rw [hWI] at HWS
    refine ((unhide HWS).call fun own1 hx ho1 => putLeaf_any hx (by simp) w (unhide HBA) (fun g hg => by rcases ho1 g hg with h1 | h1; exact unhide HOW g h1; have := (unhide HBA).size; omega) a c n.vs (unhide HN).few (unhide HH).sv).mono ?_
    rintro e w2 ⟨rfl, hs⟩
    have HS2 := hide hs
    have y1 := ((unhide HS2).row (unhide HRA) (unhide HNO)).cell 1 _ rfl
    clear hs y0
    go_wp2_with fail
    refine ((unhide HS2).call fun own1 hx _ => wnumber_any hx (by have := unhide HL1; have e0 : ([] : List UInt8).length = 0 := rfl; simp only [e0] at this; omega) n.ks.length).mono ?_
    obtain ⟨S1, hS1⟩ : ∃ S1, wNumber (wLeaf ([], 0) n.vs) n.ks.length = S1 := ⟨_, rfl⟩
    rw [hS1] at HBN HPART ⊢
    rintro e w3 ⟨rfl, hs⟩
    have HS3 := hide hs
    have z1 := ((unhide HS3).row (unhide HRA) (unhide HNO)).cell 1 _ rfl
    clear hs y1 hS1
    have hks := (unhide HN).kids
    go_wp2_with fail
    go_loopw [23] (fun i wr => ∃ k : Nat, k ≤ n.ks.length ∧ i = .int .i64 k ∧ WS own ⟨WI, 0, none⟩ wa (wKids S1 (n.ks.take k)) wr) (fun i _ => n.ks.length - (intOf i).toNat)
    case atStart => exact ⟨0, Nat.zero_le _, rfl, unhide HS3⟩
    case round =>
      obtain ⟨k, hk, rfl, hs⟩ := hrel
      have HR := hide hs
      clear hs z1
      by_cases hlt : k < n.ks.length
      · obtain ⟨x, hx⟩ : ∃ x, n.ks[k]? = some x := ⟨_, List.getElem?_eq_getElem hlt⟩
        have hm := List.mem_of_getElem? hx
        have HDX := hide ((unhide HN).digs x hm)
        have HLEN := hide (kL_len (unhide HDX))
        obtain ⟨g, o, rfl, hg, hc⟩ := ((unhide HH).sk.after ((unhide HBA).trans ((unhide HR).below (unhide HBA).size (unhide HOW)))) (by omega)
        have HC := hide (hc k x hx)
        have HST := hide (wKids_snoc S1 n.ks k x hx)
        have HPK := hide (unhide HPART k)
        have HTL := hide (wText_len (wKids S1 (n.ks.take k)) x.1).1
        obtain ⟨own9, _, hx9, ho9, _⟩ := unhide HR
        have HNK : Hid (¬ own9 wr.heap.size) := hide fun hg => absurd (wr_lt hx9 _ hg) (Nat.lt_irrefl _)
        have HX9 := hide hx9
        have HO9 := hide ho9
        clear hm hc hx hg hx9 ho9
        generalize wKids S1 (n.ks.take k) = st at HR HST HPK HTL HX9
        go_wp2_with (first
          | (refine load_kid (by rfl) (.tmp 25) (by rfl) g (o + k * 33) (by rfl) x (unhide HC) (unhide HDX) ?_)
          | (refine store_row (by rfl) 86 (.tmp 7) (.tmp 26) (by rfl) wr.heap.size (kL x) (by rfl) (by rfl) 86 (kL zeroK) (VRow.newAt rfl) 33 sizeK (unhide HLEN) rfl (kL_one x) ?_; intro w4 ho4 hr4; have HB4 := hide ((below_alloc' (w := wr) (.cells (kL zeroK).toArray 86)).trans (ho4.below (Nat.le_refl _))); have HS4 := hide (WS.start (wr_after (unhide HX9) (unhide HB4))); have HE4 := hide ((unhide HR).after (unhide HB4)).beside; have HR4 := hide hr4; have v0 := hr4.cell 0 _ rfl; clear ho4 hr4))
        refine ((unhide HS4).call fun own1 hx _ => wtext_any hx (by have := unhide HPK; omega) x.1).mono ?_
        rintro e w5 ⟨rfl, hs⟩
        have HS5 := hide hs
        have HRD := hide (range_dig (k := x) ((unhide HS5).row (unhide HR4) (unhide HNK)).range)
        rw [Nat.zero_add] at HRD
        clear hs v0
        go_wp2_with (first
          | (refine load_dig (by rfl) (.tmp 30) (by rfl) wr.heap.size 1 (by rfl) x.2 (unhide HRD) (unhide HDX) ?_))
        refine ((unhide HS5).call fun own1 hx _ => wdigest_any hx (by have := unhide HPK; have := unhide HTL; omega) x.2 (unhide HDX)).mono ?_
        rintro e w6 ⟨rfl, hs⟩
        have HS6 := hide hs
        clear hs
        go_wp2_with fail
        go_roundw
        case rel => exact ⟨k + 1, by omega, by go_num, by rw [unhide HST]; exact turned_trans (unhide HO9) (unhide HE4) (unhide HS6)⟩
        case measure => simp [intOf]; omega
      · obtain rfl : k = n.ks.length := by omega
        have HE2 := unhide HR
        rw [List.take_length] at HE2
        have HR2 := hide HE2
        clear HE2
        go_wp2_with fail
        obtain ⟨own9, _, hx9, _, _⟩ := unhide HR2
        refine (wdone_any hx9).mono ?_
        rintro e w5 ⟨rfl, hb⟩
        have HB5 := hide (below_grow ((unhide HBA).trans ((unhide HR2).below (unhide HBA).size (unhide HOW))) (by have := (unhide HBA).size; have := (unhide HR2).beside.size; omega) hb)
        clear hb hx9
        go_wp2_with fail
        go_ret2
        exact ⟨by rw [unhide HBN]; rfl, unhide HB5⟩
  · have HBN : Hid (X = ([], E)) := hide (by rw [← unhide HX, bytes_bad (n := n) (by rw [unhide HE]; exact hE), unhide HE])
    have hne : (E != 0) = true := bne_iff_ne.2 hE
    go_wp2_with fail
    go_ret2
    exact ⟨by rw [unhide HBN]; rfl, unhide HB1⟩
end Go.Proofs.YtebjlmnhpfoglaaGreatDoor
