/-
  The program's Writer: what it owns, and what its own functions do to it. Conditions: those that each theorem names.
-/
import Derived.Test.YthchcjjpplcfnaaDoorCRow
import Derived.Lib.AppendStr
namespace Go.Proofs.YthchcjjpplcfnaaDoor
open Go.RowKit

/-- A Writer in its block, and the bytes that it holds in a row of its own. -/
structure WrAt (w : World) (q : Nat) (v : Value) (bs : List UInt8) (e : Int) : Prop where
  row : VRow w q 40 [v, .int .i64 e]
  own : w.ownsRow 0 5 1 v bs.length (bs.map byteVal)
  ne : v.ownBlock ≠ some q
def Wr (w : World) (p : Addr) (st : St) (own : Nat → Prop) : Prop :=
  ∃ q v bs, p = ⟨q, 0, none⟩ ∧ WrAt w q v bs st.2 ∧ (st.2 = 0 → bs = st.1) ∧ ∀ g, own g ↔ (g = q ∨ v.ownBlock = some g)

theorem own_keep {w w' : World} {v : Value} {n : Nat} {xs : List Value} (h : w.ownsRow 0 5 1 v n xs) (hk : ∀ g, v.ownBlock = some g → w'.heap[g]? = w.heap[g]?) : w'.ownsRow 0 5 1 v n xs := by
  refine ⟨h.1, ?_⟩
  rcases h.2 with h1 | ⟨g, cap, cur, rfl, hb, hg, h2⟩
  · exact .inl h1
  · exact .inr ⟨g, cap, cur, rfl, hb, (hk g rfl).trans hg, h2⟩
theorem own_zero {w : World} {base : Nat} {v : Value} {n : Nat} {xs : List Value} (h : w.ownsRow base 5 1 v n xs) : w.ownsRow 0 5 1 v n xs := by
  refine ⟨h.1, ?_⟩
  rcases h.2 with h1 | ⟨g, cap, cur, rfl, hb, hg, h2⟩
  · exact .inl h1
  · exact .inr ⟨g, cap, cur, rfl, Nat.zero_le _, hg, h2⟩
theorem WrAt.keep {w w' : World} {q : Nat} {v : Value} {bs : List UInt8} {e : Int} (h : WrAt w q v bs e) (hq : w'.heap[q]? = w.heap[q]?) (hk : ∀ g, v.ownBlock = some g → w'.heap[g]? = w.heap[g]?) : WrAt w' q v bs e :=
  ⟨hq.trans h.row, own_keep h.own hk, h.ne⟩
theorem WrAt.lt {w : World} {q : Nat} {v : Value} {bs : List UInt8} {e : Int} (h : WrAt w q v bs e) : ∀ g, g = q ∨ v.ownBlock = some g → g < w.heap.size := by
  rintro g (rfl | hg)
  · exact h.row.lt
  · exact (h.own.lt g hg).2
theorem WrAt.after {w w' : World} {q : Nat} {v : Value} {bs : List UInt8} {e : Int} (h : WrAt w q v bs e) (hb : Below w.heap.size w w') : WrAt w' q v bs e :=
  h.keep (hb.block q h.row.lt) fun g hg => hb.block g (h.lt g (.inr hg))
theorem wr_lt {w : World} {p : Addr} {st : St} {own : Nat → Prop} (h : Wr w p st own) : ∀ g, own g → g < w.heap.size := by
  obtain ⟨q, v, bs, rfl, h1, _, ho⟩ := h
  exact fun g hg => h1.lt g ((ho g).1 hg)
theorem wr_keep {w w' : World} {p : Addr} {st : St} {own : Nat → Prop} (h : Wr w p st own) (_ : w.heap.size ≤ w'.heap.size) (hk : ∀ g, own g → w'.heap[g]? = w.heap[g]?) : Wr w' p st own := by
  obtain ⟨q, v, bs, rfl, h1, h2, ho⟩ := h
  exact ⟨q, v, bs, rfl, h1.keep (hk q ((ho q).2 (.inl rfl))) fun g hg => hk g ((ho g).2 (.inr hg)), h2, ho⟩
theorem wr_after {w w' : World} {p : Addr} {st : St} {own : Nat → Prop} (h : Wr w p st own) (hb : Below w.heap.size w w') : Wr w' p st own := wr_keep h hb.size fun g hg => hb.block g (wr_lt h g hg)
theorem wr_zero (w : World) : ∃ own : Nat → Prop, Wr (w.alloc (.cells zeroW 40)) ⟨w.heap.size, 0, none⟩ ([], 0) own ∧ ∀ g, own g → w.heap.size ≤ g := by
  refine ⟨fun g => g = w.heap.size, ⟨w.heap.size, .slice none 0 0, [], rfl, ⟨VRow.new w 40 [.slice none 0 0, .int .i64 0], World.ownsRow_nil _ _ _ _, by simp [Value.ownBlock]⟩, fun _ => rfl, fun g => by simp [Value.ownBlock]⟩, fun g hg => Nat.le_of_eq hg.symm⟩
theorem turned_refl {X : World → Addr → St → (Nat → Prop) → Prop} {own : Nat → Prop} {p : Addr} {w w' : World} {st : St} {v : Value} (h : X w' p st own) (hb : Below w.heap.size w w') : Turned X own p w st v (.returned v) w' :=
  ⟨own, rfl, h, fun _ h => .inl h, beside_of hb⟩
theorem turned_of {X : World → Addr → St → (Nat → Prop) → Prop} {own : Nat → Prop} {p : Addr} {w w1 w' : World} {st : St} {v : Value} {e : Ending} (hb : Below w.heap.size w w1) (h : Turned X own p w1 st v e w') : Turned X own p w st v e w' := by
  obtain ⟨own', he, hx, ho, hbs⟩ := h
  exact ⟨own', he, hx, fun g hg => (ho g hg).imp_right fun h => Nat.le_trans hb.size h, (beside_of hb).trans hbs⟩
theorem beside_mono {own own' : Nat → Prop} {w w1 w' : World} (h : Beside own w w1) (ho : ∀ g, own' g → own g ∨ w.heap.size ≤ g) (h2 : Beside own' w1 w') : Beside own w w' :=
  ⟨h2.os.trans h.os, h2.tape.trans h.tape, h2.output.trans h.output, Nat.le_trans h.size h2.size, fun k hk hk2 => (h2.block k (Nat.lt_of_lt_of_le hk h.size) (fun hk3 => by rcases ho k hk3 with h3 | h3; exact hk2 h3; omega)).trans (h.block k hk hk2)⟩
theorem turned_trans {X : World → Addr → St → (Nat → Prop) → Prop} {own own1 : Nat → Prop} {p : Addr} {w w1 w' : World} {st : St} {v : Value} {e : Ending} (ho : ∀ g, own1 g → own g ∨ w.heap.size ≤ g) (hb : Beside own w w1) (h : Turned X own1 p w1 st v e w') : Turned X own p w st v e w' := by
  obtain ⟨own', he, hx, ho2, hbs⟩ := h
  refine ⟨own', he, hx, fun g hg => ?_, beside_mono hb ho hbs⟩
  rcases ho2 g hg with h1 | h1
  · exact ho g h1
  · exact .inr (Nat.le_trans hb.size h1)

/-- 'append(b, s...)', b a row of one's own: it stays where it lies, or lies anew. -/
theorem append_str (w : World) (ty : TypeId) (v : Value) (bs : List UInt8) (s : ByteArray) (hown : w.ownsRow 0 5 1 v bs.length (bs.map byteVal)) (hl : bs.length + s.size ≤ 100000000) :
    ∃ a n c w', (Builtin.append_ #[38, 9] ty #[v, .string s]).run Tryd.prog w = .ok (.slice a n c) w' ∧ w'.ownsRow 0 5 1 (.slice a n c) (bs ++ s.data.toList).length ((bs ++ s.data.toList).map byteVal) ∧ w.grownBy w' v.ownBlock ∧
      ∀ g, (Value.slice a n c).ownBlock = some g → v.ownBlock = some g ∨ w.heap.size ≤ g := by
  obtain ⟨i0, hi, hz0, hz1, hz2⟩ := info_parts info5
  have h63 : bs.length + s.size ≤ maxLen := by unfold maxLen; omega
  have e1 : bs.map byteVal ++ Go.Lib.strCells s = (bs ++ s.data.toList).map byteVal := by rw [List.map_append]; rfl
  have e2 : bs.length + s.size = (bs ++ s.data.toList).length := by rw [List.length_append, size_data]
  have form : ∀ {W : World} {base : Nat} {u : Value} {n : Nat} {xs : List Value}, W.ownsRow base 5 1 u n xs → ∃ a n c, u = .slice a n c := by
    intro W base u n xs h
    rcases h.2 with ⟨rfl, _⟩ | ⟨g, cap, cur, rfl, _⟩
    · exact ⟨_, _, _, rfl⟩
    · exact ⟨_, _, _, rfl⟩
  rcases hown.2 with ⟨rfl, h0⟩ | ⟨g, cap, cur, rfl, hbg, hg, hnc, hcm, hcs, htake⟩
  · obtain ⟨v', w', hr, hw, hgr, _⟩ := Go.Lib.run_append_own_string (P := Tryd.prog) w w.heap.size 38 9 ty 5 i0 Tryd.underlying38 Tryd.underlying9 hi hz0 hz1 hz2 (.slice none 0 0) bs.length (bs.map byteVal) ⟨hown.1, .inl ⟨rfl, h0⟩⟩ s h63 (by omega) (Nat.le_refl _)
    rw [e1, e2] at hw
    obtain ⟨a, n, c, rfl⟩ := form hw
    exact ⟨a, n, c, w', hr, own_zero hw, hgr, fun g hg => .inr (hw.lt g hg).1⟩
  · obtain ⟨v', w', hr, hw, hgr, _⟩ := Go.Lib.run_append_own_string (P := Tryd.prog) w 0 38 9 ty 5 i0 Tryd.underlying38 Tryd.underlying9 hi hz0 hz1 hz2 _ bs.length (bs.map byteVal) hown s h63 (by omega) (Nat.zero_le _)
    rw [e1, e2] at hw
    obtain ⟨a, n, c, rfl⟩ := form hw
    refine ⟨a, n, c, w', hr, hw, hgr, fun k hk => ?_⟩
    have hcs' : cur.size = cap := by simpa using hcs
    by_cases hroom : bs.length + s.size ≤ cap
    · have h2 := Go.Lib.run_append_room_string (P := Tryd.prog) w 38 9 ty 5 i0 Tryd.underlying38 Tryd.underlying9 hi hz1 g bs.length cap cur hg s hroom (by omega)
      rw [hr] at h2
      injection h2 with h3 h4
      rw [h3] at hk
      exact .inl hk
    · have h2 := Go.Lib.run_append_grow_string (P := Tryd.prog) w 38 9 ty 5 i0 (.int .u8 0) Tryd.underlying38 Tryd.underlying9 hi hz0 ⟨g, 0, none⟩ bs.length cap (bs.map byteVal) (by rw [hz1]; simp) (hown.cells (g := g) rfl) s (by omega) (by omega) (by rw [hz2]; exact growslice_fits (by omega) (by omega))
      rw [hr] at h2
      injection h2 with h3 h4
      rw [h3] at hk
      injection hk with hk
      exact .inr (Nat.le_of_eq hk)

theorem step_append {ops : Array Oper} {rest : List Oper} {o : Oper} {a : Act} {w : World} {Q : Exit → Act → World → Prop} (hgd : o.guard = none) (sl x : Operand)
    (ho : o.op = .call { callee := .builtin .append, args := #[sl, x], argTypes := #[38, 9] })
    (v : Value) (bs : List UInt8) (s : ByteArray) (hs : a.eval sl = v) (hx : a.eval x = .string s) (hown : w.ownsRow 0 5 1 v bs.length (bs.map byteVal)) (hl : bs.length + s.size ≤ 100000000)
    (h : ∀ b n c w', w'.ownsRow 0 5 1 (.slice b n c) (bs ++ s.data.toList).length ((bs ++ s.data.toList).map byteVal) → w.grownBy w' v.ownBlock → (∀ g, (Value.slice b n c).ownBlock = some g → v.ownBlock = some g ∨ w.heap.size ≤ g) → wpList Tryd.prog ops Q rest (a.put o.dst (.slice b n c)) w') :
    wpList Tryd.prog ops Q (o :: rest) a w := by
  refine wpList_plain hgd fun K hK => ?_
  obtain ⟨b, n, c, w', hr, h2, h3, h4⟩ := append_str w o.type v bs s hown hl
  unfold Oper.wp execOp
  simp only [ho, resolve, invoke, builtin, Sem.run_bind, Sem.run_pure, Result.andThen_ok, List.map_toArray, List.map_cons, List.map_nil, hs, hx, hr]
  exact hK _ _ (h b n c w' h2 h3 h4)

set_option maxRecDepth 100000 in
theorem wrong_any (q : Nat) (e : Int) (w : World) (c1 : w.cell? ⟨q, 1, none⟩ = some (.int .i64 e)) :
    Calls Tryd.prog 41 #[.pointer (some ⟨q, 0, none⟩)] w fun x w' => x = .returned (.int .i64 e) ∧ w' = w := by
  go_enter Tryd.func41, Tryd.ntmps41
  go_wp2_with fail
  go_ret
  exact ⟨rfl, rfl⟩
set_option maxRecDepth 100000 in
theorem wrong_nil (w : World) : Calls Tryd.prog 41 #[.pointer none] w fun x w' => x = .returned (.int .i64 13) ∧ w' = w := by
  go_enter Tryd.func41, Tryd.ntmps41
  go_wp2_with fail
  go_ret
  exact ⟨rfl, rfl⟩

set_option maxRecDepth 100000 in
set_option maxHeartbeats 400000 in
theorem add_any {w : World} {p : Addr} {st : St} {own : Nat → Prop} (h : Wr w p st own) (s : ByteArray) (hl : st.1.length + s.size ≤ 100000000) :
    Calls Tryd.prog 39 #[.pointer (some p), .string s] w (Turned Wr own p w (wput st true s.data.toList) (.tuple #[])) := by
  have HW := hide h
  obtain ⟨b, e⟩ := st
  obtain ⟨q, v, bs, rfl, h1, h2, ho⟩ := h
  dsimp only at h1 h2 hl
  have c0 := h1.row.cell 0 v rfl
  have c1 := h1.row.cell 1 _ rfl
  have K := hide (wrong_any q e w c1)
  have HA := hide h1
  clear h1
  by_cases he : e = 0
  · subst he
    obtain rfl := h2 rfl
    rw [show wput (bs, 0) true s.data.toList = (bs ++ s.data.toList, 0) from rfl]
    have HL := hide hl
    clear hl h2
    go_enter Tryd.func39, Tryd.ntmps39
    go_wp2_with (first
      | (go_at_call 41; refine (unhide K).mono ?_; rintro x w1 ⟨rfl, rfl⟩)
      | (at_builtin; refine step_append rfl _ _ rfl v bs s rfl rfl (unhide HA).own (unhide HL) ?_; intro a n c w1 hown hgr hat; have HO := hide hown; have HG := hide hgr; have HT := hide hat; have r1 := ((unhide HG).block q (unhide HA).row.lt (fun h => (unhide HA).ne h.symm)).trans (unhide HA).row; have f0 := VRow.frozen r1 0; have d0 := VRow.cell r1 0 v rfl; have HR := hide r1; clear r1 hown hgr hat))
    go_end0
    have hq := (unhide HA).row.lt
    have hne : (Value.slice a n c).ownBlock ≠ some q := fun h => by
      rcases unhide HT q h with h1 | h1
      · exact (unhide HA).ne h1
      · omega
    refine ⟨fun g => g = q ∨ (Value.slice a n c).ownBlock = some g, rfl, ⟨q, _, _, rfl, ⟨VRow.set (unhide HR) 0 _, own_keep (unhide HO) fun g hg => heap_setCell_other _ ⟨q, 0, none⟩ g _ (fun h => hne (hg.trans (congrArg some h))), hne⟩, fun _ => rfl, fun g => Iff.rfl⟩, ?_, ?_⟩
    · rintro g (rfl | hg)
      · exact .inl ((ho _).2 (.inl rfl))
      · exact (unhide HT g hg).imp_left fun h => (ho g).2 (.inr h)
    · have G := unhide HG
      refine ⟨G.os, G.tape, G.output, by simpa using G.size, fun k hk hk2 => ?_⟩
      rw [heap_setCell_other _ ⟨q, 0, none⟩ k _ (fun h => hk2 ((ho k).2 (.inl h)))]
      exact G.block k hk (fun h => hk2 ((ho k).2 (.inr h.symm)))
  · rw [show wput (b, e) true s.data.toList = (b, e) from if_pos he]
    have hne : (e == 0) = false := by simp [he]
    clear h2
    go_enter Tryd.func39, Tryd.ntmps39
    go_wp2_with (go_at_call 41; refine (unhide K).mono ?_; rintro x w1 ⟨rfl, rfl⟩)
    go_end0
    exact turned_refl (unhide HW) (Below.refl _ _)
end Go.Proofs.YthchcjjpplcfnaaDoor

namespace Go.Proofs.YthchcjjpplcfnaaDoor
open Go.RowKit

set_option maxRecDepth 100000 in
set_option maxHeartbeats 400000 in
theorem wfail_any {w : World} {p : Addr} {st : St} {own : Nat → Prop} (h : Wr w p st own) (x : Int) :
    Calls Tryd.prog 38 #[.pointer (some p), .int .i64 x] w (Turned Wr own p w (fail st x) (.tuple #[])) := by
  have HW := hide h
  obtain ⟨b, e⟩ := st
  obtain ⟨q, v, bs, rfl, h1, h2, ho⟩ := h
  dsimp only at h1 h2
  have c0 := h1.row.cell 0 v rfl
  have c1 := h1.row.cell 1 _ rfl
  have f0 := h1.row.frozen 0
  have f1 := h1.row.frozen 1
  have K := hide (wrong_any q e w c1)
  have HA := hide h1
  clear h1 h2
  by_cases he : e = 0
  · subst he
    rw [show fail (b, 0) x = (b, x) from rfl]
    by_cases hx : x = 0
    · subst hx
      go_enter Tryd.func38, Tryd.ntmps38
      go_wp2_with (go_at_call 41; refine (unhide K).mono ?_; rintro y w1 ⟨rfl, rfl⟩)
      go_end0
      exact turned_refl (unhide HW) (Below.refl _ _)
    · have hne : (x == 0) = false := by simp [hx]
      go_enter Tryd.func38, Tryd.ntmps38
      go_wp2_with (go_at_call 41; refine (unhide K).mono ?_; rintro y w1 ⟨rfl, rfl⟩)
      go_end0
      refine ⟨fun g => g = q, rfl, ⟨q, .slice none 0 0, [], rfl, ⟨((unhide HA).row.set 1 _).set 0 _, World.ownsRow_nil _ _ _ _, by simp [Value.ownBlock]⟩, fun h => absurd h hx, fun g => by simp [Value.ownBlock]⟩, fun g hg => .inl ((ho g).2 (.inl hg)), ?_⟩
      refine ⟨rfl, rfl, rfl, by simp, fun k hk hk2 => ?_⟩
      have hkq : k ≠ q := fun h => hk2 ((ho k).2 (.inl h))
      rw [heap_setCell_other _ ⟨q, 0, none⟩ k _ hkq, heap_setCell_other _ ⟨q, 1, none⟩ k _ hkq]
  · rw [show fail (b, e) x = (b, e) from if_neg he]
    have hne : (e != 0) = true := by simp [he]
    go_enter Tryd.func38, Tryd.ntmps38
    go_wp2_with (go_at_call 41; refine (unhide K).mono ?_; rintro y w1 ⟨rfl, rfl⟩)
    go_end0
    exact turned_refl (unhide HW) (Below.refl _ _)

set_option maxRecDepth 100000 in
set_option maxHeartbeats 400000 in
theorem wnumber_any {w : World} {p : Addr} {st : St} {own : Nat → Prop} (h : Wr w p st own) (hl : st.1.length ≤ 50000000) (n : Int) :
    Calls Tryd.prog 15 #[.pointer (some p), .int .i64 n] w (Turned Wr own p w (wNumber st n) (.tuple #[])) := by
  have KF := hide (wfail_any h 2)
  have hf : fail st 2 = wput st false (Cnt.putL n) := by unfold fail wput; by_cases he : st.2 = 0 <;> simp [he]
  rw [hf] at KF
  have KP := hide (Put_any n w)
  rw [show (⟨(Cnt.putL n).toArray⟩ : ByteArray) = str (Cnt.putL n) from rfl] at KP
  have KA := hide fun w' (hb : Below w.heap.size w w') => add_any (wr_after h hb) (str (Cnt.putL n)) (by rw [str_size]; have := Cnt.putL_len n; omega)
  rw [str_data] at KA
  unfold wNumber
  clear h hf
  generalize Cnt.putL n = P at KP KF KA ⊢
  by_cases h0 : 0 ≤ n
  · have h0' : ¬ n < 0 := by omega
    rw [decide_eq_true h0, Bool.true_and]
    by_cases h1 : n ≤ 1073741824
    · have h1' : ¬ 1073741824 < n := by omega
      rw [decide_eq_true h1]
      go_enter Tryd.func15, Tryd.ntmps15
      go_wp2_with (first
        | (go_at_call 40; refine (unhide KP).mono ?_; rintro e w1 ⟨rfl, hb⟩; have HB := hide hb; clear hb)
        | (go_at_call 39; refine (unhide KA _ (unhide HB)).mono ?_; intro e w2 hm; have HM := hide (turned_of (unhide HB) hm); clear hm; obtain rfl : e = .returned (.tuple #[]) := (unhide HM).choose_spec.1))
      go_end0
      exact unhide HM
    · have h1' : 1073741824 < n := by omega
      rw [decide_eq_false h1]
      go_enter Tryd.func15, Tryd.ntmps15
      go_wp2_with (go_at_call 38; refine (unhide KF).mono ?_; intro e w2 hm; have HM := hide hm; clear hm; obtain rfl : e = .returned (.tuple #[]) := (unhide HM).choose_spec.1)
      go_end0
      exact unhide HM
  · rw [decide_eq_false h0, Bool.false_and]
    have h0' : n < 0 := by omega
    go_enter Tryd.func15, Tryd.ntmps15
    go_wp2_with (go_at_call 38; refine (unhide KF).mono ?_; intro e w2 hm; have HM := hide hm; clear hm; obtain rfl : e = .returned (.tuple #[]) := (unhide HM).choose_spec.1)
    go_end0
    exact unhide HM

theorem text_is (st : St) (s : ByteArray) (hs : s.size ≤ 65536) : wText st s = wput (wNumber st s.size) true s.data.toList := by
  have h1 : (decide (0 ≤ (s.size : Int)) && decide ((s.size : Int) ≤ 1073741824)) = true := by simp; omega
  unfold wText wNumber
  rw [h1, decide_eq_true hs]
  unfold wput
  by_cases he : st.2 = 0 <;> simp [he]

set_option maxRecDepth 100000 in
set_option maxHeartbeats 400000 in
theorem wtext_any {w : World} {p : Addr} {st : St} {own : Nat → Prop} (h : Wr w p st own) (hl : st.1.length ≤ 50000000) (s : ByteArray) :
    Calls Tryd.prog 16 #[.pointer (some p), .string s] w (Turned Wr own p w (wText st s) (.tuple #[])) := by
  by_cases hs : s.size ≤ 65536
  · rw [text_is st s hs]
    have hs' : ¬ 65536 < (s.size : Int) := by omega
    have KN := hide (wnumber_any h hl s.size)
    have hl2 : (wNumber st s.size).1.length + s.size ≤ 100000000 := by
      have h1 := wput_len st (decide (0 ≤ (s.size : Int)) && decide ((s.size : Int) ≤ 1073741824)) (Cnt.putL s.size)
      have h2 := Cnt.putL_len s.size
      have h3 : (wNumber st s.size).1.length ≤ st.1.length + 5 := by
        unfold wNumber
        refine Nat.le_trans h1 ?_
        split <;> omega
      omega
    have HL := hide hl2
    clear hl2 h
    generalize wNumber st s.size = S at KN HL ⊢
    go_enter Tryd.func16, Tryd.ntmps16
    go_wp2_with (first
      | (go_at_call 15; refine (unhide KN).mono ?_; rintro e w1 ⟨own1, rfl, hx, ho1, hb1⟩; have HX := hide hx; have HO := hide ho1; have HB := hide hb1; clear hx ho1 hb1)
      | (go_at_call 39; refine (add_any (unhide HX) s (unhide HL)).mono ?_; intro e w2 hm; have HM := hide (turned_trans (unhide HO) (unhide HB) hm); clear hm; obtain rfl : e = .returned (.tuple #[]) := (unhide HM).choose_spec.1))
    go_end0
    exact unhide HM
  · have hs' : 65536 < (s.size : Int) := by omega
    have KF := hide (wfail_any h 2)
    have hf : fail st 2 = wText st s := by unfold fail wText wput; by_cases he : st.2 = 0 <;> simp [he, hs]
    rw [hf] at KF
    go_enter Tryd.func16, Tryd.ntmps16
    go_wp2_with (go_at_call 38; refine (unhide KF).mono ?_; intro e w2 hm; have HM := hide hm; clear hm; obtain rfl : e = .returned (.tuple #[]) := (unhide HM).choose_spec.1)
    go_end0
    exact unhide HM

set_option maxRecDepth 100000 in
set_option maxHeartbeats 400000 in
theorem wflag_any {w : World} {p : Addr} {st : St} {own : Nat → Prop} (h : Wr w p st own) (hl : st.1.length ≤ 50000000) (is : Bool) :
    Calls Tryd.prog 61 #[.pointer (some p), .bool is] w (Turned Wr own p w (wFlag st is) (.tuple #[])) := by
  have h1 : (⟨#[1]⟩ : ByteArray).size = 1 := rfl
  have h0 : (⟨#[0]⟩ : ByteArray).size = 1 := rfl
  cases is with
  | true =>
    have KA := hide (add_any h ⟨#[1]⟩ (by omega))
    rw [show wput st true (⟨#[1]⟩ : ByteArray).data.toList = wFlag st true from rfl] at KA
    go_enter Tryd.func61, Tryd.ntmps61
    go_wp2_with (go_at_call 39; refine (unhide KA).mono ?_; intro e w2 hm; have HM := hide hm; clear hm; obtain rfl : e = .returned (.tuple #[]) := (unhide HM).choose_spec.1)
    go_end0
    exact unhide HM
  | false =>
    have KA := hide (add_any h ⟨#[0]⟩ (by omega))
    rw [show wput st true (⟨#[0]⟩ : ByteArray).data.toList = wFlag st false from rfl] at KA
    go_enter Tryd.func61, Tryd.ntmps61
    go_wp2_with (go_at_call 39; refine (unhide KA).mono ?_; intro e w2 hm; have HM := hide hm; clear hm; obtain rfl : e = .returned (.tuple #[]) := (unhide HM).choose_spec.1)
    go_end0
    exact unhide HM

/-- 'd[:]', d an array of 32 bytes. -/
theorem slice_dig (g : Nat) (w : World) : (Instr.sliceAt 33 (.pointer (some ⟨g, 0, none⟩)) none none none).run Tryd.prog w = .ok (.slice (some ⟨g, 0, none⟩) 32 32) w := by
  have hal : Tryd.prog.arrayLen 33 = 32 := by simp [Program.arrayLen, Tryd.underlying33]
  have hel : Tryd.prog.elem 33 = 5 := by simp [Program.elem, Tryd.underlying33]
  rw [run_sliceAt_array_all w 33 ⟨g, 0, none⟩ (by rw [hal, hel]; exact Tryd.underlying33), hal, hel, Tryd.sizeOf5]
  simp [Result.andThen, slicedAt, Addr.add]
/-- 'string(d[:])'. -/
theorem run_string_row {W : World} {g T : Nat} {d : List UInt8} (hd : d.length = 32) (h : VRow W g T (d.map byteVal)) : (convert 38 9 (.slice (some ⟨g, 0, none⟩) 32 32)).run Tryd.prog W = .ok (.string (str d)) W := by
  rw [← hd]
  refine run_convert_bytes_back W 38 9 5 ⟨g, 0, none⟩ d.length d Tryd.underlying38 Tryd.underlying5 Tryd.underlying9 fun j hj => ?_
  have e3 : (⟨g, 0, none⟩ : Addr).add j = ⟨g, j, none⟩ := by simp [Addr.add]; exact fun h => h.symm
  rw [e3]
  exact h.cell j _ (by simp [hj, byteVal])

set_option maxRecDepth 100000 in
set_option maxHeartbeats 400000 in
theorem wdigest_any {w : World} {p : Addr} {st : St} {own : Nat → Prop} (h : Wr w p st own) (hl : st.1.length ≤ 50000000) (d : List UInt8) (hd : d.length = 32) :
    Calls Tryd.prog 17 #[.pointer (some p), .agg (d.map byteVal).toArray] w (Turned Wr own p w (wDigest st d) (.tuple #[])) := by
  have HB := hide (below_alloc' (w := w) (.cells (d.map byteVal).toArray 33))
  have KA := hide (add_any (wr_after h (unhide HB)) (str d) (by rw [str_size]; omega))
  rw [str_data, show wput st true d = wDigest st d from rfl] at KA
  have hsl := slice_dig w.heap.size (w.alloc (.cells (d.map byteVal).toArray 33))
  have hcv := run_string_row hd (VRow.new w 33 (d.map byteVal))
  go_enter Tryd.func17, Tryd.ntmps17
  go_wp2_with (go_at_call 39; refine (unhide KA).mono ?_; intro e w2 hm; have HM := hide (turned_of (unhide HB) hm); clear hm; obtain rfl : e = .returned (.tuple #[]) := (unhide HM).choose_spec.1)
  go_end0
  exact unhide HM

set_option maxRecDepth 100000 in
set_option maxHeartbeats 400000 in
theorem wdone_any {w : World} {p : Addr} {st : St} {own : Nat → Prop} (h : Wr w p st own) : Calls Tryd.prog 18 #[.pointer (some p)] w (Told w (.tuple #[.string (str (told st)), .int .i64 st.2])) := by
  obtain ⟨b, e⟩ := st
  obtain ⟨q, v, bs, rfl, h1, h2, ho⟩ := h
  dsimp only at h1 h2
  have c0 := h1.row.cell 0 v rfl
  have c1 := h1.row.cell 1 _ rfl
  have K := hide (wrong_any q e w c1)
  have hcv := run_string_own h1.own
  rw [show (⟨bs.toArray⟩ : ByteArray) = str bs from rfl] at hcv
  clear h1 ho
  by_cases he : e = 0
  · subst he
    obtain rfl := h2 rfl
    clear h2
    rw [show told (bs, 0) = bs from rfl]
    go_enter Tryd.func18, Tryd.ntmps18
    go_wp2_with (go_at_call 41; refine (unhide K).mono ?_; rintro y w1 ⟨rfl, rfl⟩)
    go_ret2
    exact ⟨rfl, Below.refl _ _⟩
  · have hne : (e != 0) = true := by simp [he]
    clear h2
    rw [show told (b, e) = [] from if_pos he]
    go_enter Tryd.func18, Tryd.ntmps18
    go_wp2_with (go_at_call 41; refine (unhide K).mono ?_; rintro y w1 ⟨rfl, rfl⟩)
    go_ret2
    exact ⟨rfl, Below.refl _ _⟩

set_option maxRecDepth 100000 in
theorem add_nil (s : ByteArray) (w : World) : Calls Tryd.prog 39 #[.pointer none, .string s] w fun e w' => e = .returned (.tuple #[]) ∧ w' = w := by
  have K := hide (wrong_nil w)
  go_enter Tryd.func39, Tryd.ntmps39
  go_wp2_with (go_at_call 41; refine (unhide K).mono ?_; rintro y w1 ⟨rfl, rfl⟩)
  go_end0
  exact ⟨rfl, rfl⟩
set_option maxRecDepth 100000 in
theorem wfail_nil (x : Int) (w : World) : Calls Tryd.prog 38 #[.pointer none, .int .i64 x] w (Told w (.tuple #[])) := by
  have K := hide (wrong_nil w)
  obtain ⟨e0, he0⟩ : ∃ e0 : Int, e0 = 13 := ⟨_, rfl⟩
  rw [← he0] at K
  have hne : (e0 != 0) = true := by rw [he0]; rfl
  clear he0
  go_enter Tryd.func38, Tryd.ntmps38
  go_wp2_with (go_at_call 41; refine (unhide K).mono ?_; rintro y w1 ⟨rfl, rfl⟩)
  go_end0
  exact ⟨rfl, Below.refl _ _⟩
set_option maxRecDepth 100000 in
theorem wdone_nil (w : World) : Calls Tryd.prog 18 #[.pointer none] w (Told w (.tuple #[.string ⟨#[]⟩, .int .i64 13])) := by
  have K := hide (wrong_nil w)
  go_enter Tryd.func18, Tryd.ntmps18
  go_wp2_with (go_at_call 41; refine (unhide K).mono ?_; rintro y w1 ⟨rfl, rfl⟩)
  go_ret2
  exact ⟨rfl, Below.refl _ _⟩
set_option maxRecDepth 100000 in
theorem wnumber_nil (n : Int) (w : World) : Calls Tryd.prog 15 #[.pointer none, .int .i64 n] w (Told w (.tuple #[])) := by
  have KF := hide (wfail_nil 2 w)
  have KP := hide (Put_any n w)
  by_cases h0 : 0 ≤ n
  · have h0' : ¬ n < 0 := by omega
    by_cases h1 : n ≤ 1073741824
    · have h1' : ¬ 1073741824 < n := by omega
      generalize (⟨(Cnt.putL n).toArray⟩ : ByteArray) = S at KP
      go_enter Tryd.func15, Tryd.ntmps15
      go_wp2_with (first
        | (go_at_call 40; refine (unhide KP).mono ?_; rintro e w1 ⟨rfl, hb⟩; have HB := hide hb; clear hb)
        | (go_at_call 39; refine (add_nil _ _).mono ?_; rintro e w2 ⟨rfl, rfl⟩))
      go_end0
      exact ⟨rfl, unhide HB⟩
    · have h1' : 1073741824 < n := by omega
      go_enter Tryd.func15, Tryd.ntmps15
      go_wp2_with (go_at_call 38; refine (unhide KF).mono ?_; rintro e w2 ⟨rfl, hb⟩; have HB := hide hb; clear hb)
      go_end0
      exact ⟨rfl, unhide HB⟩
  · have h0' : n < 0 := by omega
    go_enter Tryd.func15, Tryd.ntmps15
    go_wp2_with (go_at_call 38; refine (unhide KF).mono ?_; rintro e w2 ⟨rfl, hb⟩; have HB := hide hb; clear hb)
    go_end0
    exact ⟨rfl, unhide HB⟩
set_option maxRecDepth 100000 in
theorem wtext_nil (s : ByteArray) (w : World) : Calls Tryd.prog 16 #[.pointer none, .string s] w (Told w (.tuple #[])) := by
  by_cases hs : s.size ≤ 65536
  · have hs' : ¬ 65536 < (s.size : Int) := by omega
    have KN := hide (wnumber_nil s.size w)
    go_enter Tryd.func16, Tryd.ntmps16
    go_wp2_with (first
      | (go_at_call 15; refine (unhide KN).mono ?_; rintro e w1 ⟨rfl, hb⟩; have HB := hide hb; clear hb)
      | (go_at_call 39; refine (add_nil _ _).mono ?_; rintro e w2 ⟨rfl, rfl⟩))
    go_end0
    exact ⟨rfl, unhide HB⟩
  · have hs' : 65536 < (s.size : Int) := by omega
    have KF := hide (wfail_nil 2 w)
    go_enter Tryd.func16, Tryd.ntmps16
    go_wp2_with (go_at_call 38; refine (unhide KF).mono ?_; rintro e w2 ⟨rfl, hb⟩; have HB := hide hb; clear hb)
    go_end0
    exact ⟨rfl, unhide HB⟩
set_option maxRecDepth 100000 in
theorem wflag_nil (is : Bool) (w : World) : Calls Tryd.prog 61 #[.pointer none, .bool is] w (Told w (.tuple #[])) := by
  cases is with
  | true =>
    go_enter Tryd.func61, Tryd.ntmps61
    go_wp2_with (go_at_call 39; refine (add_nil _ _).mono ?_; rintro e w2 ⟨rfl, rfl⟩)
    go_end0
    exact ⟨rfl, Below.refl _ _⟩
  | false =>
    go_enter Tryd.func61, Tryd.ntmps61
    go_wp2_with (go_at_call 39; refine (add_nil _ _).mono ?_; rintro e w2 ⟨rfl, rfl⟩)
    go_end0
    exact ⟨rfl, Below.refl _ _⟩
set_option maxRecDepth 100000 in
theorem wdigest_nil (d : List UInt8) (w : World) (hd : d.length = 32) : Calls Tryd.prog 17 #[.pointer none, .agg (d.map byteVal).toArray] w (Told w (.tuple #[])) := by
  have HB := hide (below_alloc' (w := w) (.cells (d.map byteVal).toArray 33))
  have hsl := slice_dig w.heap.size (w.alloc (.cells (d.map byteVal).toArray 33))
  have hcv := run_string_row hd (VRow.new w 33 (d.map byteVal))
  go_enter Tryd.func17, Tryd.ntmps17
  go_wp2_with (go_at_call 39; refine (add_nil _ _).mono ?_; rintro e w2 ⟨rfl, rfl⟩)
  go_end0
  exact ⟨rfl, unhide HB⟩
end Go.Proofs.YthchcjjpplcfnaaDoor
