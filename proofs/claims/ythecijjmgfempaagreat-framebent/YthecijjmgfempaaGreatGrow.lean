/-
  What the document's of, Join, Meet and With answer: the vector of the counts of all peers.
-/
import Derived.Test.YthecijjmgfempaaGreatRow
import Derived.Test.YthecijjmgfempaaGreatSib
import Derived.Lib.AppendStr
namespace Go.Proofs.YthecijjmgfempaaGreat
open Go.RowKit

theorem grown_below {w w' : World} {base : Nat} {e : TypeId} {size : Nat} {v : Value} {n : Nat} {xs : List Value} (hown : w.ownsRow base e size v n xs) (hg : w.grownBy w' v.ownBlock) (hb : base ≤ w.heap.size) : Below base w w' :=
  ⟨hg.os, hg.tape, hg.output, hg.size, fun k hk => hg.block k (by omega) (by
    rcases hown.2 with ⟨rfl, _⟩ | ⟨g, cap, cur, rfl, hg', _⟩
    · simp [Value.ownBlock]
    · simp [Value.ownBlock]; omega)⟩

end Go.Proofs.YthecijjmgfempaaGreat

namespace Go.Proofs.YthecijjmgfempaaGreat
open Go.RowKit

theorem Fresh.weak {n m : Nat} {r : Option Addr} {ds : List Vc.D} (h : Fresh n r ds) (hm : m ≤ n) : Fresh m r ds := fun ad e h0 => Nat.le_trans hm (h ad e h0)
theorem Fresh.nil (n : Nat) (ds : List Vc.D) : Fresh n none ds := fun _ e => by cases e

end Go.Proofs.YthecijjmgfempaaGreat

namespace Go.Proofs.YthecijjmgfempaaGreat
open Go.RowKit

end Go.Proofs.YthecijjmgfempaaGreat

namespace Go.Proofs.YthecijjmgfempaaGreat
open Go.RowKit

/-- A Writer in its block, and the bytes that it holds in a row of its own. -/
structure WrAt (w : World) (q : Nat) (v : Value) (bs : List UInt8) (e : Int) : Prop where
  row : VRow w q 68 [v, .int .i64 e]
  own : w.ownsRow 0 5 1 v bs.length (bs.map byteVal)
  ne : v.ownBlock ≠ some q
def Wr (w : World) (p : Addr) (st : St) (own : Nat → Prop) : Prop :=
  ∃ q v bs, p = ⟨q, 0, none⟩ ∧ WrAt w q v bs st.2 ∧ (st.2 = 0 → bs = st.1) ∧ ∀ g, own g ↔ (g = q ∨ v.ownBlock = some g)

theorem own_keep {w w' : World} {v : Value} {n : Nat} {xs : List Value} (h : w.ownsRow 0 5 1 v n xs) (hk : ∀ g, v.ownBlock = some g → w'.heap[g]? = w.heap[g]?) : w'.ownsRow 0 5 1 v n xs := by
  refine ⟨h.1, ?_⟩
  rcases h.2 with h1 | ⟨g, cap, cur, rfl, hb, hg, h2⟩
  · exact .inl h1
  · exact .inr ⟨g, cap, cur, rfl, hb, (hk g rfl).trans hg, h2⟩
theorem own_zero {w : World} {base : Nat} {v : Value} {n : Nat} {xs : List Value} (h : w.ownsRow base 5 1 v n xs) : w.ownsRow 0 5 1 v n xs := by
  refine ⟨h.1, ?_⟩
  rcases h.2 with h1 | ⟨g, cap, cur, rfl, hb, hg, h2⟩
  · exact .inl h1
  · exact .inr ⟨g, cap, cur, rfl, Nat.zero_le _, hg, h2⟩
theorem WrAt.keep {w w' : World} {q : Nat} {v : Value} {bs : List UInt8} {e : Int} (h : WrAt w q v bs e) (hq : w'.heap[q]? = w.heap[q]?) (hk : ∀ g, v.ownBlock = some g → w'.heap[g]? = w.heap[g]?) : WrAt w' q v bs e :=
  ⟨hq.trans h.row, own_keep h.own hk, h.ne⟩
theorem WrAt.lt {w : World} {q : Nat} {v : Value} {bs : List UInt8} {e : Int} (h : WrAt w q v bs e) : ∀ g, g = q ∨ v.ownBlock = some g → g < w.heap.size := by
  rintro g (rfl | hg)
  · exact h.row.lt
  · exact (h.own.lt g hg).2
theorem WrAt.after {w w' : World} {q : Nat} {v : Value} {bs : List UInt8} {e : Int} (h : WrAt w q v bs e) (hb : Below w.heap.size w w') : WrAt w' q v bs e :=
  h.keep (hb.block q h.row.lt) fun g hg => hb.block g (h.lt g (.inr hg))
theorem wr_lt {w : World} {p : Addr} {st : St} {own : Nat → Prop} (h : Wr w p st own) : ∀ g, own g → g < w.heap.size := by
  obtain ⟨q, v, bs, rfl, h1, _, ho⟩ := h
  exact fun g hg => h1.lt g ((ho g).1 hg)
theorem wr_keep {w w' : World} {p : Addr} {st : St} {own : Nat → Prop} (h : Wr w p st own) (_ : w.heap.size ≤ w'.heap.size) (hk : ∀ g, own g → w'.heap[g]? = w.heap[g]?) : Wr w' p st own := by
  obtain ⟨q, v, bs, rfl, h1, h2, ho⟩ := h
  exact ⟨q, v, bs, rfl, h1.keep (hk q ((ho q).2 (.inl rfl))) fun g hg => hk g ((ho g).2 (.inr hg)), h2, ho⟩
theorem wr_after {w w' : World} {p : Addr} {st : St} {own : Nat → Prop} (h : Wr w p st own) (hb : Below w.heap.size w w') : Wr w' p st own := wr_keep h hb.size fun g hg => hb.block g (wr_lt h g hg)
theorem wr_zero (w : World) : ∃ own : Nat → Prop, Wr (w.alloc (.cells zeroW 68)) ⟨w.heap.size, 0, none⟩ ([], 0) own ∧ ∀ g, own g → w.heap.size ≤ g := by
  refine ⟨fun g => g = w.heap.size, ⟨w.heap.size, .slice none 0 0, [], rfl, ⟨VRow.new w 68 [.slice none 0 0, .int .i64 0], World.ownsRow_nil _ _ _ _, by simp [Value.ownBlock]⟩, fun _ => rfl, fun g => by simp [Value.ownBlock]⟩, fun g hg => Nat.le_of_eq hg.symm⟩
theorem turned_refl {X : World → Addr → St → (Nat → Prop) → Prop} {own : Nat → Prop} {p : Addr} {w w' : World} {st : St} {v : Value} (h : X w' p st own) (hb : Below w.heap.size w w') : Turned X own p w st v (.returned v) w' :=
  ⟨own, rfl, h, fun _ h => .inl h, beside_of hb⟩
theorem turned_of {X : World → Addr → St → (Nat → Prop) → Prop} {own : Nat → Prop} {p : Addr} {w w1 w' : World} {st : St} {v : Value} {e : Ending} (hb : Below w.heap.size w w1) (h : Turned X own p w1 st v e w') : Turned X own p w st v e w' := by
  obtain ⟨own', he, hx, ho, hbs⟩ := h
  exact ⟨own', he, hx, fun g hg => (ho g hg).imp_right fun h => Nat.le_trans hb.size h, (beside_of hb).trans hbs⟩
theorem beside_mono {own own' : Nat → Prop} {w w1 w' : World} (h : Beside own w w1) (ho : ∀ g, own' g → own g ∨ w.heap.size ≤ g) (h2 : Beside own' w1 w') : Beside own w w' :=
  ⟨h2.os.trans h.os, h2.tape.trans h.tape, h2.output.trans h.output, Nat.le_trans h.size h2.size, fun k hk hk2 => (h2.block k (Nat.lt_of_lt_of_le hk h.size) (fun hk3 => by rcases ho k hk3 with h3 | h3; exact hk2 h3; omega)).trans (h.block k hk hk2)⟩
theorem turned_trans {X : World → Addr → St → (Nat → Prop) → Prop} {own own1 : Nat → Prop} {p : Addr} {w w1 w' : World} {st : St} {v : Value} {e : Ending} (ho : ∀ g, own1 g → own g ∨ w.heap.size ≤ g) (hb : Beside own w w1) (h : Turned X own1 p w1 st v e w') : Turned X own p w st v e w' := by
  obtain ⟨own', he, hx, ho2, hbs⟩ := h
  refine ⟨own', he, hx, fun g hg => ?_, beside_mono hb ho hbs⟩
  rcases ho2 g hg with h1 | h1
  · exact ho g h1
  · exact .inr (Nat.le_trans hb.size h1)

/-- 'append(b, s...)', b a row of one's own: it stays where it lies, or lies anew. -/
theorem append_str (w : World) (ty : TypeId) (v : Value) (bs : List UInt8) (s : ByteArray) (hown : w.ownsRow 0 5 1 v bs.length (bs.map byteVal)) (hl : bs.length + s.size ≤ 100000000) :
    ∃ a n c w', (Builtin.append_ #[39, 9] ty #[v, .string s]).run Tryz.prog w = .ok (.slice a n c) w' ∧ w'.ownsRow 0 5 1 (.slice a n c) (bs ++ s.data.toList).length ((bs ++ s.data.toList).map byteVal) ∧ w.grownBy w' v.ownBlock ∧
      ∀ g, (Value.slice a n c).ownBlock = some g → v.ownBlock = some g ∨ w.heap.size ≤ g := by
  obtain ⟨i0, hi, hz0, hz1, hz2⟩ := info_parts info5
  have h63 : bs.length + s.size ≤ maxLen := by unfold maxLen; omega
  have e1 : bs.map byteVal ++ Go.Lib.strCells s = (bs ++ s.data.toList).map byteVal := by rw [List.map_append]; rfl
  have e2 : bs.length + s.size = (bs ++ s.data.toList).length := by rw [List.length_append, size_data]
  have form : ∀ {W : World} {base : Nat} {u : Value} {n : Nat} {xs : List Value}, W.ownsRow base 5 1 u n xs → ∃ a n c, u = .slice a n c := by
    intro W base u n xs h
    rcases h.2 with ⟨rfl, _⟩ | ⟨g, cap, cur, rfl, _⟩
    · exact ⟨_, _, _, rfl⟩
    · exact ⟨_, _, _, rfl⟩
  rcases hown.2 with ⟨rfl, h0⟩ | ⟨g, cap, cur, rfl, hbg, hg, hnc, hcm, hcs, htake⟩
  · obtain ⟨v', w', hr, hw, hgr, _⟩ := Go.Lib.run_append_own_string (P := Tryz.prog) w w.heap.size 39 9 ty 5 i0 Tryz.underlying39 Tryz.underlying9 hi hz0 hz1 hz2 (.slice none 0 0) bs.length (bs.map byteVal) ⟨hown.1, .inl ⟨rfl, h0⟩⟩ s h63 (by omega) (Nat.le_refl _)
    rw [e1, e2] at hw
    obtain ⟨a, n, c, rfl⟩ := form hw
    exact ⟨a, n, c, w', hr, own_zero hw, hgr, fun g hg => .inr (hw.lt g hg).1⟩
  · obtain ⟨v', w', hr, hw, hgr, _⟩ := Go.Lib.run_append_own_string (P := Tryz.prog) w 0 39 9 ty 5 i0 Tryz.underlying39 Tryz.underlying9 hi hz0 hz1 hz2 _ bs.length (bs.map byteVal) hown s h63 (by omega) (Nat.zero_le _)
    rw [e1, e2] at hw
    obtain ⟨a, n, c, rfl⟩ := form hw
    refine ⟨a, n, c, w', hr, hw, hgr, fun k hk => ?_⟩
    have hcs' : cur.size = cap := by simpa using hcs
    by_cases hroom : bs.length + s.size ≤ cap
    · have h2 := Go.Lib.run_append_room_string (P := Tryz.prog) w 39 9 ty 5 i0 Tryz.underlying39 Tryz.underlying9 hi hz1 g bs.length cap cur hg s hroom (by omega)
      rw [hr] at h2
      injection h2 with h3 h4
      rw [h3] at hk
      exact .inl hk
    · have h2 := Go.Lib.run_append_grow_string (P := Tryz.prog) w 39 9 ty 5 i0 (.int .u8 0) Tryz.underlying39 Tryz.underlying9 hi hz0 ⟨g, 0, none⟩ bs.length cap (bs.map byteVal) (by rw [hz1]; simp) (hown.cells (g := g) rfl) s (by omega) (by omega) (by rw [hz2]; exact growslice_fits (by omega) (by omega))
      rw [hr] at h2
      injection h2 with h3 h4
      rw [h3] at hk
      injection hk with hk
      exact .inr (Nat.le_of_eq hk)

theorem step_append {ops : Array Oper} {rest : List Oper} {o : Oper} {a : Act} {w : World} {Q : Exit → Act → World → Prop} (hgd : o.guard = none) (sl x : Operand)
    (ho : o.op = .call { callee := .builtin .append, args := #[sl, x], argTypes := #[39, 9] })
    (v : Value) (bs : List UInt8) (s : ByteArray) (hs : a.eval sl = v) (hx : a.eval x = .string s) (hown : w.ownsRow 0 5 1 v bs.length (bs.map byteVal)) (hl : bs.length + s.size ≤ 100000000)
    (h : ∀ b n c w', w'.ownsRow 0 5 1 (.slice b n c) (bs ++ s.data.toList).length ((bs ++ s.data.toList).map byteVal) → w.grownBy w' v.ownBlock → (∀ g, (Value.slice b n c).ownBlock = some g → v.ownBlock = some g ∨ w.heap.size ≤ g) → wpList Tryz.prog ops Q rest (a.put o.dst (.slice b n c)) w') :
    wpList Tryz.prog ops Q (o :: rest) a w := by
  refine wpList_plain hgd fun K hK => ?_
  obtain ⟨b, n, c, w', hr, h2, h3, h4⟩ := append_str w o.type v bs s hown hl
  unfold Oper.wp execOp
  simp only [ho, resolve, invoke, builtin, Sem.run_bind, Sem.run_pure, Result.andThen_ok, List.map_toArray, List.map_cons, List.map_nil, hs, hx, hr]
  exact hK _ _ (h b n c w' h2 h3 h4)

set_option maxRecDepth 100000 in
theorem wrong_any (q : Nat) (e : Int) (w : World) (c1 : w.cell? ⟨q, 1, none⟩ = some (.int .i64 e)) :
    Calls Tryz.prog 62 #[.pointer (some ⟨q, 0, none⟩)] w fun x w' => x = .returned (.int .i64 e) ∧ w' = w := by
  go_enter Tryz.func62, Tryz.ntmps62
  go_wp2_with fail
  go_ret
  exact ⟨rfl, rfl⟩
set_option maxRecDepth 100000 in
theorem wrong_nil (w : World) : Calls Tryz.prog 62 #[.pointer none] w fun x w' => x = .returned (.int .i64 13) ∧ w' = w := by
  go_enter Tryz.func62, Tryz.ntmps62
  go_wp2_with fail
  go_ret
  exact ⟨rfl, rfl⟩

set_option maxRecDepth 100000 in
set_option maxHeartbeats 400000 in
theorem add_any {w : World} {p : Addr} {st : St} {own : Nat → Prop} (h : Wr w p st own) (s : ByteArray) (hl : st.1.length + s.size ≤ 100000000) :
    Calls Tryz.prog 115 #[.pointer (some p), .string s] w (Turned Wr own p w (wput st true s.data.toList) (.tuple #[])) := by
  have HW := hide h
  obtain ⟨b, e⟩ := st
  obtain ⟨q, v, bs, rfl, h1, h2, ho⟩ := h
  dsimp only at h1 h2 hl
  have c0 := h1.row.cell 0 v rfl
  have c1 := h1.row.cell 1 _ rfl
  have K := hide (wrong_any q e w c1)
  have HA := hide h1
  clear h1
  by_cases he : e = 0
  · subst he
    obtain rfl := h2 rfl
    rw [show wput (bs, 0) true s.data.toList = (bs ++ s.data.toList, 0) from rfl]
    have HL := hide hl
    clear hl h2
    go_enter Tryz.func115, Tryz.ntmps115
    go_wp2_with (first
      | (go_at_call 62; refine (unhide K).mono ?_; rintro x w1 ⟨rfl, rfl⟩)
      | (at_builtin; refine step_append rfl _ _ rfl v bs s rfl rfl (unhide HA).own (unhide HL) ?_; intro a n c w1 hown hgr hat; have HO := hide hown; have HG := hide hgr; have HT := hide hat; have r1 := ((unhide HG).block q (unhide HA).row.lt (fun h => (unhide HA).ne h.symm)).trans (unhide HA).row; have f0 := VRow.frozen r1 0; have d0 := VRow.cell r1 0 v rfl; have HR := hide r1; clear r1 hown hgr hat))
    go_end0
    have hq := (unhide HA).row.lt
    have hne : (Value.slice a n c).ownBlock ≠ some q := fun h => by
      rcases unhide HT q h with h1 | h1
      · exact (unhide HA).ne h1
      · omega
    refine ⟨fun g => g = q ∨ (Value.slice a n c).ownBlock = some g, rfl, ⟨q, _, _, rfl, ⟨VRow.set (unhide HR) 0 _, own_keep (unhide HO) fun g hg => heap_setCell_other _ ⟨q, 0, none⟩ g _ (fun h => hne (hg.trans (congrArg some h))), hne⟩, fun _ => rfl, fun g => Iff.rfl⟩, ?_, ?_⟩
    · rintro g (rfl | hg)
      · exact .inl ((ho _).2 (.inl rfl))
      · exact (unhide HT g hg).imp_left fun h => (ho g).2 (.inr h)
    · have G := unhide HG
      refine ⟨G.os, G.tape, G.output, by simpa using G.size, fun k hk hk2 => ?_⟩
      rw [heap_setCell_other _ ⟨q, 0, none⟩ k _ (fun h => hk2 ((ho k).2 (.inl h)))]
      exact G.block k hk (fun h => hk2 ((ho k).2 (.inr h.symm)))
  · rw [show wput (b, e) true s.data.toList = (b, e) from if_pos he]
    have hne : (e == 0) = false := by simp [he]
    clear h2
    go_enter Tryz.func115, Tryz.ntmps115
    go_wp2_with (go_at_call 62; refine (unhide K).mono ?_; rintro x w1 ⟨rfl, rfl⟩)
    go_end0
    exact turned_refl (unhide HW) (Below.refl _ _)
end Go.Proofs.YthecijjmgfempaaGreat

namespace Go.Proofs.YthecijjmgfempaaGreat
open Go.RowKit

set_option maxRecDepth 100000 in
set_option maxHeartbeats 400000 in
theorem wfail_any {w : World} {p : Addr} {st : St} {own : Nat → Prop} (h : Wr w p st own) (x : Int) :
    Calls Tryz.prog 106 #[.pointer (some p), .int .i64 x] w (Turned Wr own p w (fail st x) (.tuple #[])) := by
  have HW := hide h
  obtain ⟨b, e⟩ := st
  obtain ⟨q, v, bs, rfl, h1, h2, ho⟩ := h
  dsimp only at h1 h2
  have c0 := h1.row.cell 0 v rfl
  have c1 := h1.row.cell 1 _ rfl
  have f0 := h1.row.frozen 0
  have f1 := h1.row.frozen 1
  have K := hide (wrong_any q e w c1)
  have HA := hide h1
  clear h1 h2
  by_cases he : e = 0
  · subst he
    rw [show fail (b, 0) x = (b, x) from rfl]
    by_cases hx : x = 0
    · subst hx
      go_enter Tryz.func106, Tryz.ntmps106
      go_wp2_with (go_at_call 62; refine (unhide K).mono ?_; rintro y w1 ⟨rfl, rfl⟩)
      go_end0
      exact turned_refl (unhide HW) (Below.refl _ _)
    · have hne : (x == 0) = false := by simp [hx]
      go_enter Tryz.func106, Tryz.ntmps106
      go_wp2_with (go_at_call 62; refine (unhide K).mono ?_; rintro y w1 ⟨rfl, rfl⟩)
      go_end0
      refine ⟨fun g => g = q, rfl, ⟨q, .slice none 0 0, [], rfl, ⟨((unhide HA).row.set 1 _).set 0 _, World.ownsRow_nil _ _ _ _, by simp [Value.ownBlock]⟩, fun h => absurd h hx, fun g => by simp [Value.ownBlock]⟩, fun g hg => .inl ((ho g).2 (.inl hg)), ?_⟩
      refine ⟨rfl, rfl, rfl, by simp, fun k hk hk2 => ?_⟩
      have hkq : k ≠ q := fun h => hk2 ((ho k).2 (.inl h))
      rw [heap_setCell_other _ ⟨q, 0, none⟩ k _ hkq, heap_setCell_other _ ⟨q, 1, none⟩ k _ hkq]
  · rw [show fail (b, e) x = (b, e) from if_neg he]
    have hne : (e != 0) = true := by simp [he]
    go_enter Tryz.func106, Tryz.ntmps106
    go_wp2_with (go_at_call 62; refine (unhide K).mono ?_; rintro y w1 ⟨rfl, rfl⟩)
    go_end0
    exact turned_refl (unhide HW) (Below.refl _ _)

set_option maxRecDepth 100000 in
set_option maxHeartbeats 400000 in
theorem wnumber_any {w : World} {p : Addr} {st : St} {own : Nat → Prop} (h : Wr w p st own) (hl : st.1.length ≤ 50000000) (n : Int) :
    Calls Tryz.prog 116 #[.pointer (some p), .int .i64 n] w (Turned Wr own p w (wNumber st n) (.tuple #[])) := by
  have KF := hide (wfail_any h 2)
  have hf : fail st 2 = wput st false (Cnt.putL n) := by unfold fail wput; by_cases he : st.2 = 0 <;> simp [he]
  rw [hf] at KF
  have KP := hide (Put_any n w)
  rw [show (⟨(Cnt.putL n).toArray⟩ : ByteArray) = str (Cnt.putL n) from rfl] at KP
  have KA := hide fun w' (hb : Below w.heap.size w w') => add_any (wr_after h hb) (str (Cnt.putL n)) (by rw [str_size]; have := Cnt.putL_len n; omega)
  rw [str_data] at KA
  unfold wNumber
  clear h hf
  generalize Cnt.putL n = P at KP KF KA ⊢
  by_cases h0 : 0 ≤ n
  · have h0' : ¬ n < 0 := by omega
    rw [decide_eq_true h0, Bool.true_and]
    by_cases h1 : n ≤ 1073741824
    · have h1' : ¬ 1073741824 < n := by omega
      rw [decide_eq_true h1]
      go_enter Tryz.func116, Tryz.ntmps116
      go_wp2_with (first
        | (go_at_call 27; refine (unhide KP).mono ?_; rintro e w1 ⟨rfl, hb⟩; have HB := hide hb; clear hb)
        | (go_at_call 115; refine (unhide KA _ (unhide HB)).mono ?_; intro e w2 hm; have HM := hide (turned_of (unhide HB) hm); clear hm; obtain rfl : e = .returned (.tuple #[]) := (unhide HM).choose_spec.1))
      go_end0
      exact unhide HM
    · have h1' : 1073741824 < n := by omega
      rw [decide_eq_false h1]
      go_enter Tryz.func116, Tryz.ntmps116
      go_wp2_with (go_at_call 106; refine (unhide KF).mono ?_; intro e w2 hm; have HM := hide hm; clear hm; obtain rfl : e = .returned (.tuple #[]) := (unhide HM).choose_spec.1)
      go_end0
      exact unhide HM
  · rw [decide_eq_false h0, Bool.false_and]
    have h0' : n < 0 := by omega
    go_enter Tryz.func116, Tryz.ntmps116
    go_wp2_with (go_at_call 106; refine (unhide KF).mono ?_; intro e w2 hm; have HM := hide hm; clear hm; obtain rfl : e = .returned (.tuple #[]) := (unhide HM).choose_spec.1)
    go_end0
    exact unhide HM

theorem text_is (st : St) (s : ByteArray) (hs : s.size ≤ 65536) : wText st s = wput (wNumber st s.size) true s.data.toList := by
  have h1 : (decide (0 ≤ (s.size : Int)) && decide ((s.size : Int) ≤ 1073741824)) = true := by simp; omega
  unfold wText wNumber
  rw [h1, decide_eq_true hs]
  unfold wput
  by_cases he : st.2 = 0 <;> simp [he]

set_option maxRecDepth 100000 in
set_option maxHeartbeats 400000 in
theorem wtext_any {w : World} {p : Addr} {st : St} {own : Nat → Prop} (h : Wr w p st own) (hl : st.1.length ≤ 50000000) (s : ByteArray) :
    Calls Tryz.prog 118 #[.pointer (some p), .string s] w (Turned Wr own p w (wText st s) (.tuple #[])) := by
  by_cases hs : s.size ≤ 65536
  · rw [text_is st s hs]
    have hs' : ¬ 65536 < (s.size : Int) := by omega
    have KN := hide (wnumber_any h hl s.size)
    have hl2 : (wNumber st s.size).1.length + s.size ≤ 100000000 := by
      have h1 := wput_len st (decide (0 ≤ (s.size : Int)) && decide ((s.size : Int) ≤ 1073741824)) (Cnt.putL s.size)
      have h2 := Cnt.putL_len s.size
      have h3 : (wNumber st s.size).1.length ≤ st.1.length + 5 := by
        unfold wNumber
        refine Nat.le_trans h1 ?_
        split <;> omega
      omega
    have HL := hide hl2
    clear hl2 h
    generalize wNumber st s.size = S at KN HL ⊢
    go_enter Tryz.func118, Tryz.ntmps118
    go_wp2_with (first
      | (go_at_call 116; refine (unhide KN).mono ?_; rintro e w1 ⟨own1, rfl, hx, ho1, hb1⟩; have HX := hide hx; have HO := hide ho1; have HB := hide hb1; clear hx ho1 hb1)
      | (go_at_call 115; refine (add_any (unhide HX) s (unhide HL)).mono ?_; intro e w2 hm; have HM := hide (turned_trans (unhide HO) (unhide HB) hm); clear hm; obtain rfl : e = .returned (.tuple #[]) := (unhide HM).choose_spec.1))
    go_end0
    exact unhide HM
  · have hs' : 65536 < (s.size : Int) := by omega
    have KF := hide (wfail_any h 2)
    have hf : fail st 2 = wText st s := by unfold fail wText wput; by_cases he : st.2 = 0 <;> simp [he, hs]
    rw [hf] at KF
    go_enter Tryz.func118, Tryz.ntmps118
    go_wp2_with (go_at_call 106; refine (unhide KF).mono ?_; intro e w2 hm; have HM := hide hm; clear hm; obtain rfl : e = .returned (.tuple #[]) := (unhide HM).choose_spec.1)
    go_end0
    exact unhide HM

set_option maxRecDepth 100000 in
set_option maxHeartbeats 400000 in
theorem wflag_any {w : World} {p : Addr} {st : St} {own : Nat → Prop} (h : Wr w p st own) (hl : st.1.length ≤ 50000000) (is : Bool) :
    Calls Tryz.prog 107 #[.pointer (some p), .bool is] w (Turned Wr own p w (wFlag st is) (.tuple #[])) := by
  have h1 : (⟨#[1]⟩ : ByteArray).size = 1 := rfl
  have h0 : (⟨#[0]⟩ : ByteArray).size = 1 := rfl
  cases is with
  | true =>
    have KA := hide (add_any h ⟨#[1]⟩ (by omega))
    rw [show wput st true (⟨#[1]⟩ : ByteArray).data.toList = wFlag st true from rfl] at KA
    go_enter Tryz.func107, Tryz.ntmps107
    go_wp2_with (go_at_call 115; refine (unhide KA).mono ?_; intro e w2 hm; have HM := hide hm; clear hm; obtain rfl : e = .returned (.tuple #[]) := (unhide HM).choose_spec.1)
    go_end0
    exact unhide HM
  | false =>
    have KA := hide (add_any h ⟨#[0]⟩ (by omega))
    rw [show wput st true (⟨#[0]⟩ : ByteArray).data.toList = wFlag st false from rfl] at KA
    go_enter Tryz.func107, Tryz.ntmps107
    go_wp2_with (go_at_call 115; refine (unhide KA).mono ?_; intro e w2 hm; have HM := hide hm; clear hm; obtain rfl : e = .returned (.tuple #[]) := (unhide HM).choose_spec.1)
    go_end0
    exact unhide HM

/-- 'd[:]', d an array of 32 bytes. -/
theorem slice_dig (g : Nat) (w : World) : (Instr.sliceAt 24 (.pointer (some ⟨g, 0, none⟩)) none none none).run Tryz.prog w = .ok (.slice (some ⟨g, 0, none⟩) 32 32) w := by
  have hal : Tryz.prog.arrayLen 24 = 32 := by simp [Program.arrayLen, Tryz.underlying24]
  have hel : Tryz.prog.elem 24 = 5 := by simp [Program.elem, Tryz.underlying24]
  rw [run_sliceAt_array_all w 24 ⟨g, 0, none⟩ (by rw [hal, hel]; exact Tryz.underlying24), hal, hel, Tryz.sizeOf5]
  simp [Result.andThen, slicedAt, Addr.add]
/-- 'string(d[:])'. -/
theorem run_string_row {W : World} {g T : Nat} {d : List UInt8} (hd : d.length = 32) (h : VRow W g T (d.map byteVal)) : (convert 39 9 (.slice (some ⟨g, 0, none⟩) 32 32)).run Tryz.prog W = .ok (.string (str d)) W := by
  rw [← hd]
  refine run_convert_bytes_back W 39 9 5 ⟨g, 0, none⟩ d.length d Tryz.underlying39 Tryz.underlying5 Tryz.underlying9 fun j hj => ?_
  have e3 : (⟨g, 0, none⟩ : Addr).add j = ⟨g, j, none⟩ := by simp [Addr.add]; exact fun h => h.symm
  rw [e3]
  exact h.cell j _ (by simp [hj, byteVal])

set_option maxRecDepth 100000 in
set_option maxHeartbeats 400000 in
theorem wdigest_any {w : World} {p : Addr} {st : St} {own : Nat → Prop} (h : Wr w p st own) (hl : st.1.length ≤ 50000000) (d : List UInt8) (hd : d.length = 32) :
    Calls Tryz.prog 114 #[.pointer (some p), .agg (d.map byteVal).toArray] w (Turned Wr own p w (wDigest st d) (.tuple #[])) := by
  have HB := hide (below_alloc' (w := w) (.cells (d.map byteVal).toArray 24))
  have KA := hide (add_any (wr_after h (unhide HB)) (str d) (by rw [str_size]; omega))
  rw [str_data, show wput st true d = wDigest st d from rfl] at KA
  have hsl := slice_dig w.heap.size (w.alloc (.cells (d.map byteVal).toArray 24))
  have hcv := run_string_row hd (VRow.new w 24 (d.map byteVal))
  go_enter Tryz.func114, Tryz.ntmps114
  go_wp2_with (go_at_call 115; refine (unhide KA).mono ?_; intro e w2 hm; have HM := hide (turned_of (unhide HB) hm); clear hm; obtain rfl : e = .returned (.tuple #[]) := (unhide HM).choose_spec.1)
  go_end0
  exact unhide HM

set_option maxRecDepth 100000 in
set_option maxHeartbeats 400000 in
theorem wdone_any {w : World} {p : Addr} {st : St} {own : Nat → Prop} (h : Wr w p st own) : Calls Tryz.prog 43 #[.pointer (some p)] w (Told w (.tuple #[.string (str (told st)), .int .i64 st.2])) := by
  obtain ⟨b, e⟩ := st
  obtain ⟨q, v, bs, rfl, h1, h2, ho⟩ := h
  dsimp only at h1 h2
  have c0 := h1.row.cell 0 v rfl
  have c1 := h1.row.cell 1 _ rfl
  have K := hide (wrong_any q e w c1)
  have hcv := run_string_own h1.own
  rw [show (⟨bs.toArray⟩ : ByteArray) = str bs from rfl] at hcv
  clear h1 ho
  by_cases he : e = 0
  · subst he
    obtain rfl := h2 rfl
    clear h2
    rw [show told (bs, 0) = bs from rfl]
    go_enter Tryz.func43, Tryz.ntmps43
    go_wp2_with (go_at_call 62; refine (unhide K).mono ?_; rintro y w1 ⟨rfl, rfl⟩)
    go_ret2
    exact ⟨rfl, Below.refl _ _⟩
  · have hne : (e != 0) = true := by simp [he]
    clear h2
    rw [show told (b, e) = [] from if_pos he]
    go_enter Tryz.func43, Tryz.ntmps43
    go_wp2_with (go_at_call 62; refine (unhide K).mono ?_; rintro y w1 ⟨rfl, rfl⟩)
    go_ret2
    exact ⟨rfl, Below.refl _ _⟩

set_option maxRecDepth 100000 in
theorem add_nil (s : ByteArray) (w : World) : Calls Tryz.prog 115 #[.pointer none, .string s] w fun e w' => e = .returned (.tuple #[]) ∧ w' = w := by
  have K := hide (wrong_nil w)
  go_enter Tryz.func115, Tryz.ntmps115
  go_wp2_with (go_at_call 62; refine (unhide K).mono ?_; rintro y w1 ⟨rfl, rfl⟩)
  go_end0
  exact ⟨rfl, rfl⟩
set_option maxRecDepth 100000 in
theorem wfail_nil (x : Int) (w : World) : Calls Tryz.prog 106 #[.pointer none, .int .i64 x] w (Told w (.tuple #[])) := by
  have K := hide (wrong_nil w)
  obtain ⟨e0, he0⟩ : ∃ e0 : Int, e0 = 13 := ⟨_, rfl⟩
  rw [← he0] at K
  have hne : (e0 != 0) = true := by rw [he0]; rfl
  clear he0
  go_enter Tryz.func106, Tryz.ntmps106
  go_wp2_with (go_at_call 62; refine (unhide K).mono ?_; rintro y w1 ⟨rfl, rfl⟩)
  go_end0
  exact ⟨rfl, Below.refl _ _⟩
set_option maxRecDepth 100000 in
theorem wdone_nil (w : World) : Calls Tryz.prog 43 #[.pointer none] w (Told w (.tuple #[.string ⟨#[]⟩, .int .i64 13])) := by
  have K := hide (wrong_nil w)
  go_enter Tryz.func43, Tryz.ntmps43
  go_wp2_with (go_at_call 62; refine (unhide K).mono ?_; rintro y w1 ⟨rfl, rfl⟩)
  go_ret2
  exact ⟨rfl, Below.refl _ _⟩
set_option maxRecDepth 100000 in
theorem wnumber_nil (n : Int) (w : World) : Calls Tryz.prog 116 #[.pointer none, .int .i64 n] w (Told w (.tuple #[])) := by
  have KF := hide (wfail_nil 2 w)
  have KP := hide (Put_any n w)
  by_cases h0 : 0 ≤ n
  · have h0' : ¬ n < 0 := by omega
    by_cases h1 : n ≤ 1073741824
    · have h1' : ¬ 1073741824 < n := by omega
      generalize (⟨(Cnt.putL n).toArray⟩ : ByteArray) = S at KP
      go_enter Tryz.func116, Tryz.ntmps116
      go_wp2_with (first
        | (go_at_call 27; refine (unhide KP).mono ?_; rintro e w1 ⟨rfl, hb⟩; have HB := hide hb; clear hb)
        | (go_at_call 115; refine (add_nil _ _).mono ?_; rintro e w2 ⟨rfl, rfl⟩))
      go_end0
      exact ⟨rfl, unhide HB⟩
    · have h1' : 1073741824 < n := by omega
      go_enter Tryz.func116, Tryz.ntmps116
      go_wp2_with (go_at_call 106; refine (unhide KF).mono ?_; rintro e w2 ⟨rfl, hb⟩; have HB := hide hb; clear hb)
      go_end0
      exact ⟨rfl, unhide HB⟩
  · have h0' : n < 0 := by omega
    go_enter Tryz.func116, Tryz.ntmps116
    go_wp2_with (go_at_call 106; refine (unhide KF).mono ?_; rintro e w2 ⟨rfl, hb⟩; have HB := hide hb; clear hb)
    go_end0
    exact ⟨rfl, unhide HB⟩
set_option maxRecDepth 100000 in
theorem wtext_nil (s : ByteArray) (w : World) : Calls Tryz.prog 118 #[.pointer none, .string s] w (Told w (.tuple #[])) := by
  by_cases hs : s.size ≤ 65536
  · have hs' : ¬ 65536 < (s.size : Int) := by omega
    have KN := hide (wnumber_nil s.size w)
    go_enter Tryz.func118, Tryz.ntmps118
    go_wp2_with (first
      | (go_at_call 116; refine (unhide KN).mono ?_; rintro e w1 ⟨rfl, hb⟩; have HB := hide hb; clear hb)
      | (go_at_call 115; refine (add_nil _ _).mono ?_; rintro e w2 ⟨rfl, rfl⟩))
    go_end0
    exact ⟨rfl, unhide HB⟩
  · have hs' : 65536 < (s.size : Int) := by omega
    have KF := hide (wfail_nil 2 w)
    go_enter Tryz.func118, Tryz.ntmps118
    go_wp2_with (go_at_call 106; refine (unhide KF).mono ?_; rintro e w2 ⟨rfl, hb⟩; have HB := hide hb; clear hb)
    go_end0
    exact ⟨rfl, unhide HB⟩
set_option maxRecDepth 100000 in
theorem wflag_nil (is : Bool) (w : World) : Calls Tryz.prog 107 #[.pointer none, .bool is] w (Told w (.tuple #[])) := by
  cases is with
  | true =>
    go_enter Tryz.func107, Tryz.ntmps107
    go_wp2_with (go_at_call 115; refine (add_nil _ _).mono ?_; rintro e w2 ⟨rfl, rfl⟩)
    go_end0
    exact ⟨rfl, Below.refl _ _⟩
  | false =>
    go_enter Tryz.func107, Tryz.ntmps107
    go_wp2_with (go_at_call 115; refine (add_nil _ _).mono ?_; rintro e w2 ⟨rfl, rfl⟩)
    go_end0
    exact ⟨rfl, Below.refl _ _⟩
set_option maxRecDepth 100000 in
theorem wdigest_nil (d : List UInt8) (w : World) (hd : d.length = 32) : Calls Tryz.prog 114 #[.pointer none, .agg (d.map byteVal).toArray] w (Told w (.tuple #[])) := by
  have HB := hide (below_alloc' (w := w) (.cells (d.map byteVal).toArray 24))
  have hsl := slice_dig w.heap.size (w.alloc (.cells (d.map byteVal).toArray 24))
  have hcv := run_string_row hd (VRow.new w 24 (d.map byteVal))
  go_enter Tryz.func114, Tryz.ntmps114
  go_wp2_with (go_at_call 115; refine (add_nil _ _).mono ?_; rintro e w2 ⟨rfl, rfl⟩)
  go_end0
  exact ⟨rfl, unhide HB⟩
end Go.Proofs.YthecijjmgfempaaGreat

namespace Go.Proofs.YthecijjmgfempaaGreat
open Go.RowKit

/-- A Reader in its block. -/
abbrev RdAt (w : World) (q : Nat) (st : St) : Prop := VRow w q 82 [.string (str st.1), .int .i64 st.2]
def Rd (w : World) (p : Addr) (st : St) (own : Nat → Prop) : Prop := ∃ q, p = ⟨q, 0, none⟩ ∧ RdAt w q st ∧ ∀ g, own g ↔ g = q
theorem rd_lt {w : World} {p : Addr} {st : St} {own : Nat → Prop} (h : Rd w p st own) : ∀ g, own g → g < w.heap.size := by
  obtain ⟨q, rfl, h1, ho⟩ := h
  intro g hg
  rw [(ho g).1 hg]
  exact h1.lt
theorem rd_keep {w w' : World} {p : Addr} {st : St} {own : Nat → Prop} (h : Rd w p st own) (_ : w.heap.size ≤ w'.heap.size) (hk : ∀ g, own g → w'.heap[g]? = w.heap[g]?) : Rd w' p st own := by
  obtain ⟨q, rfl, h1, ho⟩ := h
  exact ⟨q, rfl, (hk q ((ho q).2 rfl)).trans h1, ho⟩
theorem rd_after {w w' : World} {p : Addr} {st : St} {own : Nat → Prop} (h : Rd w p st own) (hb : Below w.heap.size w w') : Rd w' p st own := rd_keep h hb.size fun g hg => hb.block g (rd_lt h g hg)

set_option maxRecDepth 100000 in
theorem rnew_any (s : ByteArray) (w : World) : Calls Tryz.prog 30 #[.string s] w fun e w' => ∃ p own, e = .returned (.pointer (some p)) ∧ Rd w' p (s.data.toList, 0) own ∧ (∀ g, own g → w.heap.size ≤ g) ∧ Below w.heap.size w w' := by
  go_enter Tryz.func30, Tryz.ntmps30
  go_wp2_with fail
  go_ret
  refine ⟨⟨w.heap.size, 0, none⟩, fun g => g = w.heap.size, rfl, ⟨w.heap.size, rfl, ?_, fun g => Iff.rfl⟩, fun g hg => Nat.le_of_eq hg.symm, below_alloc' _⟩
  show VRow _ _ _ [.string (str s.data.toList), .int .i64 0]
  rw [str_of]
  exact VRow.new w 82 [.string s, .int .i64 0]

set_option maxRecDepth 100000 in
theorem rerr_at {w : World} {q : Nat} {st : St} (h : RdAt w q st) : Calls Tryz.prog 51 #[.pointer (some ⟨q, 0, none⟩)] w fun x w' => x = .returned (.int .i64 st.2) ∧ w' = w := by
  have c1 := h.cell 1 _ rfl
  clear h
  go_enter Tryz.func51, Tryz.ntmps51
  go_wp2_with fail
  go_ret
  exact ⟨rfl, rfl⟩
set_option maxRecDepth 100000 in
theorem rerr_nil (w : World) : Calls Tryz.prog 51 #[.pointer none] w fun x w' => x = .returned (.int .i64 13) ∧ w' = w := by
  go_enter Tryz.func51, Tryz.ntmps51
  go_wp2_with fail
  go_ret
  exact ⟨rfl, rfl⟩
set_option maxRecDepth 100000 in
theorem rleft_at {w : World} {q : Nat} {st : St} (h : RdAt w q st) : Calls Tryz.prog 52 #[.pointer (some ⟨q, 0, none⟩)] w fun x w' => x = .returned (.int .i64 st.1.length) ∧ w' = w := by
  have c0 := h.cell 0 _ rfl
  have hsz := str_size st.1
  generalize str st.1 = S at c0 hsz
  rw [← hsz]
  clear h hsz
  go_enter Tryz.func52, Tryz.ntmps52
  go_wp2_with fail
  go_ret
  exact ⟨rfl, rfl⟩
set_option maxRecDepth 100000 in
theorem rleft_nil (w : World) : Calls Tryz.prog 52 #[.pointer none] w fun x w' => x = .returned (.int .i64 0) ∧ w' = w := by
  go_enter Tryz.func52, Tryz.ntmps52
  go_wp2_with fail
  go_ret
  exact ⟨rfl, rfl⟩

set_option maxRecDepth 100000 in
set_option maxHeartbeats 400000 in
theorem rfail_any {w : World} {p : Addr} {st : St} {own : Nat → Prop} (h : Rd w p st own) (x : Int) :
    Calls Tryz.prog 67 #[.pointer (some p), .int .i64 x] w (Turned Rd own p w (fail st x) (.tuple #[])) := by
  have HW := hide h
  obtain ⟨b, e⟩ := st
  obtain ⟨q, rfl, h1, ho⟩ := h
  have K := hide (rerr_at h1)
  have f1 := h1.frozen 1
  have c1 := h1.cell 1 _ rfl
  have HA := hide h1
  dsimp only at K c1
  clear h1
  by_cases he : e = 0
  · subst he
    rw [show fail (b, 0) x = (b, x) from rfl]
    go_enter Tryz.func67, Tryz.ntmps67
    go_wp2_with (go_at_call 51; refine (unhide K).mono ?_; rintro y w1 ⟨rfl, rfl⟩)
    go_end0
    refine ⟨own, rfl, ⟨q, rfl, (unhide HA).set 1 (.int .i64 x), ho⟩, fun g hg => .inl hg, ?_⟩
    refine ⟨rfl, rfl, rfl, by simp, fun k hk hk2 => ?_⟩
    rw [heap_setCell_other _ ⟨q, 1, none⟩ k _ (fun h => hk2 ((ho k).2 h))]
  · rw [show fail (b, e) x = (b, e) from if_neg he]
    have hne : (e == 0) = false := by simp [he]
    go_enter Tryz.func67, Tryz.ntmps67
    go_wp2_with (go_at_call 51; refine (unhide K).mono ?_; rintro y w1 ⟨rfl, rfl⟩)
    go_end0
    exact turned_refl (unhide HW) (Below.refl _ _)
set_option maxRecDepth 100000 in
theorem rfail_nil (x : Int) (w : World) : Calls Tryz.prog 67 #[.pointer none, .int .i64 x] w (Told w (.tuple #[])) := by
  have K := hide (rerr_nil w)
  obtain ⟨e0, he0⟩ : ∃ e0 : Int, e0 = 13 := ⟨_, rfl⟩
  rw [← he0] at K
  have hne : (e0 == 0) = false := by rw [he0]; rfl
  clear he0
  go_enter Tryz.func67, Tryz.ntmps67
  go_wp2_with (go_at_call 51; refine (unhide K).mono ?_; rintro y w1 ⟨rfl, rfl⟩)
  go_end0
  exact ⟨rfl, Below.refl _ _⟩

set_option maxRecDepth 100000 in
theorem rdone_at {w : World} {q : Nat} {st : St} (h : RdAt w q st) : Calls Tryz.prog 32 #[.pointer (some ⟨q, 0, none⟩)] w fun x w' => x = .returned (.int .i64 (rDone st)) ∧ w' = w := by
  have K := hide (rerr_at h)
  have KL := hide (rleft_at h)
  obtain ⟨b, e⟩ := st
  dsimp only at K KL
  clear h
  by_cases he : e = 0
  · subst he
    cases b with
    | nil =>
      rw [show rDone ([], 0) = 0 from rfl]
      go_enter Tryz.func32, Tryz.ntmps32
      go_wp2_with (first
        | (go_at_call 51; refine (unhide K).mono ?_; rintro y w1 ⟨rfl, rfl⟩)
        | (go_at_call 52; refine (unhide KL).mono ?_; rintro y w2 ⟨rfl, rfl⟩))
      go_ret
      exact ⟨rfl, rfl⟩
    | cons x r =>
      rw [show rDone (x :: r, 0) = 6 from by simp [rDone]]
      obtain ⟨n, hn⟩ : ∃ n : Nat, (x :: r).length = n + 1 := ⟨_, rfl⟩
      rw [hn] at KL
      have hd : decide ((0 : Int) < ((n + 1 : Nat) : Int)) = true := decide_eq_true (by omega)
      clear hn
      generalize ((n + 1 : Nat) : Int) = N at KL hd
      have hd' : (0 : Int) < N := of_decide_eq_true hd
      go_enter Tryz.func32, Tryz.ntmps32
      go_wp2_with (first
        | (go_at_call 51; refine (unhide K).mono ?_; rintro y w1 ⟨rfl, rfl⟩)
        | (go_at_call 52; refine (unhide KL).mono ?_; rintro y w2 ⟨rfl, rfl⟩))
      go_ret
      exact ⟨rfl, rfl⟩
  · rw [show rDone (b, e) = e from if_neg (by simp [he])]
    have hne : (e != 0) = true := by simp [he]
    go_enter Tryz.func32, Tryz.ntmps32
    go_wp2_with (go_at_call 51; refine (unhide K).mono ?_; rintro y w1 ⟨rfl, rfl⟩)
    go_ret
    exact ⟨rfl, rfl⟩
set_option maxRecDepth 100000 in
theorem rdone_nil (w : World) : Calls Tryz.prog 32 #[.pointer none] w (Told w (.int .i64 13)) := by
  have K := hide (rerr_nil w)
  go_enter Tryz.func32, Tryz.ntmps32
  go_wp2_with (go_at_call 51; refine (unhide K).mono ?_; rintro y w1 ⟨rfl, rfl⟩)
  go_ret
  exact ⟨rfl, Below.refl _ _⟩

/-- What is left behind a piece of k bytes, or what was wrong with it. -/
def cut (st : St) (k : Nat) (x : Int) : St := if st.2 ≠ 0 then st else if x ≠ 0 then (st.1, x) else (st.1.drop k, 0)
/-- What is taken. -/
def got {α : Type} (st : St) (x : Int) (none v : α) : α := if st.2 ≠ 0 then none else if x ≠ 0 then none else v

set_option maxRecDepth 100000 in
set_option maxHeartbeats 400000 in
theorem takeN_any {w : World} {p : Addr} {st : St} {own : Nat → Prop} (h : Rd w p st own) (B : Nat) (v : Int) (k : Nat) (x : Int) (hs : st.1.length ≤ 50000000) (hk : x = 0 → k ≤ st.1.length)
    (K : st.2 = 0 → Calls Tryz.prog 135 #[.string (str st.1), .pointer (some ⟨B, 0, none⟩)] w fun e w' => e = .returned (.tuple #[.int .i64 v, .int .i64 k, .int .i64 x]) ∧ Below w.heap.size w w') :
    Calls Tryz.prog 134 #[.pointer (some p), .func (.func 135) #[] #[.pointer (some ⟨B, 0, none⟩)]] w (Turned Rd own p w (cut st k x) (.int .i64 (got st x 0 v))) := by
  have HW := hide h
  obtain ⟨b, e⟩ := st
  obtain ⟨q, rfl, h1, ho⟩ := h
  have KE := hide (rerr_at h1)
  have c0 := h1.cell 0 _ rfl
  dsimp only at KE c0 hs hk K
  by_cases he : e = 0
  · subst he
    have KA := hide (K rfl)
    have HA := hide h1
    clear K h1
    by_cases hx : x = 0
    · subst hx
      have hk' := hk rfl
      rw [show cut (b, 0) k 0 = (b.drop k, 0) from rfl]
      have hsz := str_size b
      have hks : k ≤ (str b).size := by rw [str_size]; exact hk'
      have HX : Hid ((str b).extract k (str b).size = str (b.drop k)) := hide (ext_tail b k)
      have HH := hide hs
      clear hk hk' hs
      go_enter Tryz.func134, Tryz.ntmps134
      go_wp2_with (first
        | (go_at_call 51; refine (unhide KE).mono ?_; rintro y w1 ⟨rfl, rfl⟩)
        | (go_at_call 135; refine (unhide KA).mono ?_; rintro y w1 ⟨rfl, hb⟩; have HB := hide hb; have HR := hide ((unhide HA).after hb); have c1 := (unhide HR).cell 0 _ rfl; have f1 := (unhide HR).frozen 0; dsimp only at c1; clear hb))
      go_ret
      refine ⟨own, by rfl, ⟨q, rfl, ?_, ho⟩, fun g hg => .inl hg, ?_⟩
      · have h2 := (unhide HR).set 0 (.string (str (b.drop k)))
        rw [← unhide HX] at h2
        show VRow _ q 82 [.string (str (b.drop k)), .int .i64 0]
        rw [← unhide HX]
        exact h2
      · refine ⟨(unhide HB).os, (unhide HB).tape, (unhide HB).output, by simpa using (unhide HB).size, fun j hj hj2 => ?_⟩
        rw [heap_setCell_other _ ⟨q, 0, none⟩ j _ (fun h => hj2 ((ho j).2 h))]
        exact (unhide HB).block j hj
    · have hne : (x != 0) = true := by simp [hx]
      rw [show cut (b, 0) k x = (b, x) from by simp [cut, hx], show (got (b, 0) x 0 v) = 0 from by simp [got, hx]]
      clear hk hs
      go_enter Tryz.func134, Tryz.ntmps134
      go_wp2_with (first
        | (go_at_call 51; refine (unhide KE).mono ?_; rintro y w1 ⟨rfl, rfl⟩)
        | (go_at_call 135; refine (unhide KA).mono ?_; rintro y w1 ⟨rfl, hb⟩; have HB := hide hb; clear hb)
        | (go_at_call 67; refine (rfail_any (rd_after (unhide HW) (unhide HB)) x).mono ?_; intro e w2 hm; have HM := hide (turned_of (unhide HB) hm); clear hm; obtain rfl : e = .returned (.tuple #[]) := (unhide HM).choose_spec.1))
      go_ret
      obtain ⟨own', _, h3, h4, h5⟩ := unhide HM
      exact ⟨own', rfl, h3, h4, h5⟩
  · have hne : (e != 0) = true := by simp [he]
    rw [show cut (b, e) k x = (b, e) from if_pos he, show (got (b, e) x 0 v) = 0 from by simp [got, he]]
    clear K hk h1
    go_enter Tryz.func134, Tryz.ntmps134
    go_wp2_with (go_at_call 51; refine (unhide KE).mono ?_; rintro y w1 ⟨rfl, rfl⟩)
    go_ret
    exact turned_refl (unhide HW) (Below.refl _ _)
set_option maxRecDepth 100000 in
theorem takeN_nil (B : Nat) (w : World) : Calls Tryz.prog 134 #[.pointer none, .func (.func 135) #[] #[.pointer (some ⟨B, 0, none⟩)]] w (Told w (.int .i64 0)) := by
  have KE := hide (rerr_nil w)
  go_enter Tryz.func134, Tryz.ntmps134
  go_wp2_with (go_at_call 51; refine (unhide KE).mono ?_; rintro y w1 ⟨rfl, rfl⟩)
  go_ret
  exact ⟨rfl, Below.refl _ _⟩

set_option maxRecDepth 100000 in
set_option maxHeartbeats 400000 in
theorem takeT_any {w : World} {p : Addr} {st : St} {own : Nat → Prop} (h : Rd w p st own) (B : Nat) (v : ByteArray) (k : Nat) (x : Int) (hs : st.1.length ≤ 50000000) (hk : x = 0 → k ≤ st.1.length)
    (K : st.2 = 0 → Calls Tryz.prog 49 #[.string (str st.1), .pointer (some ⟨B, 0, none⟩)] w fun e w' => e = .returned (.tuple #[.string v, .int .i64 k, .int .i64 x]) ∧ Below w.heap.size w w') :
    Calls Tryz.prog 48 #[.pointer (some p), .func (.func 49) #[] #[.pointer (some ⟨B, 0, none⟩)]] w (Turned Rd own p w (cut st k x) (.string (got st x ⟨#[]⟩ v))) := by
  have HW := hide h
  obtain ⟨b, e⟩ := st
  obtain ⟨q, rfl, h1, ho⟩ := h
  have KE := hide (rerr_at h1)
  have c0 := h1.cell 0 _ rfl
  dsimp only at KE c0 hs hk K
  by_cases he : e = 0
  · subst he
    have KA := hide (K rfl)
    have HA := hide h1
    clear K h1
    by_cases hx : x = 0
    · subst hx
      have hk' := hk rfl
      rw [show cut (b, 0) k 0 = (b.drop k, 0) from rfl]
      have hsz := str_size b
      have hks : k ≤ (str b).size := by rw [str_size]; exact hk'
      have HX : Hid ((str b).extract k (str b).size = str (b.drop k)) := hide (ext_tail b k)
      have HH := hide hs
      clear hk hk' hs
      go_enter Tryz.func48, Tryz.ntmps48
      go_wp2_with (first
        | (go_at_call 51; refine (unhide KE).mono ?_; rintro y w1 ⟨rfl, rfl⟩)
        | (go_at_call 49; refine (unhide KA).mono ?_; rintro y w1 ⟨rfl, hb⟩; have HB := hide hb; have HR := hide ((unhide HA).after hb); have c1 := (unhide HR).cell 0 _ rfl; have f1 := (unhide HR).frozen 0; dsimp only at c1; clear hb))
      go_ret
      refine ⟨own, by rfl, ⟨q, rfl, ?_, ho⟩, fun g hg => .inl hg, ?_⟩
      · have h2 := (unhide HR).set 0 (.string (str (b.drop k)))
        rw [← unhide HX] at h2
        show VRow _ q 82 [.string (str (b.drop k)), .int .i64 0]
        rw [← unhide HX]
        exact h2
      · refine ⟨(unhide HB).os, (unhide HB).tape, (unhide HB).output, by simpa using (unhide HB).size, fun j hj hj2 => ?_⟩
        rw [heap_setCell_other _ ⟨q, 0, none⟩ j _ (fun h => hj2 ((ho j).2 h))]
        exact (unhide HB).block j hj
    · have hne : (x != 0) = true := by simp [hx]
      rw [show cut (b, 0) k x = (b, x) from by simp [cut, hx], show (got (b, 0) x ⟨#[]⟩ v) = ⟨#[]⟩ from by simp [got, hx]]
      clear hk hs
      go_enter Tryz.func48, Tryz.ntmps48
      go_wp2_with (first
        | (go_at_call 51; refine (unhide KE).mono ?_; rintro y w1 ⟨rfl, rfl⟩)
        | (go_at_call 49; refine (unhide KA).mono ?_; rintro y w1 ⟨rfl, hb⟩; have HB := hide hb; clear hb)
        | (go_at_call 67; refine (rfail_any (rd_after (unhide HW) (unhide HB)) x).mono ?_; intro e w2 hm; have HM := hide (turned_of (unhide HB) hm); clear hm; obtain rfl : e = .returned (.tuple #[]) := (unhide HM).choose_spec.1))
      go_ret
      obtain ⟨own', _, h3, h4, h5⟩ := unhide HM
      exact ⟨own', rfl, h3, h4, h5⟩
  · have hne : (e != 0) = true := by simp [he]
    rw [show cut (b, e) k x = (b, e) from if_pos he, show (got (b, e) x ⟨#[]⟩ v) = ⟨#[]⟩ from by simp [got, he]]
    clear K hk h1
    go_enter Tryz.func48, Tryz.ntmps48
    go_wp2_with (go_at_call 51; refine (unhide KE).mono ?_; rintro y w1 ⟨rfl, rfl⟩)
    go_ret
    exact turned_refl (unhide HW) (Below.refl _ _)
set_option maxRecDepth 100000 in
theorem takeT_nil (B : Nat) (w : World) : Calls Tryz.prog 48 #[.pointer none, .func (.func 49) #[] #[.pointer (some ⟨B, 0, none⟩)]] w (Told w (.string ⟨#[]⟩)) := by
  have KE := hide (rerr_nil w)
  go_enter Tryz.func48, Tryz.ntmps48
  go_wp2_with (go_at_call 51; refine (unhide KE).mono ?_; rintro y w1 ⟨rfl, rfl⟩)
  go_ret
  exact ⟨rfl, Below.refl _ _⟩

set_option maxRecDepth 100000 in
set_option maxHeartbeats 400000 in
theorem takeF_any {w : World} {p : Addr} {st : St} {own : Nat → Prop} (h : Rd w p st own) (v : Bool) (k : Nat) (x : Int) (hs : st.1.length ≤ 50000000) (hk : x = 0 → k ≤ st.1.length)
    (K : st.2 = 0 → Calls Tryz.prog 129 #[.string (str st.1)] w fun e w' => e = .returned (.tuple #[.bool v, .int .i64 k, .int .i64 x]) ∧ Below w.heap.size w w') :
    Calls Tryz.prog 128 #[.pointer (some p), .func (.func 129) #[] #[]] w (Turned Rd own p w (cut st k x) (.bool (got st x false v))) := by
  have HW := hide h
  obtain ⟨b, e⟩ := st
  obtain ⟨q, rfl, h1, ho⟩ := h
  have KE := hide (rerr_at h1)
  have c0 := h1.cell 0 _ rfl
  dsimp only at KE c0 hs hk K
  by_cases he : e = 0
  · subst he
    have KA := hide (K rfl)
    have HA := hide h1
    clear K h1
    by_cases hx : x = 0
    · subst hx
      have hk' := hk rfl
      rw [show cut (b, 0) k 0 = (b.drop k, 0) from rfl]
      have hsz := str_size b
      have hks : k ≤ (str b).size := by rw [str_size]; exact hk'
      have HX : Hid ((str b).extract k (str b).size = str (b.drop k)) := hide (ext_tail b k)
      have HH := hide hs
      clear hk hk' hs
      go_enter Tryz.func128, Tryz.ntmps128
      go_wp2_with (first
        | (go_at_call 51; refine (unhide KE).mono ?_; rintro y w1 ⟨rfl, rfl⟩)
        | (go_at_call 129; refine (unhide KA).mono ?_; rintro y w1 ⟨rfl, hb⟩; have HB := hide hb; have HR := hide ((unhide HA).after hb); have c1 := (unhide HR).cell 0 _ rfl; have f1 := (unhide HR).frozen 0; dsimp only at c1; clear hb))
      go_ret
      refine ⟨own, by rfl, ⟨q, rfl, ?_, ho⟩, fun g hg => .inl hg, ?_⟩
      · have h2 := (unhide HR).set 0 (.string (str (b.drop k)))
        rw [← unhide HX] at h2
        show VRow _ q 82 [.string (str (b.drop k)), .int .i64 0]
        rw [← unhide HX]
        exact h2
      · refine ⟨(unhide HB).os, (unhide HB).tape, (unhide HB).output, by simpa using (unhide HB).size, fun j hj hj2 => ?_⟩
        rw [heap_setCell_other _ ⟨q, 0, none⟩ j _ (fun h => hj2 ((ho j).2 h))]
        exact (unhide HB).block j hj
    · have hne : (x != 0) = true := by simp [hx]
      rw [show cut (b, 0) k x = (b, x) from by simp [cut, hx], show (got (b, 0) x false v) = false from by simp [got, hx]]
      clear hk hs
      go_enter Tryz.func128, Tryz.ntmps128
      go_wp2_with (first
        | (go_at_call 51; refine (unhide KE).mono ?_; rintro y w1 ⟨rfl, rfl⟩)
        | (go_at_call 129; refine (unhide KA).mono ?_; rintro y w1 ⟨rfl, hb⟩; have HB := hide hb; clear hb)
        | (go_at_call 67; refine (rfail_any (rd_after (unhide HW) (unhide HB)) x).mono ?_; intro e w2 hm; have HM := hide (turned_of (unhide HB) hm); clear hm; obtain rfl : e = .returned (.tuple #[]) := (unhide HM).choose_spec.1))
      go_ret
      obtain ⟨own', _, h3, h4, h5⟩ := unhide HM
      exact ⟨own', rfl, h3, h4, h5⟩
  · have hne : (e != 0) = true := by simp [he]
    rw [show cut (b, e) k x = (b, e) from if_pos he, show (got (b, e) x false v) = false from by simp [got, he]]
    clear K hk h1
    go_enter Tryz.func128, Tryz.ntmps128
    go_wp2_with (go_at_call 51; refine (unhide KE).mono ?_; rintro y w1 ⟨rfl, rfl⟩)
    go_ret
    exact turned_refl (unhide HW) (Below.refl _ _)
set_option maxRecDepth 100000 in
theorem takeF_nil (w : World) : Calls Tryz.prog 128 #[.pointer none, .func (.func 129) #[] #[]] w (Told w (.bool false)) := by
  have KE := hide (rerr_nil w)
  go_enter Tryz.func128, Tryz.ntmps128
  go_wp2_with (go_at_call 51; refine (unhide KE).mono ?_; rintro y w1 ⟨rfl, rfl⟩)
  go_ret
  exact ⟨rfl, Below.refl _ _⟩
end Go.Proofs.YthecijjmgfempaaGreat
