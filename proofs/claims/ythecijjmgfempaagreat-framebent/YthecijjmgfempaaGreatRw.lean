/-
  A row of lists of the call's own, and what is appended to it; the program's Rows.
-/
import Derived.Test.YthecijjmgfempaaGreatSame
import Derived.Test.YthecijjmgfempaaGreatR3
import Derived.Test.YthecijjmgfempaaGreatT3o
namespace Go.Proofs.YthecijjmgfempaaGreat
open Go.RowKit

theorem info24 : (Tryz.prog.info? 25).map (fun i => (i.zero, i.size, i.bytes)) = some (some (.slice none 0 0), 1, 24) := by kernel_rfl
/-- A list that lies apart from a row. -/
def ApartR (row : Option Nat) (r : Option Addr) (ds : List Vc.D) : Prop := ∀ ad, r = some ad → 0 < ds.length → some ad.block ≠ row
/-- A row of lists of the call's own. -/
structure OwR (W : World) (base : Nat) (l : Value) (rows : List (List Vc.D)) : Prop where
  is : ∃ ps : List RP, ps.map (·.1) = rows ∧ W.ownsRow base 25 1 l ps.length (flatR ps) ∧ ∀ x ∈ ps, x.1.length ≤ x.2.2 ∧ Sl W x.2.1 x.1 ∧ ApartR l.ownBlock x.2.1 x.1
theorem OwR.nil (W : World) (base : Nat) : OwR W base (.slice none 0 0) [] := ⟨[], rfl, World.ownsRow_nil _ _ _ _, fun _ h => by cases h⟩
theorem OwR.after {W W' : World} {base : Nat} {l : Value} {rows : List (List Vc.D)} (h : OwR W base l rows) (hb : Below W.heap.size W W') : OwR W' base l rows := by
  obtain ⟨ps, h1, h2, h3⟩ := h.is
  exact ⟨ps, h1, own_after h2 hb, fun x hx => ⟨(h3 x hx).1, (h3 x hx).2.1.after hb, (h3 x hx).2.2⟩⟩
theorem OwR.lt {W : World} {base : Nat} {l : Value} {rows : List (List Vc.D)} (h : OwR W base l rows) : ∀ g, l.ownBlock = some g → g < W.heap.size := fun g e => by
  obtain ⟨ps, _, h2, _⟩ := h.is
  rcases h2.2 with ⟨rfl, _⟩ | ⟨g', cap, cur, rfl, e2, e3, _⟩
  · cases e
  · injection e with e
    subst e
    exact (Array.getElem?_eq_some_iff.1 e3).1
/-- What was handed out later lies apart. -/
theorem OwR.apart {W : World} {base : Nat} {l : Value} {rows : List (List Vc.D)} (h : OwR W base l rows) {r : Option Addr} {ds : List Vc.D} (hf : Fresh W.heap.size r ds) : ApartR l.ownBlock r ds := fun ad e h0 e' => by
  have h1 := h.lt _ e'.symm
  have h2 := hf ad e h0
  omega
theorem OwR.rl {W : World} {base : Nat} {l : Value} {rows : List (List Vc.D)} (h : OwR W base l rows) : ∃ a cap, l = .slice a rows.length cap ∧ rows.length ≤ cap ∧ RL W a rows := by
  obtain ⟨ps, rfl, h2, h3⟩ := h.is
  rcases h2.2 with ⟨rfl, h0⟩ | ⟨g, cap, cur, rfl, hg, hh, c1, c2, c3, c4⟩
  · have : ps = [] := List.eq_nil_of_length_eq_zero h0
    subst this
    exact ⟨none, 0, rfl, Nat.le_refl _, RL.none _ _⟩
  · refine ⟨_, cap, by rw [List.length_map], by rw [List.length_map]; exact c1, fun _ => ⟨g, 0, rfl, (Array.getElem?_eq_some_iff.1 hh).1, fun j ds hj => ?_⟩⟩
    rw [List.getElem?_map] at hj
    obtain ⟨x, hx, rfl⟩ := Option.map_eq_some_iff.1 hj
    have hjl : j < ps.length := (List.getElem?_eq_some_iff.1 hx).1
    have hm := h3 x (List.mem_of_getElem? hx)
    refine ⟨x.2.1, x.2.2, ?_, hm.1, hm.2.1⟩
    rw [Nat.zero_add, cell_of_row W g _ cur 25 (0, 0) hh]
    have h5 : (cur.toList.take (ps.length * 1))[j]? = (flatR ps)[j]? := by rw [c4]
    rw [List.getElem?_take_of_lt (by omega), flatR, List.getElem?_map, hx] at h5
    simpa using h5
/-- A list appended to such a row. -/
theorem append_row {w : World} {ops : Array Oper} {rest : List Oper} {o : Oper} {a : Act} {Q : Exit → Act → World → Prop} (hgd : o.guard = none) (s x : Operand)
    (ho : o.op = .call { callee := .builtin .append, args := #[s, x], argTypes := #[26, 26] }) (base : Nat) (v : Value) (rows : List (List Vc.D)) (hs : a.eval s = v) (hown : OwR w base v rows)
    (g c : Nat) (hx : a.eval x = .slice (some ⟨g, 0, none⟩) 1 c) (r : Option Addr) (cc : Nat) (ds : List Vc.D) (hcell : w.cell? ⟨g, 0, none⟩ = some (.slice r ds.length cc)) (hcc : ds.length ≤ cc) (hsl : Sl w r ds) (hap : ApartR v.ownBlock r ds) (hn : rows.length ≤ 200000) (hbase : base ≤ w.heap.size)
    (h : ∀ v' w', OwR w' base v' (rows ++ [ds]) → Below base w w' → wpList Tryz.prog ops Q rest (a.put o.dst v') w') : wpList Tryz.prog ops Q (o :: rest) a w := by
  obtain ⟨i0, hi, hz0, hz1, hz2⟩ := info_parts info24
  obtain ⟨ps, e1, e2, e3⟩ := hown.is
  subst e1
  rw [List.length_map] at hn
  have keep : ∀ {w' : World} {v' : Value}, w.grownBy w' v.ownBlock → (v'.ownBlock = v.ownBlock ∨ v'.ownBlock = some w.heap.size) → ∀ {q : Option Addr} {ds : List Vc.D}, Sl w q ds → ApartR v.ownBlock q ds → Sl w' q ds ∧ ApartR v'.ownBlock q ds := by
    intro w' v' hg hv' q ds hq ha
    refine ⟨fun h0 => ?_, fun ad e h0 => ?_⟩
    · obtain ⟨g, o, e, hlt, hc⟩ := hq h0
      have hne := ha _ e h0
      have hk : ∀ k, w'.cell? ⟨g, k, none⟩ = w.cell? ⟨g, k, none⟩ := fun k => World.cell?_of_block (hg.block g hlt hne)
      refine ⟨g, o, e, Nat.lt_of_lt_of_le hlt hg.size, fun j d hj => ?_⟩
      rw [hk, hk]
      exact hc j d hj
    · rcases hv' with e' | e'
      · rw [e']; exact ha ad e h0
      · rw [e']
        obtain ⟨g, o, e2, hlt, _⟩ := hq h0
        rw [e] at e2
        injection e2 with e2
        subst e2
        intro h
        injection h with h
        have : g = w.heap.size := h
        omega
  refine wpList_append_own_at w hgd s x 26 ho base 25 i0 _ 1 24 Tryz.underlying26 hi hz0 hz1 hz2 rfl (by decide) v ps.length (flatR ps) hs e2 ⟨g, 0, none⟩ 1 c [.slice r ds.length cc] hx rfl ?_ (by simp [Value.oneCell']) (by unfold maxLen; omega) (by omega) hbase ?_
  · intro j u hu
    obtain ⟨rfl, rfl⟩ : j = 0 ∧ u = .slice r ds.length cc := by
      cases j with
      | zero => simp at hu; exact ⟨rfl, hu.symm⟩
      | succ j => simp at hu
    rw [show (⟨g, 0, none⟩ : Addr).add 0 = ⟨g, 0, none⟩ by unfold Addr.add; split <;> simp_all]
    exact hcell
  · intro v' w' g1 g2 _ g4
    refine h v' w' ⟨ps ++ [(ds, r, cc)], by rw [List.map_append]; rfl, by rw [List.length_append]; simpa [flatR] using g1, fun x hx => ?_⟩ (grown_below e2 g2 hbase)
    rcases List.mem_append.1 hx with hx | hx
    · exact ⟨(e3 x hx).1, keep g2 g4 (e3 x hx).2.1 (e3 x hx).2.2⟩
    · rw [List.mem_singleton.1 hx]
      exact ⟨hcc, keep g2 g4 hsl hap⟩
end Go.Proofs.YthecijjmgfempaaGreat

namespace Go.Proofs.YthecijjmgfempaaGreat
open Go.RowKit

theorem takeD_any {w : World} {q : Nat} {st : St} (h : RdAt w q st) (hs : st.1.length ≤ 50000000) :
    Calls Tryz.prog 132 #[.pointer (some ⟨q, 0, none⟩), .func (.func 133) #[] #[]] w (DigMade q w (rDigest st).2 (rDigest st).1) := by
  obtain ⟨b, e⟩ := st
  rw [rDigest_ahead]
  dsimp only at hs ⊢
  by_cases he : e = 0
  · subst he
    by_cases hx : (aheadD b).2.2 = 0
    · rw [show got (b, 0) (aheadD b).2.2 zero32 (aheadD b).1 = (aheadD b).1 from by simp [got, hx], show cut (b, 0) (aheadD b).2.1 (aheadD b).2.2 = (b.drop (aheadD b).2.1, 0) from by simp [cut, hx]]
      refine takeD_good (aheadD_ok b hx) hs (aheadD_len b) h fun W => ?_
      have := digestAhead_any b W
      rw [hx] at this
      exact this
    · rw [show got (b, 0) (aheadD b).2.2 zero32 (aheadD b).1 = zero32 from by simp [got, hx], show cut (b, 0) (aheadD b).2.1 (aheadD b).2.2 = (b, (aheadD b).2.2) from by simp [cut, hx]]
      exact takeD_wrong hx (aheadD_len b) h fun W => digestAhead_any b W
  · rw [show got (b, e) (aheadD b).2.2 zero32 (aheadD b).1 = zero32 from if_pos he, show cut (b, e) (aheadD b).2.1 (aheadD b).2.2 = (b, e) from if_pos he]
    exact takeD_bad he h

set_option maxRecDepth 100000 in
set_option maxHeartbeats 400000 in
theorem rdigest_any {w : World} {p : Addr} {st : St} {own : Nat → Prop} (h : Rd w p st own) (hs : st.1.length ≤ 50000000) :
    Calls Tryz.prog 127 #[.pointer (some p)] w (Turned Rd own p w (rDigest st).2 (.agg ((rDigest st).1.map byteVal).toArray)) := by
  obtain ⟨q, rfl, h1, ho⟩ := h
  have hq := h1.lt
  have HK := hide (takeD_any (h1.alloc (.cells (zero32.map byteVal).toArray 24)) hs)
  have hl : (rDigest st).1.length = 32 := by
    rw [rDigest_ahead]
    show (got st _ zero32 _).length = 32
    unfold got
    split
    · rfl
    · split
      · rfl
      · exact aheadD_len _
  have HL := hide (show ((rDigest st).1.map byteVal).length = 32 from by rw [List.length_map]; exact hl)
  generalize (rDigest st).1 = d at HK HL ⊢
  generalize (rDigest st).2 = S at HK ⊢
  have HZ := hide (VRow.new w 24 (zero32.map byteVal))
  have HB := hide (below_alloc' (w := w) (.cells (zero32.map byteVal).toArray 24))
  have HO := hide ho
  clear h1 hl hs ho
  go_enter Tryz.func127, Tryz.ntmps127
  go_wp2_with (first
    | (go_at_call 132; refine (unhide HK).mono ?_; rintro y w1 ⟨rfl, hr, hb⟩; have HR := hide hr; have HBS := hide hb; have HZ1 := hide ((unhide HZ).beside hb (by omega)); clear hr hb)
    | (refine store_row (by rfl) 24 (.tmp 2) (.tmp 4) (by rfl) w.heap.size (d.map byteVal) (by rfl) (by rfl) 24 (zero32.map byteVal) (unhide HZ1) 32 sizeDg (unhide HL) rfl (one_bytes _) ?_; intro w2 ho2 hr2; have HR2 := hide hr2; have HO2 := hide ho2; clear ho2 hr2))
  refine bodyPost_ret (v := .agg (d.map byteVal).toArray) ?_ rfl ⟨own, rfl, ⟨q, rfl, (unhide HR).only (unhide HO2) (by omega), unhide HO⟩, fun g hg => .inl hg, ?_⟩
  · exact results_row24 _ _ w.heap.size _ rfl (unhide HR2) (unhide HL)
  · have h5 := ((beside_of (own := (· = q)) (unhide HB)).trans (unhide HBS)).only (unhide HO2) (Nat.le_refl _)
    exact ⟨h5.os, h5.tape, h5.output, h5.size, fun k hk hk2 => h5.block k hk fun e => hk2 ((unhide HO k).2 e)⟩

end Go.Proofs.YthecijjmgfempaaGreat

namespace Go.Proofs.YthecijjmgfempaaGreat
open Go.RowKit

theorem rDigest_len (st : St) : (rDigest st).2.1.length ≤ st.1.length := by
  unfold rDigest
  split
  · exact Nat.le_refl _
  · split
    · exact Nat.le_refl _
    · rw [List.length_drop]; omega
theorem rDigest_32 (st : St) : (rDigest st).1.length = 32 := by
  unfold rDigest
  split
  · rfl
  · split
    · rfl
    · rename_i h; rw [List.length_take]; omega
/-- The two blocks that turn while a message is taken: the reader's and the message's. -/
abbrev two (q B : Nat) : Nat → Prop := fun g => g = q ∨ g = B
/-- What has come of the reader at q and of the message at B. -/
structure TS (B q : Nat) (w : World) (st : St) (m : Msg) (a : Option Addr) (c : Nat) (b : Option Addr) (d : Nat) (W : World) : Prop where
  row : VRow W B 28 (mL m a c b d)
  doc : Doc W q 82 st
  keep : Beside (two q B) w W
def TMade (B q : Nat) (w : World) (st : St) (m : Msg) (a : Option Addr) (c : Nat) (b : Option Addr) (d : Nat) (e : Ending) (w' : World) : Prop := e = .returned (.tuple #[]) ∧ TS B q w st m a c b d w'
theorem Beside.weak {o o' : Nat → Prop} {w w' : World} (h : Beside o w w') (ho : ∀ g, o g → o' g) : Beside o' w w' := ⟨h.os, h.tape, h.output, h.size, fun k hk hn => h.block k hk fun hc => hn (ho k hc)⟩
section
variable {w W W' : World} {B q : Nat} {st st' : St} {m m' : Msg} {a b a' b' : Option Addr} {c d c' d' : Nat}
theorem TS.start (hr : VRow w B 28 (mL m a c b d)) (hd : Doc w q 82 st) : TS B q w st m a c b d w := ⟨hr, hd, Beside.refl _ _⟩
theorem TS.after (h : TS B q w st m a c b d W) (hb : Below W.heap.size W W') : TS B q w st m a c b d W' := ⟨h.row.after hb, h.doc.after hb, h.keep.trans (beside_of hb)⟩
theorem TS.drew (h : TS B q w st m a c b d W) : TS B q w st m a c b d W.drew := h.after (below_drew (Below.refl _ _))
theorem TS.trans (h : TS B q w st m a c b d W) (h2 : TS B q W st' m' a' c' b' d' W') : TS B q w st' m' a' c' b' d' W' := ⟨h2.row, h2.doc, h.keep.trans h2.keep⟩
theorem TS.call {f : Nat} {args : Array Value} (h : TS B q w st m a c b d W) (K : VRow W B 28 (mL m a c b d) → Doc W q 82 st → Calls Tryz.prog f args W (TMade B q W st' m' a' c' b' d')) :
    Calls Tryz.prog f args W fun e w' => e = .returned (.tuple #[]) ∧ TS B q w st' m' a' c' b' d' w' := (K h.row h.doc).mono fun _ _ hm => ⟨hm.1, h.trans hm.2⟩
theorem Doc.beside2 {W W2 : World} {B q T : Nat} {st : St} (h : Doc W q T st) (hb : Beside (· = B) W W2) (hne : B ≠ q) : Doc W2 q T st := VRow.beside h hb fun e => hne e.symm
/-- Behind a call that turned the reader alone, and a store into the message. -/
theorem TS.stored {k : Nat} {v : Value} {W1 : World} (hne : B ≠ q) (hd : DS q 82 w st W1) (hr : VRow (W1.setCell ⟨B, k, none⟩ v) B 28 (mL m a c b d)) : TS B q w st m a c b d (W1.setCell ⟨B, k, none⟩ v) :=
  ⟨hr, (heap_setCell_other W1 ⟨B, k, none⟩ q v hne.symm).trans hd.1, (hd.2.weak fun _ h => Or.inl h).trans ((beside_set B k W1 v).weak fun _ h => Or.inr h)⟩
theorem TS.below {w0 : World} (h : TS B q w st m a c b d W) (hB : w0.heap.size ≤ B) (hq : w0.heap.size ≤ q) (hb : w0.heap.size ≤ w.heap.size) : Below w0.heap.size w W := h.keep.below hb fun g hg => by rcases hg with rfl | rfl <;> assumption
abbrev tkV (q : Nat) : Value := .agg #[.pointer (some ⟨q, 0, none⟩)]
set_option maxRecDepth 100000 in
set_option maxHeartbeats 400000 in
theorem tfail_any (hr : VRow w B 28 (mL m a c b d)) (h : Doc w q 82 st) (hne : B ≠ q) (x : Int) : Calls Tryz.prog 67 #[.pointer (some ⟨q, 0, none⟩), .int .i64 x] w (TMade B q w (fail st x) m a c b d) :=
  (rfail_d h x).mono fun _ _ hm => ⟨hm.1, hr.beside hm.2.2 hne, hm.2.1, hm.2.2.weak fun _ hg => Or.inl hg⟩
set_option maxRecDepth 100000 in
set_option maxHeartbeats 400000 in
theorem tnumber0_any (hr : VRow w B 28 (mL m a c b d)) (h : Doc w q 82 st) (hs : st.1.length ≤ 50000000) (hne : B ≠ q) (hrt : m.root.length = 32) (most : Int) :
    Calls Tryz.prog 123 #[tkV q, .pointer (some ⟨B, 0, none⟩), .int .i64 most] w (TMade B q w ((rNumber st most).2) { m with kind := (rNumber st most).1 } a c b d) := by
  have HB := hide (below_alloc' (w := w) (.cells #[.pointer (some ⟨q, 0, none⟩)] 89))
  have x0 := new_one w (.pointer (some ⟨q, 0, none⟩)) 89
  have HQ := hide h.lt
  have HBL := hide hr.lt
  have HR := hide (hr.after (unhide HB))
  have KD := hide ((DS.start (h.after (unhide HB))).call fun hx => rnumber_d hx hs most)
  have HNE := hide hne
  have HRT := hide hrt
  clear h hs hr hne hrt
  go_enter Tryz.func123, Tryz.ntmps123
  go_wp2_with fail
  refine (unhide KD).mono ?_
  rintro e w1 ⟨rfl, hd⟩
  have HD := hide hd
  have h1 := (unhide HD).row (unhide HR) (unhide HNE)
  have HV := hide (set0 h1 (rNumber st most).1)
  have x1 := h1.cell 0 _ rfl
  have f1 := h1.frozen 0
  clear hd h1 x0
  go_wp2_with fail
  go_end0
  exact ⟨rfl, TS.stored (unhide HNE) ((unhide HD).of (unhide HB)) (unhide HV)⟩
set_option maxRecDepth 100000 in
set_option maxHeartbeats 400000 in
theorem tnumber1_any (hr : VRow w B 28 (mL m a c b d)) (h : Doc w q 82 st) (hs : st.1.length ≤ 50000000) (hne : B ≠ q) (hrt : m.root.length = 32) (most : Int) :
    Calls Tryz.prog 123 #[tkV q, .pointer (some ⟨B, 1, none⟩), .int .i64 most] w (TMade B q w ((rNumber st most).2) { m with frm := (rNumber st most).1 } a c b d) := by
  have HB := hide (below_alloc' (w := w) (.cells #[.pointer (some ⟨q, 0, none⟩)] 89))
  have x0 := new_one w (.pointer (some ⟨q, 0, none⟩)) 89
  have HQ := hide h.lt
  have HBL := hide hr.lt
  have HR := hide (hr.after (unhide HB))
  have KD := hide ((DS.start (h.after (unhide HB))).call fun hx => rnumber_d hx hs most)
  have HNE := hide hne
  have HRT := hide hrt
  clear h hs hr hne hrt
  go_enter Tryz.func123, Tryz.ntmps123
  go_wp2_with fail
  refine (unhide KD).mono ?_
  rintro e w1 ⟨rfl, hd⟩
  have HD := hide hd
  have h1 := (unhide HD).row (unhide HR) (unhide HNE)
  have HV := hide (set1 h1 (rNumber st most).1)
  have x1 := h1.cell 1 _ rfl
  have f1 := h1.frozen 1
  clear hd h1 x0
  go_wp2_with fail
  go_end0
  exact ⟨rfl, TS.stored (unhide HNE) ((unhide HD).of (unhide HB)) (unhide HV)⟩
set_option maxRecDepth 100000 in
set_option maxHeartbeats 400000 in
theorem tnumber2_any (hr : VRow w B 28 (mL m a c b d)) (h : Doc w q 82 st) (hs : st.1.length ≤ 50000000) (hne : B ≠ q) (hrt : m.root.length = 32) (most : Int) :
    Calls Tryz.prog 123 #[tkV q, .pointer (some ⟨B, 2, none⟩), .int .i64 most] w (TMade B q w ((rNumber st most).2) { m with dst := (rNumber st most).1 } a c b d) := by
  have HB := hide (below_alloc' (w := w) (.cells #[.pointer (some ⟨q, 0, none⟩)] 89))
  have x0 := new_one w (.pointer (some ⟨q, 0, none⟩)) 89
  have HQ := hide h.lt
  have HBL := hide hr.lt
  have HR := hide (hr.after (unhide HB))
  have KD := hide ((DS.start (h.after (unhide HB))).call fun hx => rnumber_d hx hs most)
  have HNE := hide hne
  have HRT := hide hrt
  clear h hs hr hne hrt
  go_enter Tryz.func123, Tryz.ntmps123
  go_wp2_with fail
  refine (unhide KD).mono ?_
  rintro e w1 ⟨rfl, hd⟩
  have HD := hide hd
  have h1 := (unhide HD).row (unhide HR) (unhide HNE)
  have HV := hide (set2 h1 (rNumber st most).1)
  have x1 := h1.cell 2 _ rfl
  have f1 := h1.frozen 2
  clear hd h1 x0
  go_wp2_with fail
  go_end0
  exact ⟨rfl, TS.stored (unhide HNE) ((unhide HD).of (unhide HB)) (unhide HV)⟩
set_option maxRecDepth 100000 in
set_option maxHeartbeats 400000 in
theorem tnumber3_any (hr : VRow w B 28 (mL m a c b d)) (h : Doc w q 82 st) (hs : st.1.length ≤ 50000000) (hne : B ≠ q) (hrt : m.root.length = 32) (most : Int) :
    Calls Tryz.prog 123 #[tkV q, .pointer (some ⟨B, 3, none⟩), .int .i64 most] w (TMade B q w ((rNumber st most).2) { m with sid := (rNumber st most).1 } a c b d) := by
  have HB := hide (below_alloc' (w := w) (.cells #[.pointer (some ⟨q, 0, none⟩)] 89))
  have x0 := new_one w (.pointer (some ⟨q, 0, none⟩)) 89
  have HQ := hide h.lt
  have HBL := hide hr.lt
  have HR := hide (hr.after (unhide HB))
  have KD := hide ((DS.start (h.after (unhide HB))).call fun hx => rnumber_d hx hs most)
  have HNE := hide hne
  have HRT := hide hrt
  clear h hs hr hne hrt
  go_enter Tryz.func123, Tryz.ntmps123
  go_wp2_with fail
  refine (unhide KD).mono ?_
  rintro e w1 ⟨rfl, hd⟩
  have HD := hide hd
  have h1 := (unhide HD).row (unhide HR) (unhide HNE)
  have HV := hide (set3 h1 (rNumber st most).1)
  have x1 := h1.cell 3 _ rfl
  have f1 := h1.frozen 3
  clear hd h1 x0
  go_wp2_with fail
  go_end0
  exact ⟨rfl, TS.stored (unhide HNE) ((unhide HD).of (unhide HB)) (unhide HV)⟩
set_option maxRecDepth 100000 in
set_option maxHeartbeats 400000 in
theorem tflag_any (hr : VRow w B 28 (mL m a c b d)) (h : Doc w q 82 st) (hs : st.1.length ≤ 50000000) (hne : B ≠ q) (hrt : m.root.length = 32) :
    Calls Tryz.prog 122 #[tkV q, .pointer (some ⟨B, 4, none⟩)] w (TMade B q w ((rFlag st).2) { m with turn := (rFlag st).1 } a c b d) := by
  have HB := hide (below_alloc' (w := w) (.cells #[.pointer (some ⟨q, 0, none⟩)] 89))
  have x0 := new_one w (.pointer (some ⟨q, 0, none⟩)) 89
  have HQ := hide h.lt
  have HBL := hide hr.lt
  have HR := hide (hr.after (unhide HB))
  have KD := hide ((DS.start (h.after (unhide HB))).call fun hx => rflag_d hx hs)
  have HNE := hide hne
  have HRT := hide hrt
  clear h hs hr hne hrt
  go_enter Tryz.func122, Tryz.ntmps122
  go_wp2_with fail
  refine (unhide KD).mono ?_
  rintro e w1 ⟨rfl, hd⟩
  have HD := hide hd
  have h1 := (unhide HD).row (unhide HR) (unhide HNE)
  have HV := hide (set4 h1 (rFlag st).1)
  have x1 := h1.cell 4 _ rfl
  have f1 := h1.frozen 4
  clear hd h1 x0
  go_wp2_with fail
  go_end0
  exact ⟨rfl, TS.stored (unhide HNE) ((unhide HD).of (unhide HB)) (unhide HV)⟩
set_option maxRecDepth 100000 in
set_option maxHeartbeats 400000 in
theorem ttext5_any (hr : VRow w B 28 (mL m a c b d)) (h : Doc w q 82 st) (hs : st.1.length ≤ 50000000) (hne : B ≠ q) (hrt : m.root.length = 32) (most : Int) :
    Calls Tryz.prog 125 #[tkV q, .pointer (some ⟨B, 5, none⟩), .int .i64 most] w (TMade B q w ((rText st most).2) { m with path := str (rText st most).1 } a c b d) := by
  have HB := hide (below_alloc' (w := w) (.cells #[.pointer (some ⟨q, 0, none⟩)] 89))
  have x0 := new_one w (.pointer (some ⟨q, 0, none⟩)) 89
  have HQ := hide h.lt
  have HBL := hide hr.lt
  have HR := hide (hr.after (unhide HB))
  have KD := hide ((DS.start (h.after (unhide HB))).call fun hx => rtext_d hx hs most)
  have HNE := hide hne
  have HRT := hide hrt
  clear h hs hr hne hrt
  go_enter Tryz.func125, Tryz.ntmps125
  go_wp2_with fail
  refine (unhide KD).mono ?_
  rintro e w1 ⟨rfl, hd⟩
  have HD := hide hd
  have h1 := (unhide HD).row (unhide HR) (unhide HNE)
  have HV := hide (set5 h1 (str (rText st most).1))
  have x1 := h1.cell 5 _ rfl
  have f1 := h1.frozen 5
  clear hd h1 x0
  go_wp2_with fail
  go_end0
  exact ⟨rfl, TS.stored (unhide HNE) ((unhide HD).of (unhide HB)) (unhide HV)⟩
set_option maxRecDepth 100000 in
set_option maxHeartbeats 400000 in
theorem ttext40_any (hr : VRow w B 28 (mL m a c b d)) (h : Doc w q 82 st) (hs : st.1.length ≤ 50000000) (hne : B ≠ q) (hrt : m.root.length = 32) (most : Int) :
    Calls Tryz.prog 125 #[tkV q, .pointer (some ⟨B, 40, none⟩), .int .i64 most] w (TMade B q w ((rText st most).2) { m with text := str (rText st most).1 } a c b d) := by
  have HB := hide (below_alloc' (w := w) (.cells #[.pointer (some ⟨q, 0, none⟩)] 89))
  have x0 := new_one w (.pointer (some ⟨q, 0, none⟩)) 89
  have HQ := hide h.lt
  have HBL := hide hr.lt
  have HR := hide (hr.after (unhide HB))
  have KD := hide ((DS.start (h.after (unhide HB))).call fun hx => rtext_d hx hs most)
  have HNE := hide hne
  have HRT := hide hrt
  clear h hs hr hne hrt
  go_enter Tryz.func125, Tryz.ntmps125
  go_wp2_with fail
  refine (unhide KD).mono ?_
  rintro e w1 ⟨rfl, hd⟩
  have HD := hide hd
  have h1 := (unhide HD).row (unhide HR) (unhide HNE)
  have HV := hide (set40 h1 (unhide HRT) (str (rText st most).1))
  have x1 := h1.cell 40 _ (mL_back (by simp [unhide HRT]) _ _ _).2.2
  have f1 := h1.frozen 40
  clear hd h1 x0
  go_wp2_with fail
  go_end0
  exact ⟨rfl, TS.stored (unhide HNE) ((unhide HD).of (unhide HB)) (unhide HV)⟩
set_option maxRecDepth 100000 in
set_option maxHeartbeats 400000 in
theorem tdigest_any (hr : VRow w B 28 (mL m a c b d)) (h : Doc w q 82 st) (hs : st.1.length ≤ 50000000) (hne : B ≠ q) (hrt : m.root.length = 32) :
    Calls Tryz.prog 121 #[tkV q, .pointer (some ⟨B, 6, none⟩)] w (TMade B q w (rDigest st).2 { m with root := (rDigest st).1 } a c b d) := by
  have HB := hide (below_alloc' (w := w) (.cells #[.pointer (some ⟨q, 0, none⟩)] 89))
  have x0 := new_one w (.pointer (some ⟨q, 0, none⟩)) 89
  have HQ := hide h.lt
  have HR := hide (hr.after (unhide HB))
  have KD := hide ((DS.start (h.after (unhide HB))).call fun hx => (rdigest_any (rd_of hx) hs).mono fun _ _ hm => rd_made hm)
  have HNE := hide hne
  have HRT := hide hrt
  have HDL := hide (rDigest_32 st)
  clear h hs hr hne hrt
  go_enter Tryz.func121, Tryz.ntmps121
  go_wp2_with fail
  refine (unhide KD).mono ?_
  rintro e w1 ⟨rfl, hd⟩
  have HD := hide hd
  have HR1 := hide ((unhide HD).row (unhide HR) (unhide HNE))
  clear hd x0
  go_wp2_with ((with_reducible refine atS23 ?_); (refine store_root (by rfl) (.tmp 8) (.tmp 7) (by rfl) B (by rfl) (rDigest st).1 (by rfl) (unhide HDL) (unhide HR1) (unhide HRT) ?_); intro w2 hv hb; have HV := hide hv; have HB2 := hide hb; clear hv hb)
  go_end0
  exact ⟨rfl, unhide HV, (unhide HD).1.beside2 (unhide HB2) (unhide HNE), ((((unhide HD).of (unhide HB)).2.weak fun _ h => Or.inl h).trans ((unhide HB2).weak fun _ h => Or.inr h))⟩
/-- What the taker makes of a list. -/
def TVec (B q : Nat) (w : World) (x : List Vc.D × St) (m : Msg) (b : Option Addr) (d : Nat) (e : Ending) (w' : World) : Prop :=
  e = .returned (.tuple #[]) ∧ ∃ a' c', TS B q w x.2 { m with ctx := x.1 } a' c' b d w' ∧ x.1.length ≤ c' ∧ Sl w' a' x.1 ∧ Fresh w.heap.size a' x.1
set_option maxRecDepth 100000 in
set_option maxHeartbeats 400000 in
theorem tvector_any (hr : VRow w B 28 (mL m a c b d)) (h : Doc w q 82 st) (hs : st.1.length ≤ 50000000) (hne : B ≠ q) (hrt : m.root.length = 32) :
    Calls Tryz.prog 126 #[tkV q, .pointer (some ⟨B, 38, none⟩)] w (TVec B q w (rVec st) m b d) := by
  have HB := hide (below_alloc' (w := w) (.cells #[.pointer (some ⟨q, 0, none⟩)] 89))
  have x0 := new_one w (.pointer (some ⟨q, 0, none⟩)) 89
  have HQ := hide h.lt
  have HBL := hide hr.lt
  have HR := hide (hr.after (unhide HB))
  have KD := hide (takeVec_any (h.after (unhide HB)) hs)
  have HNE := hide hne
  have HRT := hide hrt
  generalize rVec st = X at KD ⊢
  obtain ⟨xs, xe⟩ := X
  clear h hs hr hne hrt
  go_enter Tryz.func126, Tryz.ntmps126
  go_wp2_with fail
  refine (unhide KD).mono ?_
  rintro e w1 ⟨a', c', rfl, hc, hsl, hfr, hd⟩
  dsimp only at hc hsl hfr hd ⊢
  have HD := hide hd
  have h1 := (unhide HD).row (unhide HR) (unhide HNE)
  have HV := hide (set38 h1 (unhide HRT) xs a' c')
  have x1 := h1.cell 38 _ (mL_back (by simp [unhide HRT]) _ _ _).1
  have f1 := h1.frozen 38
  have HC := hide hc
  have HSL := hide hsl
  have HFR := hide hfr
  clear hd h1 x0 hc hsl hfr
  go_wp2_with fail
  go_end0
  refine ⟨rfl, a', c', TS.stored (unhide HNE) ((unhide HD).of (unhide HB)) (unhide HV), unhide HC, (unhide HSL).beside (beside_set B 38 w1 _) (fun ad e h0 => ?_), (unhide HFR).weak (unhide HB).size⟩
  have h2 := unhide HFR ad e h0
  have h3 := unhide HBL
  have h4 := (unhide HB).size
  omega
end
end Go.Proofs.YthecijjmgfempaaGreat
