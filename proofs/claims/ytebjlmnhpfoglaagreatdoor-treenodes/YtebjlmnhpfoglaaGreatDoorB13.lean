/-
  The document's Get and Down: what they answer. Conditions: those that each theorem names.
-/
import Derived.Test.YtebjlmnhpfoglaaGreatDoorB09
import Derived.Test.YtebjlmnhpfoglaaGreatDoorB12
import Derived.ArgAppend
import Derived.Maps.AppendAt
namespace Go.Proofs.YtebjlmnhpfoglaaGreatDoor
open Go.RowKit

theorem same_text (a b : ByteArray) : (a.toList == b.toList) = decide (a = b) := by
  rw [Lib.toList_data, Lib.toList_data]
  by_cases h : a = b
  · rw [h]; simp
  · rw [decide_eq_false h]
    have : a.data.toList ≠ b.data.toList := fun e => h (by rw [← str_of a, ← str_of b, e])
    simpa using this
theorem getT_take {t : List En} {k : Nat} {x : En} (hx : t[k]? = some x) {p : ByteArray} (h : ∀ y ∈ t.take k, y.1 ≠ p) (hp : x.1 = p) : getT t p = x.2 := by
  have hk := (List.getElem?_eq_some_iff.1 hx).1
  have e : t = t.take k ++ x :: t.drop (k + 1) := by
    have e2 : t[k] = x := (List.getElem?_eq_some_iff.1 hx).2
    rw [← e2, ← List.drop_eq_getElem_cons hk, List.take_append_drop]
  have key : ∀ (l : List En), (∀ y ∈ l, y.1 ≠ p) → ∀ r, getT (l ++ r) p = getT r p := by
    intro l
    induction l with
    | nil => intro _ r; rfl
    | cons a l ih =>
      intro hl r
      show (if a.1 = p then a.2 else getT (l ++ r) p) = getT r p
      rw [if_neg (hl a (List.mem_cons_self ..))]
      exact ih (fun y hy => hl y (List.mem_cons_of_mem _ hy)) r
  rw [e, key _ h]
  show (if x.1 = p then x.2 else _) = x.2
  rw [if_pos hp]

set_option maxRecDepth 100000 in
set_option maxHeartbeats 1000000 in
theorem refGetT_any (a : Option Addr) (cap : Nat) (t : List En) (hl : t.length ≤ 100000) (p : ByteArray) (w0 w : World) (hb0 : Below w0.heap.size w0 w) (h : EL w0 a t) :
    Calls Tryz.prog 18 #[.slice a t.length cap, .string p] w fun e w' => ∃ r c, e = .returned (.slice r (getT t p).length c) ∧ (getT t p).length ≤ c ∧ SV w0 r (getT t p) ∧ w' = w := by
  have HS := hide h
  have HB0 := hide hb0
  have HP : Hid (∀ k, (∀ y ∈ t.take k, y.1 ≠ p) → k = t.length → getT t p = []) := hide (fun k h1 h2 => by subst h2; rw [List.take_length] at h1; exact getT_none h1)
  have HQ : Hid (∀ k x, t[k]? = some x → (∀ y ∈ t.take k, y.1 ≠ p) → x.1 = p → getT t p = x.2) := hide (fun k x h1 h2 h3 => getT_take h1 h2 h3)
  obtain ⟨G, hG⟩ : ∃ G, getT t p = G := ⟨_, rfl⟩
  rw [hG] at HP HQ ⊢
  clear h hG hb0
  go_enter Tryz.func18, Tryz.ntmps18
  go_wp2_with fail
  go_loopw [5] (fun i wr => ∃ (k : Nat), k ≤ t.length ∧ i = .int .i64 k ∧ (∀ y ∈ t.take k, y.1 ≠ p) ∧ wr = w) (fun i _ => t.length - (intOf i).toNat)
  case atStart => exact ⟨0, Nat.zero_le _, rfl, fun _ h => (by simp at h), rfl⟩
  case round =>
    obtain ⟨k, hk, rfl, hno, rfl⟩ := hrel
    have HNO := hide hno
    clear hno
    by_cases hlt : k < t.length
    · obtain ⟨x, hx⟩ : ∃ d, t[k]? = some d := ⟨_, List.getElem?_eq_getElem hlt⟩
      obtain ⟨g, o, rfl, hg, hcell⟩ := unhide HS (by omega)
      obtain ⟨r, c, x0, x1, h5, h6⟩ := hcell k x hx
      have x0 := ((unhide HB0).cell (p := ⟨g, o + k * 2, none⟩) hg).trans x0
      have x1 := ((unhide HB0).cell (p := ⟨g, o + k * 2 + 1, none⟩) hg).trans x1
      have H6 := hide h6
      have HX := hide hx
      have hst := same_text x.1 p
      clear hcell hg h6 hx
      by_cases he : x.1 = p
      · have HG := unhide HQ k x (unhide HX) (unhide HNO) he
        rw [decide_eq_true he] at hst
        go_wp2_with fail
        go_ret
        subst HG
        exact ⟨r, c, rfl, h5, unhide H6, rfl⟩
      · rw [decide_eq_false he] at hst
        have HN2 : Hid (∀ y ∈ t.take (k + 1), y.1 ≠ p) := hide (by
          rw [List.take_add_one, unhide HX]
          intro y hy
          rcases List.mem_append.1 hy with hy | hy
          · exact unhide HNO y hy
          · simp at hy
            rw [hy]
            exact he)
        go_wp2_with fail
        go_roundw
        case rel => exact ⟨k + 1, by omega, by go_num, unhide HN2, trivial⟩
        case measure => simp [intOf]; omega
    · obtain rfl : k = t.length := by omega
      have HG := unhide HP _ (unhide HNO) rfl
      go_wp2_with fail
      go_ret
      subst HG
      exact ⟨none, 0, rfl, by simp, SV.none _ _, rfl⟩

theorem downE_str (d s : ByteArray) (h : d.data.toList ≠ []) : d ++ (⟨#[47]⟩ : ByteArray) ++ s = downE d s := by
  unfold downE
  rw [if_neg h]
  conv => lhs; rw [← str_of d, ← str_of s, show (⟨#[47]⟩ : ByteArray) = str [47] from rfl, str_append, str_append]
  simp
set_option maxRecDepth 100000 in
theorem refDown_any (d s : ByteArray) (hd : d.size ≤ 100000) (hs : s.size ≤ 100000) (w : World) :
    Calls Tryz.prog 53 #[.string d, .string s] w fun e w' => e = .returned (.string (downE d s)) ∧ w' = w := by
  have HD := hide (downE_str d s)
  by_cases h : d.data.toList = []
  · have h1 : d.toList.isEmpty = true := by rw [Lib.toList_data, h]; rfl
    have h2 : downE d s = s := if_pos h
    rw [h2]
    clear h
    go_enter Tryz.func53, Tryz.ntmps53
    go_wp2_with fail
    go_ret
    exact ⟨rfl, rfl⟩
  · have h1 : d.toList.isEmpty = false := by
      rw [Lib.toList_data]
      cases e : d.data.toList with
      | nil => exact absurd e h
      | cons => rfl
    have HE := unhide HD h
    clear h
    go_enter Tryz.func53, Tryz.ntmps53
    go_wp2_with fail
    go_ret
    exact ⟨rfl, rfl⟩
end Go.Proofs.YtebjlmnhpfoglaaGreatDoor

/-
  What the document's Pieces answers: what stands between a text's slashes, in a row of its own.
-/

namespace Go.Proofs.YtebjlmnhpfoglaaGreatDoor.Pth
open Go.RowKit

/-- A slice of texts in a block of the call's own, and room behind it. -/
structure Buf (W : World) (base g cap : Nat) (bs : List ByteArray) : Prop where
  base : base ≤ g
  fits : bs.length ≤ cap
  lt : g < W.heap.size
  cell : ∀ (j : Nat) (b : ByteArray), bs[j]? = some b → W.cell? ⟨g, j, none⟩ = some (.string b)
  free : ∀ j, j < cap → (W.cell? ⟨g, j, none⟩).isSome = true ∧ W.frozen? ⟨g, j, none⟩ = false

theorem Buf.below {W W' : World} {base g cap n : Nat} {bs : List ByteArray} (h : Buf W base g cap bs) (hb : Below n W W') (hn : g < n) : Buf W' base g cap bs :=
  ⟨h.base, h.fits, Nat.lt_of_lt_of_le h.lt hb.size, fun j b hj => (hb.cell (p := ⟨g, j, none⟩) hn).trans (h.cell j b hj), fun j hj => by rw [hb.cell (p := ⟨g, j, none⟩) hn, hb.frozen (p := ⟨g, j, none⟩) hn]; exact h.free j hj⟩
theorem Buf.after {W W' : World} {base g cap : Nat} {bs : List ByteArray} (h : Buf W base g cap bs) (hb : Below W.heap.size W W') : Buf W' base g cap bs := h.below hb h.lt
theorem Buf.alloc {W : World} {base g cap : Nat} {bs : List ByteArray} (h : Buf W base g cap bs) (o : Obj) : Buf (W.alloc o) base g cap bs :=
  h.below ((Below.refl W.heap.size W).alloc (Nat.le_refl _) o) h.lt
theorem Buf.drewN {W : World} {base g cap : Nat} {bs : List ByteArray} (h : Buf W base g cap bs) (n : Nat) : Buf (W.drewN n) base g cap bs := ⟨h.base, h.fits, h.lt, h.cell, h.free⟩
theorem Buf.drew {W : World} {base g cap : Nat} {bs : List ByteArray} (h : Buf W base g cap bs) : Buf W.drew base g cap bs := ⟨h.base, h.fits, h.lt, h.cell, h.free⟩

theorem Buf.new (W : World) (b : ByteArray) : Buf (W.alloc (.cells #[.string b] 9)) W.heap.size W.heap.size 1 [b] := by
  have hr := VRow.new W 9 [Value.string b]
  refine ⟨Nat.le_refl _, by simp, hr.lt, fun j x hj => ?_, fun j hj => ?_⟩
  · exact hr.cell j _ (by rcases j with _ | j <;> simp_all)
  · obtain rfl : j = 0 := by omega
    exact ⟨by rw [hr.cell 0 _ rfl]; rfl, hr.frozen 0⟩

theorem Buf.owned {W : World} {base : Nat} {v : Value} {bs : List ByteArray} (h : W.ownsRow base 9 1 v bs.length (bs.map Value.string)) (h0 : 0 < bs.length) : ∃ g cap, v = .slice (some ⟨g, 0, none⟩) bs.length cap ∧ Buf W base g cap bs := by
  obtain ⟨_, h | ⟨g, cap, cur, rfl, hg, hh, h1, h2, h3, h4⟩⟩ := h
  · omega
  · rw [Nat.mul_one] at h3 h4
    refine ⟨g, cap, rfl, hg, h1, (Array.getElem?_eq_some_iff.1 hh).1, fun j b hj => ?_, fun j hj => ?_⟩
    · have hjl : j < bs.length := (List.getElem?_eq_some_iff.1 hj).1
      rw [cell_of_row W g j cur 9 (0, 0) hh]
      have h5 : (cur.toList.take bs.length)[j]? = (bs.map Value.string)[j]? := by rw [h4]
      rw [List.getElem?_take_of_lt hjl, List.getElem?_map, hj] at h5
      simpa using h5
    · constructor
      · rw [cell_of_row W g j cur 9 (0, 0) hh, Array.getElem?_eq_getElem (by omega)]; rfl
      · exact frozen_of_row W g j cur 9 hh

/-- A store into a place of it. -/
theorem Buf.put {W : World} {base g cap : Nat} {bs : List ByteArray} (h : Buf W base g cap bs) (k : Nat) (b : ByteArray) (cs : List ByteArray) (hk : k < cap) (hl : cs.length ≤ cap)
    (hcs : ∀ (j : Nat) (x : ByteArray), cs[j]? = some x → (j = k ∧ x = b) ∨ (j ≠ k ∧ bs[j]? = some x)) : Buf (W.setCell ⟨g, k, none⟩ (.string b)) base g cap cs := by
  obtain ⟨v, hv⟩ := Option.isSome_iff_exists.1 (h.free k hk).1
  refine ⟨h.base, hl, by rw [World.size_setCell]; exact h.lt, fun j c hj => ?_, fun j hj => ?_⟩
  · rcases hcs j c hj with ⟨rfl, rfl⟩ | ⟨hne, hb⟩
    · exact World.cell?_setCell_same _ _ _ hv
    · rw [World.cell?_setCell_other _ _ _ _ (fun h => hne (congrArg Addr.off h).symm)]
      exact h.cell j c hb
  · rw [World.frozen?_setCell]
    refine ⟨?_, (h.free j hj).2⟩
    by_cases e : j = k
    · subst e
      rw [World.cell?_setCell_same _ _ _ hv]
      rfl
    · rw [World.cell?_setCell_other _ _ _ _ (fun h => e (congrArg Addr.off h).symm)]
      exact (h.free j hj).1

theorem Buf.room {W : World} {base g cap : Nat} {bs : List ByteArray} (h : Buf W base g cap bs) (b : ByteArray) (hr : bs.length < cap) : Buf (W.setCell ⟨g, bs.length, none⟩ (.string b)) base g cap (bs ++ [b]) := by
  refine h.put bs.length b _ hr (by simp; omega) fun j x hj => ?_
  by_cases e : j = bs.length
  · subst e
    simp at hj
    exact .inl ⟨rfl, hj.symm⟩
  · have hl : j < (bs ++ [b]).length := (List.getElem?_eq_some_iff.1 hj).1
    simp at hl
    rw [List.getElem?_append_left (by omega)] at hj
    exact .inr ⟨e, hj⟩

theorem Buf.last {W : World} {base g cap : Nat} {bs : List ByteArray} {a : ByteArray} (h : Buf W base g cap (bs ++ [a])) (b : ByteArray) : Buf (W.setCell ⟨g, bs.length, none⟩ (.string b)) base g cap (bs ++ [b]) := by
  have hf := h.fits
  simp at hf
  refine h.put bs.length b _ (by omega) (by simp; omega) fun j x hj => ?_
  by_cases e : j = bs.length
  · subst e
    simp at hj
    exact .inl ⟨rfl, hj.symm⟩
  · have hl : j < (bs ++ [b]).length := (List.getElem?_eq_some_iff.1 hj).1
    simp at hl
    rw [List.getElem?_append_left (by omega)] at hj
    exact .inr ⟨e, by rw [List.getElem?_append_left (by omega)]; exact hj⟩

theorem info9 : (Tryz.prog.info? 9).map (fun i => (i.zero, i.size, i.bytes)) = some (some (.string ⟨#[]⟩), 1, 16) := by kernel_rfl

theorem push {ops : Array Oper} {rest : List Oper} {o : Oper} {a : Act} {w : World} {Q : Exit → Act → World → Prop} (hgd : o.guard = none) (s x : Operand)
    (ho : o.op = Op.call { callee := Callee.builtin Builtin.append, args := #[s, x], argTypes := #[67, 67] }) (base g cap L : Nat) (bs : List ByteArray) (hL : bs.length = L) (hs : a.eval s = .slice (some ⟨g, 0, none⟩) L cap)
    (hB : Buf w base g cap bs) (b : ByteArray) (ad : Addr) (hx : a.eval x = .slice (some ad) 1 1) (hc : ∀ j u, [Value.string b][j]? = some u → w.cell? (ad.add j) = some u) (hbase : base ≤ w.heap.size) (hlen : L + 1 ≤ 100000)
    (h : ∀ g' cap' w', Buf w' base g' cap' (bs ++ [b]) → Below base w w' → wpList Tryz.prog ops Q rest (a.put o.dst (.slice (some ⟨g', 0, none⟩) (L + 1) cap')) w') : wpList Tryz.prog ops Q (o :: rest) a w := by
  obtain ⟨i0, hi, hz0, hz1, hz2⟩ := info_parts info9
  subst hL
  refine wpList_append_arg w hgd s x 67 ho 9 i0 (.string ⟨#[]⟩) 1 16 Tryz.underlying67 hi hz0 hz1 hz2 rfl (by decide) g 0 bs.length cap (bs.map Value.string) hs (by simp) (fun j v hj => ?_) ad 1 1 [Value.string b] hx rfl hc (fun v hv => ?_) (fun hr j hj => ?_) (by unfold maxLen; omega) (by omega) (fun hr => ?_) (fun hr v' w' hown hgr => ?_)
  · rw [Nat.zero_add]
    rw [List.getElem?_map, Option.map_eq_some_iff] at hj
    obtain ⟨c, hc, rfl⟩ := hj
    exact hB.cell j c hc
  · rw [List.mem_singleton] at hv; subst hv; rfl
  · have hj0 : j = 0 := by simpa using hj
    subst hj0
    simpa using hB.free bs.length (by omega)
  · have e : w.setCells g (0 + bs.length * 1) [Value.string b] = w.setCell ⟨g, bs.length, none⟩ (.string b) := by
      rw [Nat.zero_add, Nat.mul_one]; rfl
    rw [e]
    exact h g cap _ (hB.room b (by omega)) ((Below.refl base w).setCell (p := ⟨g, bs.length, none⟩) hB.base _)
  · have e : bs.map Value.string ++ [Value.string b] = (bs ++ [b]).map Value.string := by simp
    have el : (bs ++ [b]).length = bs.length + 1 := by simp
    rw [e, ← el] at hown
    obtain ⟨g', cap', rfl, hb⟩ := Buf.owned hown (by simp)
    rw [el]
    exact h g' cap' w' ⟨Nat.le_trans hbase hb.base, hb.fits, hb.lt, hb.cell, hb.free⟩ ((Below.refl base w).grown hgr hbase (fun k hk => by cases hk))

/-- The bytes of each of some texts. -/
def lists (bs : List ByteArray) : List Pt.Bs := bs.map (·.data.toList)
theorem lists_snoc (bs : List ByteArray) (b : ByteArray) : lists (bs ++ [b]) = lists bs ++ [b.data.toList] := by simp [lists]

theorem byte_one (s : ByteArray) (k : Nat) (h : k < s.size) : (s.extract k (k + 1)).data.toList = [s[k]] := by
  rw [extract_list, List.take_succ_eq_append_getElem (show k < s.data.toList.length from h), List.drop_append_of_le_length (by rw [List.length_take]; show k ≤ min k s.size; omega)]
  rw [List.drop_of_length_le (by rw [List.length_take]; show min k s.size ≤ k; omega)]
  rfl
theorem cat_data (a b : ByteArray) : (a ++ b).data.toList = a.data.toList ++ b.data.toList := by simp [ByteArray.data_append]
theorem take_more (s : ByteArray) (k : Nat) (h : k < s.size) : s.data.toList.take (k + 1) = s.data.toList.take k ++ [s[k]] := List.take_succ_eq_append_getElem (show k < s.data.toList.length from h)

theorem size_lists (bs : List ByteArray) : (lists bs).length = bs.length := by simp [lists]

set_option maxRecDepth 100000 in
set_option maxHeartbeats 1000000 in
theorem pieces_any (s : ByteArray) (hs : s.size ≤ 1000) (w : World) :
    Calls Tryz.prog 71 #[.string s] w fun e w' => ∃ g cap bs, e = .returned (.slice (some ⟨g, 0, none⟩) bs.length cap) ∧ lists bs = Pt.pieces s.data.toList ∧ Buf w' w.heap.size g cap bs ∧ Below w.heap.size w w' := by
  go_enter Tryz.func71, Tryz.ntmps71
  go_wp2_with fail
  go_loopw [3, 4] (fun l i wr => ∃ (k g cap : Nat) (bs : List ByteArray) (q : ByteArray), k ≤ s.size ∧ i = .int .i64 k ∧ l = .slice (some ⟨g, 0, none⟩) (bs.length + 1) cap ∧ bs.length ≤ k ∧ q.size ≤ k ∧ lists (bs ++ [q]) = Pt.pieces (s.data.toList.take k) ∧ Buf wr w.heap.size g cap (bs ++ [q]) ∧ Below w.heap.size w wr) (fun _ i _ => s.size - (intOf i).toNat)
  case atStart => exact ⟨0, w.heap.size, 1, [], ⟨#[]⟩, Nat.zero_le _, rfl, rfl, Nat.le_refl _, Nat.le_refl _, rfl, Buf.new w _, (Below.refl _ _).alloc (Nat.le_refl _) _⟩
  case round =>
    obtain ⟨k, g, cap, bs, q, hk, rfl, rfl, hbk, hqk, hls, hbuf, hbl⟩ := hrel
    have HS := hide hls
    have HF := hide hbuf
    have HB := hide hbl
    clear hls hbuf hbl
    by_cases hlt : k < s.size
    · have HT := hide (take_more s k hlt)
      by_cases h47 : s[k] = 47
      · have h47i : ((s[k].toNat : Int) == 47) = true := by rw [h47]; rfl
        have HN : Hid (lists ((bs ++ [q]) ++ [⟨#[]⟩]) = Pt.pieces (s.data.toList.take (k + 1))) := by
          rw [lists_snoc, unhide HS, unhide HT, h47, Pt.pieces_snoc_slash]
          rfl
        have HLn : Hid ((bs ++ [q]).length = bs.length + 1) := hide (by simp)
        clear h47
        go_wp2_with (at_builtin; refine push (by rfl) (.tmp 16) (.tmp 17) (by rfl) w.heap.size g cap (bs.length + 1) (bs ++ [q]) (unhide HLn) (by rfl) ((unhide HF).alloc _) ⟨#[]⟩ ⟨wr.heap.size, 0, none⟩ (by rfl) (cell_one_new _ _ _) (by have := (unhide HB).size; simp; omega) (by omega) ?_; intro g1 cap1 w1 hB1 hb1; have HB1 := hide hB1; have HL1 := hide (((unhide HB).alloc (unhide HB).size _).trans hb1); clear hB1 hb1)
        go_roundw
        case rel => exact ⟨k + 1, g1, cap1, bs ++ [q], ⟨#[]⟩, by omega, by go_num, by rw [unhide HLn], by rw [unhide HLn]; omega, Nat.zero_le _, unhide HN, unhide HB1, unhide HL1⟩
        case measure => simp [intOf]; omega
      · have h47i : ((s[k].toNat : Int) == 47) = false := by
          cases h : ((s[k].toNat : Int) == 47) with
          | false => rfl
          | true => rw [beq_iff_eq] at h; exact absurd (UInt8.toNat_inj.1 (by show s[k].toNat = 47; omega)) h47
        have HN : Hid (lists (bs ++ [q ++ s.extract k (k + 1)]) = Pt.pieces (s.data.toList.take (k + 1))) := by
          have h := unhide HS
          rw [lists_snoc] at h ⊢
          rw [unhide HT, cat_data, byte_one s k hlt]
          exact (Pt.pieces_snoc _ _ _ _ h47 h.symm).symm
        have c0 : wr.cell? ⟨g, bs.length, none⟩ = some (.string q) := (unhide HF).cell bs.length q (by simp)
        have f0 := ((unhide HF).free bs.length (by have := (unhide HF).fits; simp at this; omega)).2
        have hcat : ¬ (q.size + (s.extract k (k + 1)).size > 9223372036854775807) := by rw [ByteArray.size_extract]; omega
        have hqs : Hid ((q ++ s.extract k (k + 1)).size ≤ k + 1) := hide (by rw [ByteArray.size_append, ByteArray.size_extract]; omega)
        clear h47
        go_wp2_with fail
        go_region
        clear c0 f0 hcat
        go_wp2_with fail
        go_roundw
        case rel => exact ⟨k + 1, g, cap, bs, q ++ s.extract k (k + 1), by omega, by go_num, rfl, by omega, unhide hqs, unhide HN, ((unhide HF).last _).drew, ((unhide HB).setCell (p := ⟨g, bs.length, none⟩) (unhide HF).base _).drew⟩
        case measure => simp [intOf]; omega
    · obtain rfl : k = s.size := by omega
      have HE : Hid (s.data.toList.take s.size = s.data.toList) := hide (List.take_of_length_le (Nat.le_refl _))
      go_wp2_with fail
      go_ret
      exact ⟨g, cap, bs ++ [q], by rw [List.length_append]; rfl, by rw [unhide HS, unhide HE], unhide HF, unhide HB⟩
end Go.Proofs.YtebjlmnhpfoglaaGreatDoor.Pth

/-
  What the document's Compare answers.
-/

namespace Go.Proofs.YtebjlmnhpfoglaaGreatDoor.Pth
open Go.RowKit

theorem bytesLess_cmp : ∀ a b : List UInt8, Op.bytesLess a b = decide (Pt.cmpB a b = -1)
  | [], [] => by decide
  | [], _ :: _ => by simp [Op.bytesLess, Pt.cmpB, Pt.lexC]
  | _ :: _, [] => by simp [Op.bytesLess, Pt.cmpB, Pt.lexC]
  | a :: l, b :: m => by
    have ih := bytesLess_cmp l m
    have e : Pt.cmpB (a :: l) (b :: m) = if Pt.cmp8 a b = 0 then Pt.cmpB l m else Pt.cmp8 a b := rfl
    rw [e]
    unfold Op.bytesLess
    unfold Pt.cmp8
    by_cases h : a < b
    · simp [h]
    · by_cases h' : b < a
      · simp [h, h']
        intro e
        subst e
        exact absurd h' h
      · have : a = b := by
          apply UInt8.toNat_inj.1
          rw [UInt8.lt_iff_toNat_lt] at h h'
          omega
        subst this
        simp [ih]

theorem same_cmpB (a b : ByteArray) : (a.toList == b.toList) = decide (Pt.cmpB a.data.toList b.data.toList = 0) := by
  rw [Lib.toList_data, Lib.toList_data, Bool.eq_iff_iff, beq_iff_eq, decide_eq_true_eq]
  exact (Pt.cmpB_good.eq _ _).symm
theorem less_cmpB (a b : ByteArray) : Op.bytesLess a.toList b.toList = decide (Pt.cmpB a.data.toList b.data.toList = -1) := by
  rw [Lib.toList_data, Lib.toList_data]; exact bytesLess_cmp _ _

theorem lists_get (bs : List ByteArray) (k : Nat) (h : k < bs.length) : (lists bs).drop k = bs[k].data.toList :: (lists bs).drop (k + 1) := by
  rw [List.drop_eq_getElem_cons (by rw [size_lists]; exact h)]
  congr 1
  simp [lists]

theorem nil_drop (bs : List ByteArray) (k : Nat) (h : bs.length ≤ k) : (lists bs).drop k = [] := List.drop_of_length_le (by rw [size_lists]; exact h)

theorem pieces_le : ∀ l : Pt.Bs, (Pt.pieces l).length ≤ l.length + 1
  | [] => by simp [Pt.pieces]
  | b :: l => by
    have ih := pieces_le l
    obtain ⟨p, r, h⟩ := Pt.pieces_cons l
    unfold Pt.pieces
    rw [h] at ih ⊢
    split <;> simp_all <;> omega

theorem few_pieces (s : ByteArray) (bs : List ByteArray) (hs : s.size ≤ 1000) (h : lists bs = Pt.pieces s.data.toList) : bs.length ≤ 100000 := by
  have h1 := congrArg List.length h
  rw [size_lists] at h1
  have h2 := pieces_le s.data.toList
  have h3 : s.data.toList.length = s.size := rfl
  omega

set_option maxRecDepth 100000 in
set_option maxHeartbeats 1000000 in
theorem refCompare_any (a b : ByteArray) (ha : a.size ≤ 1000) (hb : b.size ≤ 1000) (w : World) :
    Calls Tryz.prog 43 #[.string a, .string b] w fun e w' => e = .returned (.int .i64 (Pt.cmpT a.data.toList b.data.toList)) ∧ Below w.heap.size w w' := by
  obtain ⟨C, hC⟩ : ∃ C, Pt.cmpT a.data.toList b.data.toList = C := ⟨_, rfl⟩
  rw [hC]
  unfold Pt.cmpT at hC
  have HC := hide hC
  have HA := hide (pieces_any a ha)
  have HBB := hide (pieces_any b hb)
  clear hC
  go_enter Tryz.func43, Tryz.ntmps43
  go_wp2_with fail
  refine (unhide HA _).mono ?_
  rintro e w1 ⟨g1, cap1, l, rfl, hl, hf1, hb1⟩
  go_wp2_with fail
  refine (unhide HBB _).mono ?_
  rintro e w2 ⟨g2, cap2, m, rfl, hm, hf2, hb2⟩
  rw [← hl, ← hm] at HC
  have HF1 := hide (hf1.after hb2)
  have HF2 := hide hf2
  have HB2 := hide (below_grow hb1 (Nat.le_refl _) hb2)
  have hl1 : l.length ≤ 100000 := few_pieces a l ha hl
  have hm1 : m.length ≤ 100000 := few_pieces b m hb hm
  clear hl hm hf1 hf2 hb1 hb2 HA HBB ha hb
  go_wp2_with fail
  go_loopw [7] (fun i wr => ∃ k q : Nat, k ≤ l.length ∧ k ≤ m.length ∧ i = .int .i64 k ∧ Pt.cmpP ((lists l).drop k) ((lists m).drop k) = C ∧ wr = w2.drewN q) (fun i _ => l.length - (intOf i).toNat)
  case atStart => exact ⟨0, 0, Nat.zero_le _, Nat.zero_le _, rfl, unhide HC, rfl⟩
  case round =>
    clear HC
    obtain ⟨k, q, hkl, hkm, rfl, hC, rfl⟩ := hrel
    by_cases h1 : k < l.length
    · by_cases h2 : k < m.length
      · rw [lists_get l k h1, lists_get m k h2, Pt.cmpP_cons] at hC
        have c1 : w2.cell? ⟨g1, k, none⟩ = some (.string l[k]) := (unhide HF1).cell k _ (List.getElem?_eq_getElem h1)
        have c2 : w2.cell? ⟨g2, k, none⟩ = some (.string m[k]) := (unhide HF2).cell k _ (List.getElem?_eq_getElem h2)
        have hs := same_cmpB l[k] m[k]
        have hl := less_cmpB l[k] m[k]
        have hr := Pt.cmpB_good.rng l[k].data.toList m[k].data.toList
        generalize l[k] = x at *
        generalize m[k] = y at *
        generalize Pt.cmpB x.data.toList y.data.toList = D at *
        rcases hr with rfl | rfl | rfl
        · obtain rfl : (-1 : Int) = C := hC
          have hl' : Op.bytesLess x.toList y.toList = true := hl
          clear hs hl
          go_wp2_with fail
          go_quiet (fail)
          go_wp2_with fail
          go_ret
          exact ⟨rfl, below_drewN (below_drewN (unhide HB2) _) _⟩
        · have HC2 : Hid (Pt.cmpP ((lists l).drop (k + 1)) ((lists m).drop (k + 1)) = C) := hC
          have hl' : Op.bytesLess x.toList y.toList = false := hl
          have hs' : (x.toList == y.toList) = true := hs
          clear hC hs hl
          go_wp2_with fail
          go_quiet (fail)
          go_wp2_with fail
          go_quiet (fail)
          go_wp2_with fail
          go_roundw
          case rel => exact ⟨k + 1, _, by omega, by omega, by go_num, unhide HC2, rfl⟩
          case measure => simp [intOf]; omega
        · obtain rfl : (1 : Int) = C := hC
          have hl' : Op.bytesLess x.toList y.toList = false := hl
          have hs' : (x.toList == y.toList) = false := hs
          clear hs hl
          go_wp2_with fail
          go_quiet (fail)
          go_wp2_with fail
          go_quiet (fail)
          go_wp2_with fail
          go_ret
          exact ⟨rfl, below_drewN (below_drewN (below_drewN (unhide HB2) _) _) _⟩
      · obtain ⟨x, t, hx⟩ : ∃ x t, (lists l).drop k = x :: t := ⟨_, _, lists_get l k h1⟩
        rw [nil_drop m k (by omega), hx, Pt.cmpP_cons_nil] at hC
        obtain rfl : (1 : Int) = C := hC
        clear hx
        go_wp2_with fail
        go_ret
        exact ⟨rfl, below_drewN (unhide HB2) _⟩
    · rw [nil_drop l k (by omega)] at hC
      by_cases h2 : k < m.length
      · rw [lists_get m k h2, Pt.cmpP_nil_cons] at hC
        obtain rfl : (-1 : Int) = C := hC
        go_wp2_with fail
        go_ret
        exact ⟨rfl, below_drewN (unhide HB2) _⟩
      · rw [nil_drop m k (by omega), Pt.cmpP_nil] at hC
        obtain rfl : (0 : Int) = C := hC
        go_wp2_with fail
        go_ret
        exact ⟨rfl, below_drewN (unhide HB2) _⟩
end Go.Proofs.YtebjlmnhpfoglaaGreatDoor.Pth

/-
  What the document's Name answers.
-/

namespace Go.Proofs.YtebjlmnhpfoglaaGreatDoor.Pth
open Go.RowKit

theorem sign_true (b : UInt8) (h : Pt.sign b = true) : (97 ≤ b.toNat ∧ b.toNat ≤ 122) ∨ (48 ≤ b.toNat ∧ b.toNat ≤ 57) ∨ b.toNat = 46 ∨ b.toNat = 95 ∨ b.toNat = 45 := by
  unfold Pt.sign at h
  simp only [Bool.or_eq_true, Bool.and_eq_true, decide_eq_true_eq] at h
  omega
theorem sign_false (b : UInt8) (h : Pt.sign b = false) : (b.toNat < 97 ∨ 122 < b.toNat) ∧ (b.toNat < 48 ∨ 57 < b.toNat) ∧ b.toNat ≠ 46 ∧ b.toNat ≠ 95 ∧ b.toNat ≠ 45 := by
  have : ¬ Pt.sign b = true := by rw [h]; decide
  unfold Pt.sign at this
  simp only [Bool.or_eq_true, Bool.and_eq_true, decide_eq_true_eq] at this
  omega

set_option maxRecDepth 100000 in
set_option maxHeartbeats 1000000 in
theorem refName_any (s : ByteArray) (hs : s.size ≤ 100000) (w : World) :
    Calls Tryz.prog 72 #[.string s] w fun e w' => e = .returned (.bool (Pt.isName s.data.toList)) ∧ w' = w := by
  have hsz : s.data.toList.length = s.size := rfl
  obtain ⟨N, hN⟩ : ∃ N, Pt.isName s.data.toList = N := ⟨_, rfl⟩
  rw [hN]
  have HI := hide (Pt.isName_iff s.data.toList)
  rw [hN, hsz] at HI
  have HT := hide (Lib.toList_data s)
  clear hN hsz
  have no : (¬ (N = true)) → N = false := fun h => by cases N with | false => rfl | true => exact absurd rfl h
  by_cases h1 : s.size < 1
  · obtain rfl := no fun h => by have := (unhide HI).1 h; omega
    clear no
    go_enter Tryz.func72, Tryz.ntmps72
    go_wp2_with fail
    go_ret
    exact ⟨rfl, rfl⟩
  · by_cases h2 : 12 < s.size
    · obtain rfl := no fun h => by have := (unhide HI).1 h; omega
      clear no
      go_enter Tryz.func72, Tryz.ntmps72
      go_wp2_with fail
      go_ret
      exact ⟨rfl, rfl⟩
    · cases h3 : (s.toList == [46]) with
      | true =>
        obtain rfl := no fun h => ((unhide HI).1 h).2.2.1 (by rw [← unhide HT]; exact beq_iff_eq.1 h3)
        clear no
        go_enter Tryz.func72, Tryz.ntmps72
        go_wp2_with fail
        go_ret
        exact ⟨rfl, rfl⟩
      | false =>
        cases h4 : (s.toList == [46, 46]) with
        | true =>
          obtain rfl := no fun h => ((unhide HI).1 h).2.2.2.1 (by rw [← unhide HT]; exact beq_iff_eq.1 h4)
          clear no
          go_enter Tryz.func72, Tryz.ntmps72
          go_wp2_with fail
          go_ret
          exact ⟨rfl, rfl⟩
        | false =>
          have n3 : s.data.toList ≠ [46] := fun h => by rw [unhide HT, h] at h3; cases h3
          have n4 : s.data.toList ≠ [46, 46] := fun h => by rw [unhide HT, h] at h4; cases h4
          have N3 := hide n3
          have N4 := hide n4
          have NO := hide no
          clear n3 n4 no
          go_enter Tryz.func72, Tryz.ntmps72
          go_wp2_with fail
          go_loopw [3] (fun i wr => ∃ k : Nat, k ≤ s.size ∧ i = .int .i64 k ∧ (∀ (j : Nat) (hj : j < s.size), j < k → Pt.sign s[j] = true) ∧ wr = w) (fun i _ => s.size - (intOf i).toNat)
          case atStart => exact ⟨0, Nat.zero_le _, rfl, fun j _ hj => absurd hj (Nat.not_lt_zero _), rfl⟩
          case round =>
            obtain ⟨k, hk, rfl, hall, rfl⟩ := hrel
            have HALL := hide hall
            clear hall
            by_cases hlt : k < s.size
            · cases hsi : Pt.sign s[k] with
              | true =>
                have hx := sign_true _ hsi
                have HALL2 : Hid (∀ (j : Nat) (hj : j < s.size), j < k + 1 → Pt.sign s[j] = true) := by
                  intro j hj hjk
                  by_cases e : j = k
                  · subst e; exact hsi
                  · exact unhide HALL j hj (by omega)
                clear hsi
                rcases hx with ⟨x1, x2⟩ | ⟨x1, x2⟩ | x1 | x1 | x1
                all_goals
                  go_wp2_with fail
                  go_roundw
                  case rel => exact ⟨k + 1, by omega, by go_num, unhide HALL2, by first | rfl | trivial⟩
                  case measure => simp [intOf]; omega
              | false =>
                have hx := sign_false _ hsi
                obtain rfl := unhide NO fun h => by
                  have := ((unhide HI).1 h).2.2.2.2 s[k] (List.getElem_mem (l := s.data.toList) hlt)
                  rw [hsi] at this
                  cases this
                clear hsi
                obtain ⟨x1, x2, x3, x4, x5⟩ := hx
                have y3 : ((s[k].toNat : Int) != 46) = true := by rw [bne_iff_ne]; omega
                have y4 : ((s[k].toNat : Int) != 95) = true := by rw [bne_iff_ne]; omega
                have y5 : ((s[k].toNat : Int) != 45) = true := by rw [bne_iff_ne]; omega
                have z : s[k].toNat < 48 ∨ (57 < s[k].toNat ∧ s[k].toNat < 97) ∨ 122 < s[k].toNat := by omega
                clear x1 x2 x3 x4 x5
                rcases z with z | ⟨z, z2⟩ | z
                all_goals
                  go_wp2_with fail
                  go_ret
                  exact ⟨rfl, rfl⟩
            · obtain rfl : k = s.size := by omega
              obtain rfl : N = true := (unhide HI).2 ⟨by omega, by omega, unhide N3, unhide N4, fun x hx => by
                obtain ⟨j, hj, rfl⟩ := List.mem_iff_getElem.1 hx
                exact unhide HALL j hj hj⟩
              go_wp2_with fail
              go_ret
              exact ⟨rfl, rfl⟩
end Go.Proofs.YtebjlmnhpfoglaaGreatDoor.Pth

/-
  What the document's Check and Parts answer, and whether two lists of texts are the same.
-/

namespace Go.Proofs.YtebjlmnhpfoglaaGreatDoor.Pth
open Go.RowKit

theorem pieces_len : ∀ (l p : Pt.Bs), p ∈ Pt.pieces l → p.length ≤ l.length
  | [], p, h => by simp [Pt.pieces] at h; subst h; simp
  | b :: l, p, h => by
    obtain ⟨q, r, e⟩ := Pt.pieces_cons l
    unfold Pt.pieces at h
    split at h
    · rcases List.mem_cons.1 h with rfl | h
      · simp
      · have := pieces_len l p h; simp; omega
    · rw [e] at h
      rcases List.mem_cons.1 h with rfl | h
      · have := pieces_len l q (by rw [e]; exact List.mem_cons_self ..); simp; omega
      · have := pieces_len l p (by rw [e]; exact List.mem_cons_of_mem _ h); simp; omega

theorem piece_size (s : ByteArray) (bs : List ByteArray) (h : lists bs = Pt.pieces s.data.toList) : ∀ x ∈ bs, x.size ≤ s.size := by
  intro x hx
  have := pieces_len s.data.toList x.data.toList (by rw [← h]; exact List.mem_map_of_mem hx)
  exact this

theorem path_lists (s : ByteArray) (bs : List ByteArray) (h : lists bs = Pt.pieces s.data.toList) : Pt.isPath s.data.toList = true ↔ bs.length ≤ 4 ∧ ∀ x ∈ bs, Pt.isName x.data.toList = true := by
  rw [Pt.isPath_iff, ← h, size_lists]
  constructor
  · rintro ⟨a, b⟩; exact ⟨a, fun x hx => b _ (List.mem_map_of_mem hx)⟩
  · rintro ⟨a, b⟩
    refine ⟨a, fun p hp => ?_⟩
    obtain ⟨x, hx, rfl⟩ := List.mem_map.1 hp
    exact b x hx

theorem not_path (s : ByteArray) (h : ¬ Pt.isPath s.data.toList = true) (hs : ¬ 51 < s.size) : Pt.check s.data.toList = 1 := by
  have hsz : s.data.toList.length = s.size := rfl
  unfold Pt.check
  rw [hsz, if_neg hs, if_neg h]

set_option maxRecDepth 100000 in
set_option maxHeartbeats 1000000 in
theorem refCheck_any (s : ByteArray) (hs : s.size ≤ 1000) (w : World) :
    Calls Tryz.prog 41 #[.string s] w fun e w' => e = .returned (.int .i64 (Pt.check s.data.toList)) ∧ Below w.heap.size w w' := by
  have hsz : s.data.toList.length = s.size := rfl
  obtain ⟨C, hC⟩ : ∃ C, Pt.check s.data.toList = C := ⟨_, rfl⟩
  rw [hC]
  by_cases h51 : 51 < s.size
  · have hC2 : C = 2 := by rw [← hC]; unfold Pt.check; rw [hsz, if_pos h51]
    subst hC2
    clear hC hsz
    go_enter Tryz.func41, Tryz.ntmps41
    go_wp2_with fail
    go_ret
    exact ⟨rfl, Below.refl _ _⟩
  · have HP := hide (pieces_any s hs)
    have HN := hide (not_path s)
    have HO := hide (Pt.check_ok s.data.toList)
    have HC := hide hC
    clear hC hsz
    go_enter Tryz.func41, Tryz.ntmps41
    go_wp2_with fail
    refine (unhide HP _).mono ?_
    rintro e w1 ⟨g, cap, bs, rfl, hl, hf, hb⟩
    have hb1 : bs.length ≤ 100000 := few_pieces s bs hs hl
    have HL := hide hl
    have HF := hide hf
    have HB := hide hb
    clear hl hf hb HP
    go_wp2_with fail
    go_loopw [4] (fun i wr => ∃ k : Nat, k ≤ bs.length ∧ i = .int .i64 k ∧ (∀ (j : Nat) (x : ByteArray), j < k → bs[j]? = some x → Pt.isName x.data.toList = true) ∧ (0 < k → bs.length ≤ 4) ∧ wr = w1) (fun i _ => bs.length - (intOf i).toNat)
    case atStart => exact ⟨0, Nat.zero_le _, rfl, fun j _ hj => absurd hj (Nat.not_lt_zero _), fun h => absurd h (Nat.not_lt_zero _), rfl⟩
    case round =>
      obtain ⟨k, hk, rfl, hall, hk4, rfl⟩ := hrel
      have HALL := hide hall
      have HK4 := hide hk4
      clear hall hk4
      by_cases hlt : k < bs.length
      · obtain ⟨x, hx⟩ : ∃ x, bs[k]? = some x := ⟨_, List.getElem?_eq_getElem hlt⟩
        have c1 : wr.cell? ⟨g, k, none⟩ = some (.string x) := (unhide HF).cell k x hx
        have hxs := piece_size s bs (unhide HL) x (List.mem_of_getElem? hx)
        have HX := hide hx
        have K1 := hide (refName_any x (by omega))
        clear hx
        cases hn : Pt.isName x.data.toList with
        | false =>
          have hbad : C = 1 := by
            rw [← unhide HC]
            refine unhide HN (fun hp => ?_) h51
            have := ((path_lists s bs (unhide HL)).1 hp).2 x (List.mem_of_getElem? (unhide HX))
            rw [hn] at this
            cases this
          subst hbad
          rw [hn] at K1
          clear hn
          go_wp2_with (go_at_call 72; refine (unhide K1 _).mono ?_; rintro e w2 ⟨rfl, rfl⟩)
          go_ret
          exact ⟨rfl, unhide HB⟩
        | true =>
          by_cases h4 : 4 < bs.length
          · have hbad : C = 1 := by
              rw [← unhide HC]
              refine unhide HN (fun hp => ?_) h51
              have := ((path_lists s bs (unhide HL)).1 hp).1
              omega
            subst hbad
            rw [hn] at K1
            clear hn
            go_wp2_with (go_at_call 72; refine (unhide K1 _).mono ?_; rintro e w2 ⟨rfl, rfl⟩)
            go_ret
            exact ⟨rfl, unhide HB⟩
          · have HALL2 : Hid (∀ (j : Nat) (y : ByteArray), j < k + 1 → bs[j]? = some y → Pt.isName y.data.toList = true) := by
              intro j y hj hy
              by_cases e : j = k
              · subst e
                rw [unhide HX] at hy
                cases hy
                exact hn
              · exact unhide HALL j y (by omega) hy
            rw [hn] at K1
            clear hn
            go_wp2_with (go_at_call 72; refine (unhide K1 _).mono ?_; rintro e w2 ⟨rfl, rfl⟩)
            go_roundw
            case rel => exact ⟨k + 1, by omega, by go_num, unhide HALL2, fun _ => by omega, by first | rfl | trivial⟩
            case measure => simp [intOf]; omega
      · obtain rfl : k = bs.length := by omega
        have hpos : 0 < bs.length := by
          have h1 := congrArg List.length (unhide HL)
          rw [size_lists] at h1
          have := Pt.pieces_pos s.data.toList
          omega
        have hgood : C = 0 := by
          rw [← unhide HC, unhide HO, path_lists s bs (unhide HL)]
          refine ⟨unhide HK4 hpos, fun x hx => ?_⟩
          obtain ⟨j, hj⟩ := List.mem_iff_getElem?.1 hx
          exact unhide HALL j x (List.getElem?_eq_some_iff.1 hj).1 hj
        subst hgood
        go_wp2_with fail
        go_ret
        exact ⟨rfl, unhide HB⟩

/-- A slice of texts, wherever it lies; nothing is asked of one that has none. -/
def Sl (W : World) (a : Option Addr) (bs : List ByteArray) : Prop :=
  0 < bs.length → ∃ g o, a = some ⟨g, o, none⟩ ∧ g < W.heap.size ∧ ∀ (j : Nat) (b : ByteArray), bs[j]? = some b → W.cell? ⟨g, o + j, none⟩ = some (.string b)

theorem Sl.after {W W' : World} {a : Option Addr} {bs : List ByteArray} (h : Sl W a bs) (hb : Below W.heap.size W W') : Sl W' a bs := fun h0 => by
  obtain ⟨g, o, e, hg, hc⟩ := h h0
  exact ⟨g, o, e, Nat.lt_of_lt_of_le hg hb.size, fun j b hj => (hb.cell (p := ⟨g, o + j, none⟩) hg).trans (hc j b hj)⟩
theorem Sl.drewN {W : World} {a : Option Addr} {bs : List ByteArray} (h : Sl W a bs) (n : Nat) : Sl (W.drewN n) a bs := h
theorem Buf.sl {W : World} {base g cap : Nat} {bs : List ByteArray} (h : Buf W base g cap bs) : Sl W (some ⟨g, 0, none⟩) bs := fun _ => ⟨g, 0, rfl, h.lt, fun j b hj => by rw [Nat.zero_add]; exact h.cell j b hj⟩
theorem Sl.none (W : World) (a : Option Addr) : Sl W a [] := fun h => absurd h (Nat.lt_irrefl _)
theorem Sl.take {W : World} {a : Option Addr} {bs : List ByteArray} (h : Sl W a bs) (n : Nat) : Sl W a (bs.take n) := fun h0 => by
  obtain ⟨g, o, e, hg, hc⟩ := h (by rw [List.length_take] at h0; omega)
  refine ⟨g, o, e, hg, fun j b hj => hc j b ?_⟩
  have hl := (List.getElem?_eq_some_iff.1 hj).1
  rw [List.length_take] at hl
  rwa [List.getElem?_take_of_lt (by omega)] at hj

set_option maxRecDepth 100000 in
set_option maxHeartbeats 400000 in
theorem refParts_any (s : ByteArray) (hs : s.size ≤ 1000) (w : World) :
    Calls Tryz.prog 83 #[.string s] w fun e w' => ∃ a cap bs, e = .returned (.slice a bs.length cap) ∧ lists bs = Pt.parts s.data.toList ∧ bs.length ≤ cap ∧ Sl w' a bs ∧ Below w.heap.size w w' := by
  have K1 := hide (refCheck_any s hs)
  have K2 := hide (pieces_any s hs)
  have HO := hide (Pt.check_ok s.data.toList)
  have HPa := hide (Pt.parts_path s.data.toList)
  have HPn := hide (Pt.parts_none s.data.toList)
  by_cases h0 : Pt.check s.data.toList = 0
  · have HE := hide (unhide HPa ((unhide HO).1 h0))
    rw [h0] at K1
    clear h0
    go_enter Tryz.func83, Tryz.ntmps83
    go_wp2_with fail
    refine (unhide K1 _).mono ?_
    rintro e w1 ⟨rfl, hb1⟩
    have HB1 := hide hb1
    clear hb1
    go_wp2_with fail
    refine (unhide K2 _).mono ?_
    rintro e w2 ⟨g, cap, bs, rfl, hl, hf, hb2⟩
    have HL := hide hl
    have HF := hide hf
    have HB2 := hide (below_grow (unhide HB1) (Nat.le_refl _) hb2)
    clear hl hf hb2
    go_wp2_with fail
    go_ret
    exact ⟨_, _, bs, rfl, by rw [unhide HL, unhide HE], (unhide HF).fits, (unhide HF).sl, unhide HB2⟩
  · have hnp : Pt.isPath s.data.toList = false := by
      cases hp : Pt.isPath s.data.toList with
      | false => rfl
      | true => exact absurd ((unhide HO).2 hp) h0
    have HE := hide (unhide HPn hnp)
    have h0b : (Pt.check s.data.toList != 0) = true := bne_iff_ne.2 h0
    generalize Pt.check s.data.toList = C at *
    clear hnp h0
    go_enter Tryz.func83, Tryz.ntmps83
    go_wp2_with fail
    refine (unhide K1 _).mono ?_
    rintro e w1 ⟨rfl, hb1⟩
    have HB1 := hide hb1
    clear hb1
    go_wp2_with fail
    go_ret
    exact ⟨none, 0, [], rfl, (unhide HE).symm, Nat.le_refl _, Sl.none _ _, unhide HB1⟩
end Go.Proofs.YtebjlmnhpfoglaaGreatDoor.Pth

/-
  The document's Set: what it answers. Conditions: those that each theorem names.
-/

namespace Go.Proofs.YtebjlmnhpfoglaaGreatDoor
open Go.RowKit

theorem setS_snoc (p : ByteArray) (l : List Vc.V) (t : List En) (k : Nat) (x : En) (hx : t[k]? = some x) : setS p l (t.take (k + 1)) = setStep p l (setS p l (t.take k)) x := by
  unfold setS
  rw [List.take_add_one, hx]
  simp
theorem setS_len (p : ByteArray) (l : List Vc.V) : ∀ (t : List En), (setS p l t).1.length ≤ 2 * t.length := by
  have key : ∀ (t : List En) (st : List En × Bool), (t.foldl (setStep p l) st).1.length ≤ st.1.length + 2 * t.length := by
    intro t
    induction t with
    | nil => intro st; simp
    | cons x t ih =>
      intro st
      rw [List.foldl_cons]
      have h1 := ih (setStep p l st x)
      have h2 : (setStep p l st x).1.length ≤ st.1.length + 2 := by
        unfold setStep
        simp only [List.length_append]
        have h3 : (if st.2 = false ∧ cmpE p x.1 ≤ 0 then st.1 ++ [(p, l)] else st.1).length ≤ st.1.length + 1 := by split <;> simp
        have h4 : (if x.1 ≠ p then [x] else [] : List En).length ≤ 1 := by split <;> simp
        omega
      simp only [List.length_cons]
      omega
  intro t
  have := key t ([], decide (l.length = 0))
  unfold setS
  simpa using this
/-- What is put ahead of an entry, and the entry itself. -/
def setA (p : ByteArray) (l : List Vc.V) (st : List En × Bool) (x : En) : List En := if st.2 = false ∧ cmpE p x.1 ≤ 0 then st.1 ++ [(p, l)] else st.1

set_option maxRecDepth 100000 in
set_option maxHeartbeats 4000000 in
theorem refSetT_any (a : Option Addr) (cap : Nat) (t : List En) (ht : Eok t) (p : ByteArray) (hp : p.size ≤ 1000) (r : Option Addr) (c : Nat) (l : List Vc.V) (hf : Few l) (hc : l.length ≤ c) (w : World) (h : EL w a t) (hv : SV w r l) :
    Calls Tryz.prog 12 #[.slice a t.length cap, .string p, .slice r l.length c] w (MadeEE w (setT t p l)) := by
  have K1 := hide fun W => Pth.refCheck_any p hp W
  have K2 := hide fun W h => refCheckLeaf_any r c l hf W h
  have HC : Hid (Pth.Pt.check p.data.toList = pchkE p) := hide rfl
  rw [unhide HC] at K1
  clear HC
  have KC := hide fun q (hq : q.size ≤ 1000) W => Pth.refCompare_any p q hp hq W
  have HT := hide ht
  have HS := hide h
  have HV := hide hv
  have hl := ht.len
  obtain ⟨R, hR⟩ : ∃ R, setT t p l = R := ⟨_, rfl⟩
  rw [hR]
  unfold setT setE at hR
  have HR := hide hR
  clear h hv hR ht
  generalize hE1 : pchkE p = E1 at K1 HR
  generalize hE2 : Vc.checkLeaf l = E2 at K2 HR
  clear hE1 hE2
  by_cases h1 : E1 = 0
  · subst h1
    rw [if_neg (show ¬ ((0 : Int) ≠ 0) from fun h => h rfl)] at HR
    by_cases h2 : E2 = 0
    · subst h2
      rw [if_neg (show ¬ ((0 : Int) ≠ 0) from fun h => h rfl)] at HR
      go_enter Tryz.func12, Tryz.ntmps12
      go_wp2_with fail
      refine (unhide K1 _).mono ?_
      rintro e w1 ⟨rfl, hb⟩
      have HB1 := hide hb
      clear hb
      go_wp2_with fail
      refine (unhide K2 _ ((unhide HV).after (unhide HB1))).mono ?_
      rintro e w2 ⟨rfl, hb⟩
      have HB2 := hide (below_grow (unhide HB1) (Nat.le_refl _) hb)
      have hbw := (unhide HB2).size
      clear hb HB1
      have hb0 : (((l.length : Nat) : Int) == 0) = decide (l.length = 0) := by
        by_cases h : l.length = 0
        · simp [h]
        · rw [decide_eq_false h]; simpa using h
      go_wp2_with fail
      go_loopw [9, 10, 11] (fun o u i wr => ∃ (k : Nat), k ≤ t.length ∧ i = .int .i64 k ∧ u = .bool (setS p l (t.take k)).2 ∧ OE wr w.heap.size o (setS p l (t.take k)).1 ∧ Below w.heap.size w wr) (fun _ _ i _ => t.length - (intOf i).toNat)
      case atStart => exact ⟨0, Nat.zero_le _, rfl, by simp [setS], OE.nil _ _, unhide HB2⟩
      case round =>
        obtain ⟨k, hk, rfl, rfl, hoe, hb⟩ := hrel
        have HO := hide hoe
        have HB := hide hb
        have S := (unhide HS).after hb
        have hsz := hb.size
        have hsl := setS_len p l (t.take k)
        rw [List.length_take] at hsl
        by_cases hlt : k < t.length
        · obtain ⟨x, hx⟩ : ∃ d, t[k]? = some d := ⟨_, List.getElem?_eq_getElem hlt⟩
          obtain ⟨g0, o0, e0, hg0, hcell0⟩ := unhide HS (by omega)
          subst e0
          obtain ⟨q, d, y0, y1, h5, h6⟩ := hcell0 k x hx
          have HY0 := hide y0
          have HY1 := hide y1
          have H6 := hide h6
          have x0 := (hb.cell (p := ⟨g0, o0 + k * 2, none⟩) hg0).trans y0
          have x1 := (hb.cell (p := ⟨g0, o0 + k * 2 + 1, none⟩) hg0).trans y1
          have HG0 := hide hg0
          have HSN := hide (setS_snoc p l t k x hx)
          have hst := same_text x.1 p
          have hpx : x.1.size ≤ 1000 := (unhide HT).path x (List.mem_of_getElem? hx)
          generalize setS p l (t.take k) = ST at HO HSN hsl
          obtain ⟨L, U⟩ := ST
          dsimp only at HO hsl
          clear hcell0 hx hg0 h6 y0 y1 hoe hb S
          cases U with
          | true =>
            by_cases he : x.1 = p
            · rw [decide_eq_true he] at hst
              have HX : Hid (setS p l (t.take (k + 1)) = (L, true)) := hide (by rw [unhide HSN]; simp [setStep, he])
              clear he
              go_wp2_with fail
              go_roundw
              case rel => exact ⟨k + 1, by omega, by go_num, by rw [unhide HX], by rw [unhide HX]; exact unhide HO, unhide HB⟩
              case measure => simp [intOf]; omega
            · rw [decide_eq_false he] at hst
              have HX : Hid (setS p l (t.take (k + 1)) = (L ++ [x], true)) := hide (by rw [unhide HSN]; simp [setStep, he])
              clear he
              have HV9 := hide (VRow.new wr 33 [.string x.1, .slice q x.2.length d])
              have HA9 := hide (below_alloc' (w := wr) (.cells #[.string x.1, .slice q x.2.length d] 33))
              have HF9 := hide (((unhide H6)).off (row := _) (fun g e => ((unhide HO).lt g e).1) (below_grow (unhide HB) (Nat.le_refl _) (unhide HA9)))
              go_wp2_with (first
                | (refine load_ent (by rfl) _ (by rfl) g0 (o0 + k * 2) (by rfl) x q d (ent_range x0 x1) ?_)
                | (at_builtin; refine append_ent (by rfl) _ _ (by rfl) w.heap.size _ L (by rfl) ((unhide HO).after (unhide HA9)) wr.heap.size x q d (by rfl) (ent_row (unhide HV9)) h5 (unhide HF9).1 (unhide HF9).2 (by omega) (Nat.le_trans hsz (unhide HA9).size) ?_; intro v9 w9 hoe9 hb9 _; have HO9 := hide hoe9; have HB9 := hide (((unhide HB).trans ((unhide HA9).mono hsz)).trans hb9); clear hoe9 hb9))
              go_roundw
              case rel => exact ⟨k + 1, by omega, by go_num, by rw [unhide HX], by rw [unhide HX]; exact unhide HO9, unhide HB9⟩
              case measure => simp [intOf]; omega
          | false =>
            go_wp2_with fail
            refine (unhide KC x.1 hpx _).mono ?_
            rintro e w3 ⟨rfl, hb⟩
            have HB3 := hide (below_grow (unhide HB) (Nat.le_refl _) hb)
            have HO3 := hide ((unhide HO).after hb)
            have hz3 := (unhide HB3).size
            have x0 := ((unhide HB3).cell (p := ⟨g0, o0 + k * 2, none⟩) (unhide HG0)).trans (unhide HY0)
            have x1 := ((unhide HB3).cell (p := ⟨g0, o0 + k * 2 + 1, none⟩) (unhide HG0)).trans (unhide HY1)
            clear hb HB HO
            have HC : Hid (Pth.Pt.cmpT p.data.toList x.1.data.toList = cmpE p x.1) := hide rfl
            have HCE : Hid (cmpE p x.1 = 0 ↔ p = x.1) := hide cmpE_eq
            rw [unhide HC]
            clear HC
            have HSN2 : Hid (∀ C, cmpE p x.1 = C → setS p l (t.take (k + 1)) = ((if C ≤ 0 then L ++ [(p, l)] else L) ++ (if x.1 ≠ p then [x] else []), decide (C ≤ 0))) := hide (fun C h => by rw [unhide HSN, ← h]; simp [setStep])
            obtain ⟨C, hC⟩ : ∃ C, cmpE p x.1 = C := ⟨_, rfl⟩
            have HX := hide (unhide HSN2 C hC)
            rw [hC] at HCE ⊢
            clear hC HSN2 HSN
            by_cases hle : C ≤ 0
            · have hcl : decide (C ≤ 0) = true := decide_eq_true hle
              rw [hcl, if_pos hle] at HX
              have HV4 := hide (VRow.new w3 33 [.string p, .slice r l.length c])
              have HA4 := hide (below_alloc' (w := w3) (.cells #[.string p, .slice r l.length c] 33))
              have HF4 := hide ((unhide HV).off (row := _) (fun g e => ((unhide HO3).lt g e).1) (below_grow (unhide HB3) (Nat.le_refl _) (unhide HA4)))
              by_cases he : x.1 = p
              · rw [decide_eq_true he] at hst
                rw [if_neg (fun h => h he), List.append_nil] at HX
                clear he x0 x1 HCE hle
                go_wp2_with (first
                  | (at_builtin; refine append_ent (by rfl) _ _ (by rfl) w.heap.size _ (L) (by rfl) ((unhide HO3).after (unhide HA4)) w3.heap.size (p, l) r c (by rfl) (ent_row (unhide HV4)) hc (unhide HF4).1 (unhide HF4).2 (by omega) (Nat.le_trans hz3 (unhide HA4).size) ?_; intro v4 w4 hoe4 hb4 _; have HO4 := hide hoe4; have HB4 := hide (((unhide HB3).trans ((unhide HA4).mono hz3)).trans hb4); clear hoe4 hb4; have x0 := ((unhide HB4).cell (p := ⟨g0, o0 + k * 2, none⟩) (unhide HG0)).trans (unhide HY0)))
                go_roundw
                case rel => exact ⟨k + 1, by omega, by go_num, by rw [unhide HX], by rw [unhide HX]; exact unhide HO4, unhide HB4⟩
                case measure => simp [intOf]; omega
              · rw [decide_eq_false he] at hst
                rw [if_pos he] at HX
                clear he x0 x1 HCE hle
                go_wp2_with (first
                  | (refine load_ent (by rfl) _ (by rfl) g0 (o0 + k * 2) (by rfl) x q d (ent_range x0 x1) ?_)
                  | (at_builtin; refine append_ent (by rfl) _ _ (by rfl) w.heap.size _ (L) (by rfl) ((unhide HO3).after (unhide HA4)) w3.heap.size (p, l) r c (by rfl) (ent_row (unhide HV4)) hc (unhide HF4).1 (unhide HF4).2 (by omega) (Nat.le_trans hz3 (unhide HA4).size) ?_; intro v4 w4 hoe4 hb4 _; have HO4 := hide hoe4; have HB4 := hide (((unhide HB3).trans ((unhide HA4).mono hz3)).trans hb4); clear hoe4 hb4; have x0 := ((unhide HB4).cell (p := ⟨g0, o0 + k * 2, none⟩) (unhide HG0)).trans (unhide HY0); have x1 := ((unhide HB4).cell (p := ⟨g0, o0 + k * 2 + 1, none⟩) (unhide HG0)).trans (unhide HY1); have hz4 := (unhide HB4).size; have HV5 := hide (VRow.new w4 33 [.string x.1, .slice q x.2.length d]); have HA5 := hide (below_alloc' (w := w4) (.cells #[.string x.1, .slice q x.2.length d] 33)); have HF5 := hide ((unhide H6).off (row := _) (fun g e => ((unhide HO4).lt g e).1) (below_grow (unhide HB4) (Nat.le_refl _) (unhide HA5))))
                  | (at_builtin; refine append_ent (by rfl) _ _ (by rfl) w.heap.size _ (L ++ [(p, l)]) (by rfl) ((unhide HO4).after (unhide HA5)) w4.heap.size x q d (by rfl) (ent_row (unhide HV5)) h5 (unhide HF5).1 (unhide HF5).2 (by simp; omega) (Nat.le_trans hz4 (unhide HA5).size) ?_; intro v5 w5 hoe5 hb5 _; have HO5 := hide hoe5; have HB5 := hide (((unhide HB4).trans ((unhide HA5).mono hz4)).trans hb5); clear hoe5 hb5))
                go_roundw
                case rel => exact ⟨k + 1, by omega, by go_num, by rw [unhide HX], by rw [unhide HX]; exact unhide HO5, unhide HB5⟩
                case measure => simp [intOf]; omega
            · have hcl : decide (C ≤ 0) = false := decide_eq_false hle
              have he : ¬ x.1 = p := fun h => hle (by have := (unhide HCE).2 h.symm; omega)
              rw [hcl, if_neg hle, if_pos he] at HX
              rw [decide_eq_false he] at hst
              clear he HCE hle
              have HV5 := hide (VRow.new w3 33 [.string x.1, .slice q x.2.length d])
              have HA5 := hide (below_alloc' (w := w3) (.cells #[.string x.1, .slice q x.2.length d] 33))
              have HF5 := hide ((unhide H6).off (row := _) (fun g e => ((unhide HO3).lt g e).1) (below_grow (unhide HB3) (Nat.le_refl _) (unhide HA5)))
              go_wp2_with (first
                | (refine load_ent (by rfl) _ (by rfl) g0 (o0 + k * 2) (by rfl) x q d (ent_range x0 x1) ?_)
                | (at_builtin; refine append_ent (by rfl) _ _ (by rfl) w.heap.size _ (L) (by rfl) ((unhide HO3).after (unhide HA5)) w3.heap.size x q d (by rfl) (ent_row (unhide HV5)) h5 (unhide HF5).1 (unhide HF5).2 (by omega) (Nat.le_trans hz3 (unhide HA5).size) ?_; intro v5 w5 hoe5 hb5 _; have HO5 := hide hoe5; have HB5 := hide (((unhide HB3).trans ((unhide HA5).mono hz3)).trans hb5); clear hoe5 hb5))
              go_roundw
              case rel => exact ⟨k + 1, by omega, by go_num, by rw [unhide HX], by rw [unhide HX]; exact unhide HO5, unhide HB5⟩
              case measure => simp [intOf]; omega
        · obtain rfl : k = t.length := by omega
          have HPT : Hid (putT p l t = (setS p l t).1 ++ (if (setS p l t).2 = false then [(p, l)] else [])) := hide rfl
          rw [List.take_length] at HO hsl ⊢
          generalize setS p l t = ST at HO HPT hsl ⊢
          obtain ⟨L, U⟩ := ST
          dsimp only at HO HPT hsl ⊢
          clear hoe hb S hlt
          cases U with
          | true =>
            rw [if_neg (by simp), List.append_nil] at HPT
            rw [unhide HPT] at HR
            obtain ⟨a9, c9, rfl, hc9, hel9⟩ := (unhide HO).el
            have HE := hide hel9
            clear hel9 HO
            by_cases hbig : 128 < L.length
            · have hd : decide ((128 : Int) < ((L.length : Nat) : Int)) = true := decide_eq_true (by omega)
              rw [if_pos hbig] at HR
              go_wp2_with fail
              go_ret2
              rw [← unhide HR]
              exact ⟨none, 0, rfl, by simp, EL.none _ _, unhide HB⟩
            · have hd : decide ((128 : Int) < ((L.length : Nat) : Int)) = false := decide_eq_false (by omega)
              rw [if_neg hbig] at HR
              go_wp2_with fail
              go_ret2
              rw [← unhide HR]
              exact ⟨a9, c9, rfl, hc9, unhide HE, unhide HB⟩
          | false =>
            rw [if_pos rfl] at HPT
            rw [unhide HPT] at HR
            have HV4 := hide (VRow.new wr 33 [.string p, .slice r l.length c])
            have HA4 := hide (below_alloc' (w := wr) (.cells #[.string p, .slice r l.length c] 33))
            have HF4 := hide ((unhide HV).off (row := _) (fun g e => ((unhide HO).lt g e).1) (below_grow (unhide HB) (Nat.le_refl _) (unhide HA4)))
            by_cases hbig : 128 < (L ++ [(p, l)]).length
            · have hd : decide ((128 : Int) < ((L.length : Nat) : Int) + 1) = true := decide_eq_true (by simp at hbig; omega)
              rw [if_pos hbig] at HR
              go_wp2_with (first
                | (at_builtin; refine append_ent (by rfl) _ _ (by rfl) w.heap.size _ (L) (by rfl) ((unhide HO).after (unhide HA4)) wr.heap.size (p, l) r c (by rfl) (ent_row (unhide HV4)) hc (unhide HF4).1 (unhide HF4).2 (by omega) (Nat.le_trans hsz (unhide HA4).size) ?_; intro v4 w4 hoe4 hb4 _; have HO4 := hide hoe4; have HB4 := hide (((unhide HB).trans ((unhide HA4).mono hsz)).trans hb4); clear hoe4 hb4; obtain ⟨a9, c9, rfl, hc9, hel9⟩ := (unhide HO4).el; have HE := hide hel9; clear hel9 HO4))
              go_ret2
              rw [← unhide HR]
              exact ⟨none, 0, rfl, by simp, EL.none _ _, unhide HB4⟩
            · have hd : decide ((128 : Int) < ((L.length : Nat) : Int) + 1) = false := decide_eq_false (by simp at hbig; omega)
              rw [if_neg hbig] at HR
              go_wp2_with (first
                | (at_builtin; refine append_ent (by rfl) _ _ (by rfl) w.heap.size _ (L) (by rfl) ((unhide HO).after (unhide HA4)) wr.heap.size (p, l) r c (by rfl) (ent_row (unhide HV4)) hc (unhide HF4).1 (unhide HF4).2 (by omega) (Nat.le_trans hsz (unhide HA4).size) ?_; intro v4 w4 hoe4 hb4 _; have HO4 := hide hoe4; have HB4 := hide (((unhide HB).trans ((unhide HA4).mono hsz)).trans hb4); clear hoe4 hb4; obtain ⟨a9, c9, rfl, hc9, hel9⟩ := (unhide HO4).el; have HE := hide hel9; clear hel9 HO4))
              go_ret2
              rw [← unhide HR]
              exact ⟨a9, c9, by show _ = Ending.returned (.tuple #[.slice a9 (L ++ [(p, l)]).length c9, .int .i64 0]); rw [show (L ++ [(p, l)]).length = L.length + 1 by simp]; rfl, hc9, unhide HE, unhide HB4⟩
    · rw [if_pos h2] at HR
      have hb1 : (E2 == 0) = false := by simpa using h2
      have hb2 : (E2 != 0) = true := bne_iff_ne.2 h2
      go_enter Tryz.func12, Tryz.ntmps12
      go_wp2_with fail
      refine (unhide K1 _).mono ?_
      rintro e w1 ⟨rfl, hb⟩
      have HB1 := hide hb
      clear hb
      go_wp2_with fail
      refine (unhide K2 _ ((unhide HV).after (unhide HB1))).mono ?_
      rintro e w2 ⟨rfl, hb⟩
      have HB2 := hide (below_grow (unhide HB1) (Nat.le_refl _) hb)
      clear hb HB1
      go_wp2_with fail
      go_ret2
      rw [← unhide HR]
      exact ⟨none, 0, rfl, by simp, EL.none _ _, unhide HB2⟩
  · rw [if_pos h1, if_pos h1] at HR
    have hb1 : (E1 == 0) = false := by simpa using h1
    have hb2 : (E1 != 0) = true := bne_iff_ne.2 h1
    go_enter Tryz.func12, Tryz.ntmps12
    go_wp2_with fail
    refine (unhide K1 _).mono ?_
    rintro e w1 ⟨rfl, hb⟩
    have HB1 := hide hb
    clear hb
    go_wp2_with fail
    go_ret2
    rw [← unhide HR]
    exact ⟨none, 0, rfl, by simp, EL.none _ _, unhide HB1⟩
end Go.Proofs.YtebjlmnhpfoglaaGreatDoor
