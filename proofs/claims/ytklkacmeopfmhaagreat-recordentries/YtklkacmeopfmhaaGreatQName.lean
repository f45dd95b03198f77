/-
  What Name, isPath, Check and long answer, and that chapter 4's examples hold.
-/
import Derived.Test.YtklkacmeopfmhaaGreatQSplit
import Derived.ArgAppend
import Derived.Maps.AppendAt
namespace Go.Proofs.YtklkacmeopfmhaaGreat.Pth
open Go.RowKit

theorem below_grow {n : Nat} {w w1 w2 : World} (h : Below n w w1) (hn : n ≤ w.heap.size) (h2 : Below w1.heap.size w1 w2) : Below n w w2 := h.trans (h2.mono (Nat.le_trans hn h.size))

set_option maxRecDepth 100000 in
set_option maxHeartbeats 1000000 in
theorem isPath_any (s : ByteArray) (hs : s.size ≤ 100000) (w : World) :
    Calls Tryz.prog 35 #[.string s] w fun e w' => e = .returned (.bool (Pt.isPath s.data.toList)) ∧ Below w.heap.size w w' := by
  have HC := hide (split_any s hs)
  have HN := hide (Pt.parts_pos s.data.toList)
  have hP4 := Pt.parts_le s.data.toList
  obtain ⟨PS, hPS⟩ : ∃ PS, Pt.parts s.data.toList = PS := ⟨_, rfl⟩
  rw [hPS] at HC HN hP4
  have HL := hide (row4_len PS hP4)
  have H1 := hide (row4_one PS)
  generalize row4 PS = R at HC HL H1
  clear hPS hs
  go_enter Tryz.func35, Tryz.ntmps35
  go_wp2_with (first
    | (go_at_call 61; refine (unhide HC _).mono ?_; rintro e w1 ⟨rfl, hb1⟩; have HB1 := hide hb1; clear hb1)
    | (refine store_row (by rfl) 92 _ _ (by rfl) w1.heap.size R (by rfl) (by rfl) 92 (row4 []) (VRow.newAt rfl) 4 size92 (unhide HL) rfl (unhide H1) ?_; intro w2 ho2 hr2; have HB2 := hide (((unhide HB1).alloc (unhide HB1).size _).trans (ho2.below (unhide HB1).size)); clear ho2 hr2))
  go_ret
  refine ⟨ret_bool ?_, unhide HB2⟩
  rw [← unhide HN]

set_option maxRecDepth 100000 in
set_option maxHeartbeats 400000 in
theorem check_any (s : ByteArray) (hs : s.size ≤ 100000) (w : World) :
    Calls Tryz.prog 18 #[.string s] w fun e w' => e = .returned (.int .i64 (Pt.check s.data.toList)) ∧ Below w.heap.size w w' := by
  have HC := hide (isPath_any s hs)
  have hsz : s.data.toList.length = s.size := rfl
  unfold Pt.check
  rw [hsz]
  by_cases h51 : 51 < s.size
  · rw [if_pos h51]
    clear hsz
    go_enter Tryz.func18, Tryz.ntmps18
    go_wp2_with fail
    go_ret
    exact ⟨rfl, Below.refl _ _⟩
  · rw [if_neg h51]
    cases hp : Pt.isPath s.data.toList with
    | true =>
      rw [hp] at HC
      rw [if_pos rfl]
      clear hsz hp
      go_enter Tryz.func18, Tryz.ntmps18
      go_wp2_with (go_at_call 35; refine (unhide HC _).mono ?_; rintro e w1 ⟨rfl, hb1⟩; have HB1 := hide hb1; clear hb1)
      go_ret
      exact ⟨rfl, unhide HB1⟩
    | false =>
      rw [hp] at HC
      rw [if_neg (by decide)]
      clear hsz hp
      go_enter Tryz.func18, Tryz.ntmps18
      go_wp2_with (go_at_call 35; refine (unhide HC _).mono ?_; rintro e w1 ⟨rfl, hb1⟩; have HB1 := hide hb1; clear hb1)
      go_ret
      exact ⟨rfl, unhide HB1⟩

end Go.Proofs.YtklkacmeopfmhaaGreat.Pth

namespace Go.Proofs.YtklkacmeopfmhaaGreat.Pth
open Go.RowKit

/-- A slice of texts in a block of the call's own, and room behind it. -/
structure Buf (W : World) (base g cap : Nat) (bs : List ByteArray) : Prop where
  base : base ≤ g
  fits : bs.length ≤ cap
  lt : g < W.heap.size
  cell : ∀ (j : Nat) (b : ByteArray), bs[j]? = some b → W.cell? ⟨g, j, none⟩ = some (.string b)
  free : ∀ j, j < cap → (W.cell? ⟨g, j, none⟩).isSome = true ∧ W.frozen? ⟨g, j, none⟩ = false

theorem Buf.below {W W' : World} {base g cap n : Nat} {bs : List ByteArray} (h : Buf W base g cap bs) (hb : Below n W W') (hn : g < n) : Buf W' base g cap bs :=
  ⟨h.base, h.fits, Nat.lt_of_lt_of_le h.lt hb.size, fun j b hj => (hb.cell (p := ⟨g, j, none⟩) hn).trans (h.cell j b hj), fun j hj => by rw [hb.cell (p := ⟨g, j, none⟩) hn, hb.frozen (p := ⟨g, j, none⟩) hn]; exact h.free j hj⟩
theorem Buf.after {W W' : World} {base g cap : Nat} {bs : List ByteArray} (h : Buf W base g cap bs) (hb : Below W.heap.size W W') : Buf W' base g cap bs := h.below hb h.lt
theorem Buf.alloc {W : World} {base g cap : Nat} {bs : List ByteArray} (h : Buf W base g cap bs) (o : Obj) : Buf (W.alloc o) base g cap bs :=
  h.below ((Below.refl W.heap.size W).alloc (Nat.le_refl _) o) h.lt
theorem Buf.drewN {W : World} {base g cap : Nat} {bs : List ByteArray} (h : Buf W base g cap bs) (n : Nat) : Buf (W.drewN n) base g cap bs := ⟨h.base, h.fits, h.lt, h.cell, h.free⟩
theorem Buf.drew {W : World} {base g cap : Nat} {bs : List ByteArray} (h : Buf W base g cap bs) : Buf W.drew base g cap bs := ⟨h.base, h.fits, h.lt, h.cell, h.free⟩

theorem Buf.new (W : World) (b : ByteArray) : Buf (W.alloc (.cells #[.string b] 9)) W.heap.size W.heap.size 1 [b] := by
  have hr := VRow.new W 9 [Value.string b]
  refine ⟨Nat.le_refl _, by simp, hr.lt, fun j x hj => ?_, fun j hj => ?_⟩
  · exact hr.cell j _ (by rcases j with _ | j <;> simp_all)
  · obtain rfl : j = 0 := by omega
    exact ⟨by rw [hr.cell 0 _ rfl]; rfl, hr.frozen 0⟩

theorem Buf.owned {W : World} {base : Nat} {v : Value} {bs : List ByteArray} (h : W.ownsRow base 9 1 v bs.length (bs.map Value.string)) (h0 : 0 < bs.length) : ∃ g cap, v = .slice (some ⟨g, 0, none⟩) bs.length cap ∧ Buf W base g cap bs := by
  obtain ⟨_, h | ⟨g, cap, cur, rfl, hg, hh, h1, h2, h3, h4⟩⟩ := h
  · omega
  · rw [Nat.mul_one] at h3 h4
    refine ⟨g, cap, rfl, hg, h1, (Array.getElem?_eq_some_iff.1 hh).1, fun j b hj => ?_, fun j hj => ?_⟩
    · have hjl : j < bs.length := (List.getElem?_eq_some_iff.1 hj).1
      rw [cell_of_row W g j cur 9 (0, 0) hh]
      have h5 : (cur.toList.take bs.length)[j]? = (bs.map Value.string)[j]? := by rw [h4]
      rw [List.getElem?_take_of_lt hjl, List.getElem?_map, hj] at h5
      simpa using h5
    · constructor
      · rw [cell_of_row W g j cur 9 (0, 0) hh, Array.getElem?_eq_getElem (by omega)]; rfl
      · exact frozen_of_row W g j cur 9 hh

/-- A store into a place of it. -/
theorem Buf.put {W : World} {base g cap : Nat} {bs : List ByteArray} (h : Buf W base g cap bs) (k : Nat) (b : ByteArray) (cs : List ByteArray) (hk : k < cap) (hl : cs.length ≤ cap)
    (hcs : ∀ (j : Nat) (x : ByteArray), cs[j]? = some x → (j = k ∧ x = b) ∨ (j ≠ k ∧ bs[j]? = some x)) : Buf (W.setCell ⟨g, k, none⟩ (.string b)) base g cap cs := by
  obtain ⟨v, hv⟩ := Option.isSome_iff_exists.1 (h.free k hk).1
  refine ⟨h.base, hl, by rw [World.size_setCell]; exact h.lt, fun j c hj => ?_, fun j hj => ?_⟩
  · rcases hcs j c hj with ⟨rfl, rfl⟩ | ⟨hne, hb⟩
    · exact World.cell?_setCell_same _ _ _ hv
    · rw [World.cell?_setCell_other _ _ _ _ (fun h => hne (congrArg Addr.off h).symm)]
      exact h.cell j c hb
  · rw [World.frozen?_setCell]
    refine ⟨?_, (h.free j hj).2⟩
    by_cases e : j = k
    · subst e
      rw [World.cell?_setCell_same _ _ _ hv]
      rfl
    · rw [World.cell?_setCell_other _ _ _ _ (fun h => e (congrArg Addr.off h).symm)]
      exact (h.free j hj).1

theorem Buf.room {W : World} {base g cap : Nat} {bs : List ByteArray} (h : Buf W base g cap bs) (b : ByteArray) (hr : bs.length < cap) : Buf (W.setCell ⟨g, bs.length, none⟩ (.string b)) base g cap (bs ++ [b]) := by
  refine h.put bs.length b _ hr (by simp; omega) fun j x hj => ?_
  by_cases e : j = bs.length
  · subst e
    simp at hj
    exact .inl ⟨rfl, hj.symm⟩
  · have hl : j < (bs ++ [b]).length := (List.getElem?_eq_some_iff.1 hj).1
    simp at hl
    rw [List.getElem?_append_left (by omega)] at hj
    exact .inr ⟨e, hj⟩

theorem Buf.last {W : World} {base g cap : Nat} {bs : List ByteArray} {a : ByteArray} (h : Buf W base g cap (bs ++ [a])) (b : ByteArray) : Buf (W.setCell ⟨g, bs.length, none⟩ (.string b)) base g cap (bs ++ [b]) := by
  have hf := h.fits
  simp at hf
  refine h.put bs.length b _ (by omega) (by simp; omega) fun j x hj => ?_
  by_cases e : j = bs.length
  · subst e
    simp at hj
    exact .inl ⟨rfl, hj.symm⟩
  · have hl : j < (bs ++ [b]).length := (List.getElem?_eq_some_iff.1 hj).1
    simp at hl
    rw [List.getElem?_append_left (by omega)] at hj
    exact .inr ⟨e, by rw [List.getElem?_append_left (by omega)]; exact hj⟩

theorem info9 : (Tryz.prog.info? 9).map (fun i => (i.zero, i.size, i.bytes)) = some (some (.string ⟨#[]⟩), 1, 16) := by kernel_rfl

theorem push {ops : Array Oper} {rest : List Oper} {o : Oper} {a : Act} {w : World} {Q : Exit → Act → World → Prop} (hgd : o.guard = none) (s x : Operand)
    (ho : o.op = Op.call { callee := Callee.builtin Builtin.append, args := #[s, x], argTypes := #[75, 75] }) (base g cap L : Nat) (bs : List ByteArray) (hL : bs.length = L) (hs : a.eval s = .slice (some ⟨g, 0, none⟩) L cap)
    (hB : Buf w base g cap bs) (b : ByteArray) (ad : Addr) (hx : a.eval x = .slice (some ad) 1 1) (hc : ∀ j u, [Value.string b][j]? = some u → w.cell? (ad.add j) = some u) (hbase : base ≤ w.heap.size) (hlen : L + 1 ≤ 100000)
    (h : ∀ g' cap' w', Buf w' base g' cap' (bs ++ [b]) → Below base w w' → wpList Tryz.prog ops Q rest (a.put o.dst (.slice (some ⟨g', 0, none⟩) (L + 1) cap')) w') : wpList Tryz.prog ops Q (o :: rest) a w := by
  obtain ⟨i0, hi, hz0, hz1, hz2⟩ := info_parts info9
  subst hL
  refine wpList_append_arg w hgd s x 75 ho 9 i0 (.string ⟨#[]⟩) 1 16 Tryz.underlying75 hi hz0 hz1 hz2 rfl (by decide) g 0 bs.length cap (bs.map Value.string) hs (by simp) (fun j v hj => ?_) ad 1 1 [Value.string b] hx rfl hc (fun v hv => ?_) (fun hr j hj => ?_) (by unfold maxLen; omega) (by omega) (fun hr => ?_) (fun hr v' w' hown hgr => ?_)
  · rw [Nat.zero_add]
    rw [List.getElem?_map, Option.map_eq_some_iff] at hj
    obtain ⟨c, hc, rfl⟩ := hj
    exact hB.cell j c hc
  · rw [List.mem_singleton] at hv; subst hv; rfl
  · have hj0 : j = 0 := by simpa using hj
    subst hj0
    simpa using hB.free bs.length (by omega)
  · have e : w.setCells g (0 + bs.length * 1) [Value.string b] = w.setCell ⟨g, bs.length, none⟩ (.string b) := by
      rw [Nat.zero_add, Nat.mul_one]; rfl
    rw [e]
    exact h g cap _ (hB.room b (by omega)) ((Below.refl base w).setCell (p := ⟨g, bs.length, none⟩) hB.base _)
  · have e : bs.map Value.string ++ [Value.string b] = (bs ++ [b]).map Value.string := by simp
    have el : (bs ++ [b]).length = bs.length + 1 := by simp
    rw [e, ← el] at hown
    obtain ⟨g', cap', rfl, hb⟩ := Buf.owned hown (by simp)
    rw [el]
    exact h g' cap' w' ⟨Nat.le_trans hbase hb.base, hb.fits, hb.lt, hb.cell, hb.free⟩ ((Below.refl base w).grown hgr hbase (fun k hk => by cases hk))

/-- The bytes of each of some texts. -/
def lists (bs : List ByteArray) : List Pt.Bs := bs.map (·.data.toList)
theorem lists_snoc (bs : List ByteArray) (b : ByteArray) : lists (bs ++ [b]) = lists bs ++ [b.data.toList] := by simp [lists]

theorem byte_one (s : ByteArray) (k : Nat) (h : k < s.size) : (s.extract k (k + 1)).data.toList = [s[k]] := by
  rw [extract_list, List.take_succ_eq_append_getElem (show k < s.data.toList.length from h), List.drop_append_of_le_length (by rw [List.length_take]; show k ≤ min k s.size; omega)]
  rw [List.drop_of_length_le (by rw [List.length_take]; show min k s.size ≤ k; omega)]
  rfl
theorem cat_data (a b : ByteArray) : (a ++ b).data.toList = a.data.toList ++ b.data.toList := by simp [ByteArray.data_append]
theorem take_more (s : ByteArray) (k : Nat) (h : k < s.size) : s.data.toList.take (k + 1) = s.data.toList.take k ++ [s[k]] := List.take_succ_eq_append_getElem (show k < s.data.toList.length from h)

theorem size_lists (bs : List ByteArray) : (lists bs).length = bs.length := by simp [lists]

set_option maxRecDepth 100000 in
set_option maxHeartbeats 1000000 in
theorem pieces_any (s : ByteArray) (hs : s.size ≤ 1000) (w : World) :
    Calls Tryz.prog 41 #[.string s] w fun e w' => ∃ g cap bs, e = .returned (.slice (some ⟨g, 0, none⟩) bs.length cap) ∧ lists bs = Pt.pieces s.data.toList ∧ Buf w' w.heap.size g cap bs ∧ Below w.heap.size w w' := by
  go_enter Tryz.func41, Tryz.ntmps41
  go_wp2_with fail
  go_loopw [3, 4] (fun l i wr => ∃ (k g cap : Nat) (bs : List ByteArray) (q : ByteArray), k ≤ s.size ∧ i = .int .i64 k ∧ l = .slice (some ⟨g, 0, none⟩) (bs.length + 1) cap ∧ bs.length ≤ k ∧ q.size ≤ k ∧ lists (bs ++ [q]) = Pt.pieces (s.data.toList.take k) ∧ Buf wr w.heap.size g cap (bs ++ [q]) ∧ Below w.heap.size w wr) (fun _ i _ => s.size - (intOf i).toNat)
  case atStart => exact ⟨0, w.heap.size, 1, [], ⟨#[]⟩, Nat.zero_le _, rfl, rfl, Nat.le_refl _, Nat.le_refl _, rfl, Buf.new w _, (Below.refl _ _).alloc (Nat.le_refl _) _⟩
  case round =>
    obtain ⟨k, g, cap, bs, q, hk, rfl, rfl, hbk, hqk, hls, hbuf, hbl⟩ := hrel
    have HS := hide hls
    have HF := hide hbuf
    have HB := hide hbl
    clear hls hbuf hbl
    by_cases hlt : k < s.size
    · have HT := hide (take_more s k hlt)
      by_cases h47 : s[k] = 47
      · have h47i : ((s[k].toNat : Int) == 47) = true := by rw [h47]; rfl
        have HN : Hid (lists ((bs ++ [q]) ++ [⟨#[]⟩]) = Pt.pieces (s.data.toList.take (k + 1))) := by
          rw [lists_snoc, unhide HS, unhide HT, h47, Pt.pieces_snoc_slash]
          rfl
        have HLn : Hid ((bs ++ [q]).length = bs.length + 1) := hide (by simp)
        clear h47
        go_wp2_with (at_builtin; refine push (by rfl) (.tmp 16) (.tmp 17) (by rfl) w.heap.size g cap (bs.length + 1) (bs ++ [q]) (unhide HLn) (by rfl) ((unhide HF).alloc _) ⟨#[]⟩ ⟨wr.heap.size, 0, none⟩ (by rfl) (cell_one_new _ _ _) (by have := (unhide HB).size; simp; omega) (by omega) ?_; intro g1 cap1 w1 hB1 hb1; have HB1 := hide hB1; have HL1 := hide (((unhide HB).alloc (unhide HB).size _).trans hb1); clear hB1 hb1)
        go_roundw
        case rel => exact ⟨k + 1, g1, cap1, bs ++ [q], ⟨#[]⟩, by omega, by go_num, by rw [unhide HLn], by rw [unhide HLn]; omega, Nat.zero_le _, unhide HN, unhide HB1, unhide HL1⟩
        case measure => simp [intOf]; omega
      · have h47i : ((s[k].toNat : Int) == 47) = false := by
          cases h : ((s[k].toNat : Int) == 47) with
          | false => rfl
          | true => rw [beq_iff_eq] at h; exact absurd (UInt8.toNat_inj.1 (by show s[k].toNat = 47; omega)) h47
        have HN : Hid (lists (bs ++ [q ++ s.extract k (k + 1)]) = Pt.pieces (s.data.toList.take (k + 1))) := by
          have h := unhide HS
          rw [lists_snoc] at h ⊢
          rw [unhide HT, cat_data, byte_one s k hlt]
          exact (Pt.pieces_snoc _ _ _ _ h47 h.symm).symm
        have c0 : wr.cell? ⟨g, bs.length, none⟩ = some (.string q) := (unhide HF).cell bs.length q (by simp)
        have f0 := ((unhide HF).free bs.length (by have := (unhide HF).fits; simp at this; omega)).2
        have hcat : ¬ (q.size + (s.extract k (k + 1)).size > 9223372036854775807) := by rw [ByteArray.size_extract]; omega
        have hqs : Hid ((q ++ s.extract k (k + 1)).size ≤ k + 1) := hide (by rw [ByteArray.size_append, ByteArray.size_extract]; omega)
        clear h47
        go_wp2_with fail
        go_region
        clear c0 f0 hcat
        go_wp2_with fail
        go_roundw
        case rel => exact ⟨k + 1, g, cap, bs, q ++ s.extract k (k + 1), by omega, by go_num, rfl, by omega, unhide hqs, unhide HN, ((unhide HF).last _).drew, ((unhide HB).setCell (p := ⟨g, bs.length, none⟩) (unhide HF).base _).drew⟩
        case measure => simp [intOf]; omega
    · obtain rfl : k = s.size := by omega
      have HE : Hid (s.data.toList.take s.size = s.data.toList) := hide (List.take_of_length_le (Nat.le_refl _))
      go_wp2_with fail
      go_ret
      exact ⟨g, cap, bs ++ [q], by rw [List.length_append]; rfl, by rw [unhide HS, unhide HE], unhide HF, unhide HB⟩
end Go.Proofs.YtklkacmeopfmhaaGreat.Pth
