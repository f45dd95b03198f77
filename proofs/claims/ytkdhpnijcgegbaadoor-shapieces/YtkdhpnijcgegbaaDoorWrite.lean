/-
  What Write does: more bytes go in.
-/
import Derived.Test.YtkdhpnijcgegbaaDoorTake
import Derived.Laws.CopyRow
namespace Go.Proofs.YtkdhpnijcgegbaaDoor
open Go.RowKit

/-- What a Sum's parts say of the bytes that went in. -/
structure St (gain : List Nat) (op m : List UInt8) : Prop where
  ok : Sha.Ok 8 gain
  len : op.length = 64
  hash : List.zipWith Sha.add Sha.start gain = Sha.hashN m (m.length / 64)
  tail : op.take (m.length % 64) = m.drop (m.length / 64 * 64)

def strLen : Value → Nat
  | .string s => s.size
  | _ => 0

def opMore (op s : List UInt8) (o n : Nat) : List UInt8 := op.take o ++ (s.take n ++ op.drop (o + n))

theorem opMore_len (op s : List UInt8) (o n : Nat) (h : op.length = 64) (hn : n ≤ s.length) (ho : o + n ≤ 64) : (opMore op s o n).length = 64 := by
  simp [opMore, h]; omega

theorem opMore_take (op s : List UInt8) (o n : Nat) (h : op.length = 64) (hn : n ≤ s.length) (ho : o + n ≤ 64) : (opMore op s o n).take (o + n) = op.take o ++ s.take n := by
  rw [opMore, ← List.append_assoc, List.take_left' (by simp [h]; omega)]

theorem drop_more (m s : List UInt8) (n : Nat) : (m ++ s.take n).drop (m.length / 64 * 64) = m.drop (m.length / 64 * 64) ++ s.take n := by
  rw [List.drop_append_of_le_length (by omega)]

theorem St.more {gain : List Nat} {op m : List UInt8} (h : St gain op m) (s : List UInt8) (n : Nat) (hn : n ≤ s.length) (ho : m.length % 64 + n < 64) : St gain (opMore op s (m.length % 64) n) (m ++ s.take n) := by
  have hl : (m ++ s.take n).length = m.length + n := by simp; omega
  have h1 : (m.length + n) / 64 = m.length / 64 := by omega
  have h2 : (m.length + n) % 64 = m.length % 64 + n := by omega
  refine ⟨h.ok, opMore_len op s _ n h.len hn (by omega), ?_, ?_⟩
  · rw [hl, h1, Sha.hashN_append _ _ _ (by omega)]
    exact h.hash
  · rw [hl, h1, h2, opMore_take op s _ n h.len hn (by omega), drop_more, h.tail]

theorem Ok.zip (a b : List Nat) (ha : a.length = 8) (hb : b.length = 8) : Sha.Ok 8 (List.zipWith Sha.add a b) := ⟨by simp [ha, hb], fun x hx => by
  simp only [List.mem_iff_getElem, List.getElem_zipWith] at hx
  obtain ⟨j, _, rfl⟩ := hx
  exact Nat.mod_lt _ (by decide)⟩

theorem St.full {gain : List Nat} {op m : List UInt8} (h : St gain op m) (s : List UInt8) (n : Nat) (hn : n ≤ s.length) (ho : m.length % 64 + n = 64) :
    St (List.zipWith Sha.add gain (Sha.run (List.zipWith Sha.add Sha.start gain) (Sha.wide (opMore op s (m.length % 64) n) 48) 64)) (opMore op s (m.length % 64) n) (m ++ s.take n) := by
  have hl : (m ++ s.take n).length = m.length + n := by simp; omega
  have h1 : (m.length + n) / 64 = m.length / 64 + 1 := by omega
  have h2 : (m.length + n) % 64 = 0 := by omega
  have hL := opMore_len op s (m.length % 64) n h.len hn (by omega)
  have ht := opMore_take op s (m.length % 64) n h.len hn (by omega)
  rw [ho, List.take_of_length_le (Nat.le_of_eq hL)] at ht
  have hst : (List.zipWith Sha.add Sha.start gain).length = 8 := by simp [Sha.start, h.ok.1]
  have hOG := Ok.zip Sha.start gain rfl h.ok.1
  refine ⟨Ok.zip _ _ h.ok.1 (hOG.run _ _).1, hL, ?_, ?_⟩
  · rw [start_gain, hl, h1, Sha.hashN, Sha.hashN_append _ _ _ (by omega), ← h.hash, Sha.block]
    have e : List.take 64 (List.drop (64 * (m.length / 64)) (m ++ s.take n)) = opMore op s (m.length % 64) n := by
      rw [Nat.mul_comm, drop_more, ← h.tail, ← ht, List.take_of_length_le (by omega)]
    rw [e]
  · rw [hl, h1, h2, List.take_zero, List.drop_of_length_le (by simp; omega)]

theorem copy_str (W : World) (B : Nat) (gain : List Nat) (op : List UInt8) (len : Nat) (hg : gain.length = 8) (hop : op.length = 64) (h : VRow W B 34 (sumCells gain op len)) (o : Nat) (s : ByteArray) (n : Nat) (hn : n = min s.size (64 - o)) (ho : o < 64) (ty : TypeId) :
    ∃ W2, (Builtin.copy_ #[44, 9] ty #[.slice (some ⟨B, 8 + o, none⟩) (64 - o) (64 - o), .string s]).run Tryd.prog W = .ok (.int .i64 (n : Int)) W2 ∧ Only B W W2 ∧ VRow W2 B 34 (sumCells gain (opMore op s.data.toList o n) len) := by
  have hlen : (sumCells gain op len).length = 73 := by simp [sumCells, hg, hop]
  have hnl : (s.data.toList.take n).length = n := by rw [List.length_take, Array.length_toList]; have : s.data.size = s.size := rfl; omega
  have hst := run_storeCells_at Tryd.prog B (8 + o) 34 ((s.data.toList.take n).map byteVal) 0 (sumCells gain op len).toArray W h (by simp [hlen]; omega) (one_bytes _)
  have hcell : (sumCells gain op len).toArray.toList.take (8 + o + 0) ++ (s.data.toList.take n).map byteVal ++ (sumCells gain op len).toArray.toList.drop (8 + o + 0 + ((s.data.toList.take n).map byteVal).length) = sumCells gain (opMore op s.data.toList o n) len := by
    rw [List.length_map, hnl, List.toList_toArray, Nat.add_zero]
    have hgl : (gain.map u).length = 8 := by simp [hg]
    have hol : (op.map byteVal).length = 64 := by simp [hop]
    rw [sumCells, sumCells, List.take_append, hgl, List.take_of_length_le (by omega), Nat.add_sub_cancel_left, List.take_append_of_le_length (by omega),
      List.drop_append, hgl, List.drop_of_length_le (by omega), List.nil_append, show 8 + o + n - 8 = o + n by omega, List.drop_append_of_le_length (by omega)]
    simp [opMore, List.map_append, List.map_take, List.map_drop]
  rw [hcell] at hst
  refine ⟨W.setRow B (sumCells gain (opMore op s.data.toList o n) len).toArray, ?_, ?_, ?_⟩
  · have hmin : Nat.min s.size (64 - o) = n := hn.symm
    rw [List.map_take] at hst
    have hfn : (byteVal : UInt8 → Value) = fun b => Value.int .u8 (b.toNat : Int) := rfl
    rw [hfn] at hst
    simp [Builtin.copy_, run_underlying Tryd.underlying44, Builtin.lenOf, Builtin.firstCells, Tryd.sizeOf5, hmin, hst, goInt]
  · exact ⟨rfl, rfl, rfl, by simp, fun j hj => setRow_other W B j _ hj⟩
  · exact setRow_heap W B _ _ 34 (0, 0) h

theorem run_open (B q : Nat) (hq : q < 64) (w : World) : (Instr.sliceAt 31 (.pointer (some ⟨B, 8, none⟩)) (some (.int .u64 (q : Int))) none none).run Tryd.prog w = .ok (.slice (some ⟨B, 8 + q, none⟩) (64 - q) (64 - q)) w := by
  have hal : Tryd.prog.arrayLen 31 = 64 := by simp [Program.arrayLen, Tryd.underlying31]
  have hel : Tryd.prog.elem 31 = 5 := by simp [Program.elem, Tryd.underlying31]
  rw [run_sliceAt_array_l w 31 ⟨B, 8, none⟩ (by rw [hal, hel]; exact Tryd.underlying31) .u64 q (by omega) (by rw [hal]; omega), hal, hel]
  simp [Tryd.sizeOf5, slicedAt, Addr.add_mid]
  omega

theorem VRow.setLen {W : World} {B : Nat} {g : List Nat} {op : List UInt8} {len : Nat} (h : VRow W B 34 (sumCells g op len)) (hg : g.length = 8) (hop : op.length = 64) (x : Nat) : VRow (W.setCell ⟨B, 72, none⟩ (.int .u64 (x : Int))) B 34 (sumCells g op x) := by
  have h2 := h.set 72 (.int .u64 (x : Int))
  have e : (sumCells g op len).set 72 (.int .u64 (x : Int)) = sumCells g op x := by
    rw [sumCells, List.set_append_right _ _ (by simp [hg]), List.set_append_right _ _ (by simp [hg, hop])]
    simp [sumCells, hg, hop]
  rwa [e] at h2

theorem VRow.lenCell {W : World} {B : Nat} {g : List Nat} {op : List UInt8} {len : Nat} (h : VRow W B 34 (sumCells g op len)) (hg : g.length = 8) (hop : op.length = 64) : W.cell? ⟨B, 72, none⟩ = some (.int .u64 (len : Int)) :=
  h.cell 72 _ (by rw [sumCells, List.getElem?_append_right (by simp [hg]), List.getElem?_append_right (by simp [hg, hop])]; simp [hg, hop])

theorem size_list (s : ByteArray) : s.data.toList.length = s.size := rfl
theorem extract_tail (s : ByteArray) (n : Nat) : (s.extract n s.size).data.toList = s.data.toList.drop n := by
  rw [ByteArray.data_extract, Array.toList_extract, List.extract_eq_take_drop, List.take_of_length_le (by rw [List.length_drop, size_list]; exact Nat.le_refl _)]
theorem len_more (M : List UInt8) (s : ByteArray) (n : Nat) (h : n ≤ s.size) : (M ++ s.data.toList.take n).length = M.length + n := by
  rw [List.length_append, List.length_take, size_list, Nat.min_eq_left h]

set_option maxRecDepth 100000 in
set_option maxHeartbeats 1000000 in
theorem Write_any (B : Nat) (hB : 2 < B) (m : List UInt8) (t : ByteArray) (hm : m.length + t.size < 1000000000) (w : World) (hG : Glob w) (gain : List Nat) (op : List UInt8) (hst : St gain op m) (hs : VRow w B 34 (sumCells gain op m.length)) :
    Calls Tryd.prog 11 #[.pointer (some ⟨B, 0, none⟩), .string t] w fun e w' => e = .returned (.tuple #[]) ∧ (∃ gain' op', St gain' op' (m ++ t.data.toList) ∧ VRow w' B 34 (sumCells gain' op' (m ++ t.data.toList).length)) ∧ Below B w w' := by
  have HG := hide hG
  have HS := hide hs
  have HST := hide hst
  clear hG hs hst
  go_enter Tryd.func11, Tryd.ntmps11
  go_wp2_with fail
  go_loopw [1] (fun sv wr => ∃ (S : ByteArray) (M : List UInt8) (g : List Nat) (o : List UInt8), sv = .string S ∧ M ++ S.data.toList = m ++ t.data.toList ∧ St g o M ∧ VRow wr B 34 (sumCells g o M.length) ∧ Below B w wr) (fun sv _ => strLen sv)
  case atStart => exact ⟨t, m, gain, op, rfl, rfl, unhide HST, unhide HS, Below.refl _ _⟩
  case round =>
    clear HS HST
    obtain ⟨S, M, g, o, rfl, hall, hst, hrow, hbl⟩ := hrel
    have HR := hide hrow
    have HB := hide hbl
    have HST := hide hst
    have HALL := hide hall
    have hlenS : M.length + S.size = m.length + t.size := by
      have := congrArg List.length hall
      simpa using this
    by_cases hpos : 0 < S.size
    · obtain ⟨L, hL⟩ : ∃ L, M.length = L := ⟨_, rfl⟩
      have c72 : wr.cell? ⟨B, 72, none⟩ = some (.int .u64 (L : Int)) := by rw [← hL]; exact hrow.lenCell hst.ok.1 hst.len
      obtain ⟨n, hn⟩ : ∃ n, n = min S.size (64 - L % 64) := ⟨_, rfl⟩
      obtain ⟨W2, hcp, ho2, hr2⟩ := copy_str wr.drew B g o L hst.ok.1 hst.len (by rw [← hL]; exact hrow.drew) (L % 64) S n hn (by omega) 3
      have hsl := run_open B (L % 64) (by omega)
      have HQ : Hid (M.length % 64 = L % 64) := hide (by rw [hL])
      have hq1 : (L : Int) % 64 = ((L % 64 : Nat) : Int) := by omega
      have hq2 : ((L : Int)).tmod 64 = ((L % 64 : Nat) : Int) := by rw [Int.tmod_eq_emod_of_nonneg (by omega)]; omega
      have hLq : L % 64 < 64 := by omega
      have hnq : n = min S.size (64 - L % 64) := hn
      generalize L % 64 = q at hsl hq1 hq2 hcp hr2 HQ hLq hnq
      have hn1 : 1 ≤ n := by omega
      have hnS : n ≤ S.size := by omega
      have HNQ := hide hnq
      have HO2 := hide ho2
      have HR2 := hide hr2
      have HL := hide hL
      have hlen1 : (o.length = 64) := hst.len
      have hlen2 : (opMore o S.data.toList q n).length = 64 := opMore_len _ _ _ _ hst.len (by simpa using hnS) (by omega)
      clear hall hrow hbl hst hn ho2 hr2 hnq hL
      go_wp2_with fail
      go_region
      have c72' := (unhide HR2).lenCell (unhide HST).ok.1 hlen2
      have f72 := (unhide HR2).frozen 72
      obtain ⟨LN, hLN⟩ : ∃ LN, L + n = LN := ⟨_, rfl⟩
      have hw1 : IntKind.u64.wrap ((L : Int) + (n : Int)) = (LN : Int) := by rw [IntKind.wrap_u64]; have := unhide HL; omega
      have HLN := hide hLN
      have HR3 := hide ((unhide HR2).setLen (unhide HST).ok.1 hlen2 LN)
      have HO3 := hide ((unhide HO2).setCell 72 (.int .u64 (LN : Int)))
      have hsize : (S.extract n S.size).size = S.size - n := by rw [ByteArray.size_extract]; omega
      have HB3 := hide ((unhide HB).drew.trans ((unhide HO3).below (Nat.le_refl _)))
      have HALL2 : Hid ((M ++ S.data.toList.take n) ++ (S.extract n S.size).data.toList = m ++ t.data.toList) := by
        rw [← unhide HALL, List.append_assoc, extract_tail, List.take_append_drop]
        exact hide rfl
      have HML : Hid ((M ++ S.data.toList.take n).length = LN) := hide (by rw [len_more _ _ _ hnS, unhide HL]; exact hLN)
      by_cases hf : q + n = 64
      · have hT : ((LN : Int) % 64 == 0) = true := by have := unhide HQ; have := unhide HL; simp; omega
        have HS4 : Hid (St (List.zipWith Sha.add g (Sha.run (List.zipWith Sha.add Sha.start g) (Sha.wide (opMore o S.data.toList q n) 48) 64)) (opMore o S.data.toList q n) (M ++ S.data.toList.take n)) := by
          have := (unhide HST).full S.data.toList n (by simpa using hnS) (by rw [unhide HQ]; exact hf)
          rw [unhide HQ] at this
          exact hide this
        clear hcp hsl hq1 hq2 c72 hLN
        have HTK := fun W hW hG => take_any B g (unhide HST).ok (opMore o S.data.toList q n) hlen2 LN W hW hG
        generalize List.zipWith Sha.add g (Sha.run (List.zipWith Sha.add Sha.start g) (Sha.wide (opMore o S.data.toList q n) 48) 64) = g2 at HS4 HTK
        have HTK2 := hide HTK
        clear HTK
        generalize opMore o S.data.toList q n = o2 at HS4 HTK2 HR3 HR2 hlen2
        go_wp2_with (first | (go_at_call 21; refine (unhide HTK2 _ (unhide HR3) ((unhide HG).below (unhide HB3) hB)).mono ?_; rintro e w4 ⟨rfl, hr4, hb4⟩))
        go_roundw
        case rel =>
          refine ⟨_, _, g2, o2, rfl, unhide HALL2, unhide HS4, ?_, (unhide HB3).trans hb4⟩
          rw [unhide HML]
          exact hr4
        case measure => simp only [strLen]; omega
      · have hT : ((LN : Int) % 64 == 0) = false := by have := unhide HQ; have := unhide HL; have := unhide HNQ; simp; omega
        have HS4 : Hid (St g (opMore o S.data.toList q n) (M ++ S.data.toList.take n)) := by
          have := (unhide HST).more S.data.toList n (by simpa using hnS) (by rw [unhide HQ]; have := unhide HNQ; omega)
          rw [unhide HQ] at this
          exact hide this
        clear hcp hsl hq1 hq2 c72 hLN
        generalize opMore o S.data.toList q n = o2 at HS4 HR3 HR2 hlen2
        go_wp2_with fail
        go_roundw
        case rel =>
          refine ⟨_, _, g, o2, rfl, unhide HALL2, unhide HS4, ?_, ((unhide HB).drew.trans ((unhide HO3).below (Nat.le_refl _)))⟩
          rw [unhide HML]
          exact unhide HR3
        case measure => simp only [strLen]; omega
    · have h0 : S.data.toList = [] := by
        apply List.eq_nil_of_length_eq_zero
        rw [Array.length_toList]
        have : S.data.size = S.size := rfl
        omega
      rw [h0, List.append_nil] at hall
      subst hall
      clear hrow hbl hst HALL
      go_wp2_with fail
      go_end0
      exact ⟨rfl, ⟨g, o, unhide HST, unhide HR⟩, unhide HB⟩
end Go.Proofs.YtkdhpnijcgegbaaDoor
