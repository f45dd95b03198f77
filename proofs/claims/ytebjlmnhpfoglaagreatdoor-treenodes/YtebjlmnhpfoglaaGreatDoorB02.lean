/-
  What Write does: more bytes go in.
-/
import Derived.Test.YtebjlmnhpfoglaaGreatDoorB01
import Derived.Laws.CopyRow
import Derived.Deep.OwnRows
import Derived.Lib.ConvBytes
import Derived.ProofKit
import Derived.LaidMore
import Derived.OpenShut
import Derived.Stop.Joined
import Derived.Lib.LaidTab
namespace Go.Proofs.YtebjlmnhpfoglaaGreatDoor.Hsh
open Go.RowKit

/-- What a Sum's parts say of the bytes that went in. -/
structure St (gain : List Nat) (op m : List UInt8) : Prop where
  ok : Sha.Ok 8 gain
  len : op.length = 64
  hash : List.zipWith Sha.add Sha.start gain = Sha.hashN m (m.length / 64)
  tail : op.take (m.length % 64) = m.drop (m.length / 64 * 64)

def strLen : Value → Nat
  | .string s => s.size
  | _ => 0

def opMore (op s : List UInt8) (o n : Nat) : List UInt8 := op.take o ++ (s.take n ++ op.drop (o + n))

theorem opMore_len (op s : List UInt8) (o n : Nat) (h : op.length = 64) (hn : n ≤ s.length) (ho : o + n ≤ 64) : (opMore op s o n).length = 64 := by
  simp [opMore, h]; omega

theorem opMore_take (op s : List UInt8) (o n : Nat) (h : op.length = 64) (hn : n ≤ s.length) (ho : o + n ≤ 64) : (opMore op s o n).take (o + n) = op.take o ++ s.take n := by
  rw [opMore, ← List.append_assoc, List.take_left' (by simp [h]; omega)]

theorem drop_more (m s : List UInt8) (n : Nat) : (m ++ s.take n).drop (m.length / 64 * 64) = m.drop (m.length / 64 * 64) ++ s.take n := by
  rw [List.drop_append_of_le_length (by omega)]

theorem St.more {gain : List Nat} {op m : List UInt8} (h : St gain op m) (s : List UInt8) (n : Nat) (hn : n ≤ s.length) (ho : m.length % 64 + n < 64) : St gain (opMore op s (m.length % 64) n) (m ++ s.take n) := by
  have hl : (m ++ s.take n).length = m.length + n := by simp; omega
  have h1 : (m.length + n) / 64 = m.length / 64 := by omega
  have h2 : (m.length + n) % 64 = m.length % 64 + n := by omega
  refine ⟨h.ok, opMore_len op s _ n h.len hn (by omega), ?_, ?_⟩
  · rw [hl, h1, Sha.hashN_append _ _ _ (by omega)]
    exact h.hash
  · rw [hl, h1, h2, opMore_take op s _ n h.len hn (by omega), drop_more, h.tail]

theorem Ok.zip (a b : List Nat) (ha : a.length = 8) (hb : b.length = 8) : Sha.Ok 8 (List.zipWith Sha.add a b) := ⟨by simp [ha, hb], fun x hx => by
  simp only [List.mem_iff_getElem, List.getElem_zipWith] at hx
  obtain ⟨j, _, rfl⟩ := hx
  exact Nat.mod_lt _ (by decide)⟩

theorem St.full {gain : List Nat} {op m : List UInt8} (h : St gain op m) (s : List UInt8) (n : Nat) (hn : n ≤ s.length) (ho : m.length % 64 + n = 64) :
    St (List.zipWith Sha.add gain (Sha.run (List.zipWith Sha.add Sha.start gain) (Sha.wide (opMore op s (m.length % 64) n) 48) 64)) (opMore op s (m.length % 64) n) (m ++ s.take n) := by
  have hl : (m ++ s.take n).length = m.length + n := by simp; omega
  have h1 : (m.length + n) / 64 = m.length / 64 + 1 := by omega
  have h2 : (m.length + n) % 64 = 0 := by omega
  have hL := opMore_len op s (m.length % 64) n h.len hn (by omega)
  have ht := opMore_take op s (m.length % 64) n h.len hn (by omega)
  rw [ho, List.take_of_length_le (Nat.le_of_eq hL)] at ht
  have hst : (List.zipWith Sha.add Sha.start gain).length = 8 := by simp [Sha.start, h.ok.1]
  have hOG := Ok.zip Sha.start gain rfl h.ok.1
  refine ⟨Ok.zip _ _ h.ok.1 (hOG.run _ _).1, hL, ?_, ?_⟩
  · rw [start_gain, hl, h1, Sha.hashN, Sha.hashN_append _ _ _ (by omega), ← h.hash, Sha.block]
    have e : List.take 64 (List.drop (64 * (m.length / 64)) (m ++ s.take n)) = opMore op s (m.length % 64) n := by
      rw [Nat.mul_comm, drop_more, ← h.tail, ← ht, List.take_of_length_le (by omega)]
    rw [e]
  · rw [hl, h1, h2, List.take_zero, List.drop_of_length_le (by simp; omega)]

theorem copy_str (W : World) (B : Nat) (gain : List Nat) (op : List UInt8) (len : Nat) (hg : gain.length = 8) (hop : op.length = 64) (h : VRow W B 156 (sumCells gain op len)) (o : Nat) (s : ByteArray) (n : Nat) (hn : n = min s.size (64 - o)) (ho : o < 64) (ty : TypeId) :
    ∃ W2, (Builtin.copy_ #[69, 9] ty #[.slice (some ⟨B, 8 + o, none⟩) (64 - o) (64 - o), .string s]).run Tryz.prog W = .ok (.int .i64 (n : Int)) W2 ∧ Only B W W2 ∧ VRow W2 B 156 (sumCells gain (opMore op s.data.toList o n) len) := by
  have hlen : (sumCells gain op len).length = 73 := by simp [sumCells, hg, hop]
  have hnl : (s.data.toList.take n).length = n := by rw [List.length_take, Array.length_toList]; have : s.data.size = s.size := rfl; omega
  have hst := run_storeCells_at Tryz.prog B (8 + o) 156 ((s.data.toList.take n).map byteVal) 0 (sumCells gain op len).toArray W h (by simp [hlen]; omega) (one_bytes _)
  have hcell : (sumCells gain op len).toArray.toList.take (8 + o + 0) ++ (s.data.toList.take n).map byteVal ++ (sumCells gain op len).toArray.toList.drop (8 + o + 0 + ((s.data.toList.take n).map byteVal).length) = sumCells gain (opMore op s.data.toList o n) len := by
    rw [List.length_map, hnl, List.toList_toArray, Nat.add_zero]
    have hgl : (gain.map u).length = 8 := by simp [hg]
    have hol : (op.map byteVal).length = 64 := by simp [hop]
    rw [sumCells, sumCells, List.take_append, hgl, List.take_of_length_le (by omega), Nat.add_sub_cancel_left, List.take_append_of_le_length (by omega),
      List.drop_append, hgl, List.drop_of_length_le (by omega), List.nil_append, show 8 + o + n - 8 = o + n by omega, List.drop_append_of_le_length (by omega)]
    simp [opMore, List.map_append, List.map_take, List.map_drop]
  rw [hcell] at hst
  refine ⟨W.setRow B (sumCells gain (opMore op s.data.toList o n) len).toArray, ?_, ?_, ?_⟩
  · have hmin : Nat.min s.size (64 - o) = n := hn.symm
    rw [List.map_take] at hst
    have hfn : (byteVal : UInt8 → Value) = fun b => Value.int .u8 (b.toNat : Int) := rfl
    rw [hfn] at hst
    simp [Builtin.copy_, run_underlying Tryz.underlying69, Builtin.lenOf, Builtin.firstCells, Tryz.sizeOf5, hmin, hst, goInt]
  · exact ⟨rfl, rfl, rfl, by simp, fun j hj => setRow_other W B j _ hj⟩
  · exact setRow_heap W B _ _ 156 (0, 0) h

theorem run_open (B q : Nat) (hq : q < 64) (w : World) : (Instr.sliceAt 154 (.pointer (some ⟨B, 8, none⟩)) (some (.int .u64 (q : Int))) none none).run Tryz.prog w = .ok (.slice (some ⟨B, 8 + q, none⟩) (64 - q) (64 - q)) w := by
  have hal : Tryz.prog.arrayLen 154 = 64 := by simp [Program.arrayLen, Tryz.underlying154]
  have hel : Tryz.prog.elem 154 = 5 := by simp [Program.elem, Tryz.underlying154]
  rw [run_sliceAt_array_l w 154 ⟨B, 8, none⟩ (by rw [hal, hel]; exact Tryz.underlying154) .u64 q (by omega) (by rw [hal]; omega), hal, hel]
  simp [Tryz.sizeOf5, slicedAt, Addr.add_mid]
  omega

theorem VRow.setLen {W : World} {B : Nat} {g : List Nat} {op : List UInt8} {len : Nat} (h : VRow W B 156 (sumCells g op len)) (hg : g.length = 8) (hop : op.length = 64) (x : Nat) : VRow (W.setCell ⟨B, 72, none⟩ (.int .u64 (x : Int))) B 156 (sumCells g op x) := by
  have h2 := h.set 72 (.int .u64 (x : Int))
  have e : (sumCells g op len).set 72 (.int .u64 (x : Int)) = sumCells g op x := by
    rw [sumCells, List.set_append_right _ _ (by simp [hg]), List.set_append_right _ _ (by simp [hg, hop])]
    simp [sumCells, hg, hop]
  rwa [e] at h2

theorem VRow.lenCell {W : World} {B : Nat} {g : List Nat} {op : List UInt8} {len : Nat} (h : VRow W B 156 (sumCells g op len)) (hg : g.length = 8) (hop : op.length = 64) : W.cell? ⟨B, 72, none⟩ = some (.int .u64 (len : Int)) :=
  h.cell 72 _ (by rw [sumCells, List.getElem?_append_right (by simp [hg]), List.getElem?_append_right (by simp [hg, hop])]; simp [hg, hop])

theorem size_list (s : ByteArray) : s.data.toList.length = s.size := rfl
theorem extract_tail (s : ByteArray) (n : Nat) : (s.extract n s.size).data.toList = s.data.toList.drop n := by
  rw [ByteArray.data_extract, Array.toList_extract, List.extract_eq_take_drop, List.take_of_length_le (by rw [List.length_drop, size_list]; exact Nat.le_refl _)]
theorem len_more (M : List UInt8) (s : ByteArray) (n : Nat) (h : n ≤ s.size) : (M ++ s.data.toList.take n).length = M.length + n := by
  rw [List.length_append, List.length_take, size_list, Nat.min_eq_left h]

set_option maxRecDepth 100000 in
set_option maxHeartbeats 1000000 in
theorem Write_any (B : Nat) (hB : 3 < B) (m : List UInt8) (t : ByteArray) (hm : m.length + t.size < 1000000000) (w : World) (hG : Glob w) (gain : List Nat) (op : List UInt8) (hst : St gain op m) (hs : VRow w B 156 (sumCells gain op m.length)) :
    Calls Tryz.prog 132 #[.pointer (some ⟨B, 0, none⟩), .string t] w fun e w' => e = .returned (.tuple #[]) ∧ (∃ gain' op', St gain' op' (m ++ t.data.toList) ∧ VRow w' B 156 (sumCells gain' op' (m ++ t.data.toList).length)) ∧ Below B w w' := by
  have HG := hide hG
  have HS := hide hs
  have HST := hide hst
  clear hG hs hst
  go_enter Tryz.func132, Tryz.ntmps132
  go_wp2_with fail
  go_loopw [1] (fun sv wr => ∃ (S : ByteArray) (M : List UInt8) (g : List Nat) (o : List UInt8), sv = .string S ∧ M ++ S.data.toList = m ++ t.data.toList ∧ St g o M ∧ VRow wr B 156 (sumCells g o M.length) ∧ Below B w wr) (fun sv _ => strLen sv)
  case atStart => exact ⟨t, m, gain, op, rfl, rfl, unhide HST, unhide HS, Below.refl _ _⟩
  case round =>
    clear HS HST
    obtain ⟨S, M, g, o, rfl, hall, hst, hrow, hbl⟩ := hrel
    have HR := hide hrow
    have HB := hide hbl
    have HST := hide hst
    have HALL := hide hall
    have hlenS : M.length + S.size = m.length + t.size := by
      have := congrArg List.length hall
      simpa using this
    by_cases hpos : 0 < S.size
    · obtain ⟨L, hL⟩ : ∃ L, M.length = L := ⟨_, rfl⟩
      have c72 : wr.cell? ⟨B, 72, none⟩ = some (.int .u64 (L : Int)) := by rw [← hL]; exact hrow.lenCell hst.ok.1 hst.len
      obtain ⟨n, hn⟩ : ∃ n, n = min S.size (64 - L % 64) := ⟨_, rfl⟩
      obtain ⟨W2, hcp, ho2, hr2⟩ := copy_str wr.drew B g o L hst.ok.1 hst.len (by rw [← hL]; exact hrow.drew) (L % 64) S n hn (by omega) 3
      have hsl := run_open B (L % 64) (by omega)
      have HQ : Hid (M.length % 64 = L % 64) := hide (by rw [hL])
      have hq1 : (L : Int) % 64 = ((L % 64 : Nat) : Int) := by omega
      have hq2 : ((L : Int)).tmod 64 = ((L % 64 : Nat) : Int) := by rw [Int.tmod_eq_emod_of_nonneg (by omega)]; omega
      have hLq : L % 64 < 64 := by omega
      have hnq : n = min S.size (64 - L % 64) := hn
      generalize L % 64 = q at hsl hq1 hq2 hcp hr2 HQ hLq hnq
      have hn1 : 1 ≤ n := by omega
      have hnS : n ≤ S.size := by omega
      have HNQ := hide hnq
      have HO2 := hide ho2
      have HR2 := hide hr2
      have HL := hide hL
      have hlen1 : (o.length = 64) := hst.len
      have hlen2 : (opMore o S.data.toList q n).length = 64 := opMore_len _ _ _ _ hst.len (by simpa using hnS) (by omega)
      clear hall hrow hbl hst hn ho2 hr2 hnq hL
      go_wp2_with fail
      go_region
      have c72' := (unhide HR2).lenCell (unhide HST).ok.1 hlen2
      have f72 := (unhide HR2).frozen 72
      obtain ⟨LN, hLN⟩ : ∃ LN, L + n = LN := ⟨_, rfl⟩
      have hw1 : IntKind.u64.wrap ((L : Int) + (n : Int)) = (LN : Int) := by rw [IntKind.wrap_u64]; have := unhide HL; omega
      have HLN := hide hLN
      have HR3 := hide ((unhide HR2).setLen (unhide HST).ok.1 hlen2 LN)
      have HO3 := hide ((unhide HO2).setCell 72 (.int .u64 (LN : Int)))
      have hsize : (S.extract n S.size).size = S.size - n := by rw [ByteArray.size_extract]; omega
      have HB3 := hide ((unhide HB).drew.trans ((unhide HO3).below (Nat.le_refl _)))
      have HALL2 : Hid ((M ++ S.data.toList.take n) ++ (S.extract n S.size).data.toList = m ++ t.data.toList) := by
        rw [← unhide HALL, List.append_assoc, extract_tail, List.take_append_drop]
        exact hide rfl
      have HML : Hid ((M ++ S.data.toList.take n).length = LN) := hide (by rw [len_more _ _ _ hnS, unhide HL]; exact hLN)
      by_cases hf : q + n = 64
      · have hT : ((LN : Int) % 64 == 0) = true := by have := unhide HQ; have := unhide HL; simp; omega
        have HS4 : Hid (St (List.zipWith Sha.add g (Sha.run (List.zipWith Sha.add Sha.start g) (Sha.wide (opMore o S.data.toList q n) 48) 64)) (opMore o S.data.toList q n) (M ++ S.data.toList.take n)) := by
          have := (unhide HST).full S.data.toList n (by simpa using hnS) (by rw [unhide HQ]; exact hf)
          rw [unhide HQ] at this
          exact hide this
        clear hcp hsl hq1 hq2 c72 hLN
        have HTK := fun W hW hG => take_any B g (unhide HST).ok (opMore o S.data.toList q n) hlen2 LN W hW hG
        generalize List.zipWith Sha.add g (Sha.run (List.zipWith Sha.add Sha.start g) (Sha.wide (opMore o S.data.toList q n) 48) 64) = g2 at HS4 HTK
        have HTK2 := hide HTK
        clear HTK
        generalize opMore o S.data.toList q n = o2 at HS4 HTK2 HR3 HR2 hlen2
        go_wp2_with (first | (go_at_call 154; refine (unhide HTK2 _ (unhide HR3) ((unhide HG).below (unhide HB3) hB)).mono ?_; rintro e w4 ⟨rfl, hr4, hb4⟩))
        go_roundw
        case rel =>
          refine ⟨_, _, g2, o2, rfl, unhide HALL2, unhide HS4, ?_, (unhide HB3).trans hb4⟩
          rw [unhide HML]
          exact hr4
        case measure => simp only [strLen]; omega
      · have hT : ((LN : Int) % 64 == 0) = false := by have := unhide HQ; have := unhide HL; have := unhide HNQ; simp; omega
        have HS4 : Hid (St g (opMore o S.data.toList q n) (M ++ S.data.toList.take n)) := by
          have := (unhide HST).more S.data.toList n (by simpa using hnS) (by rw [unhide HQ]; have := unhide HNQ; omega)
          rw [unhide HQ] at this
          exact hide this
        clear hcp hsl hq1 hq2 c72 hLN
        generalize opMore o S.data.toList q n = o2 at HS4 HR3 HR2 hlen2
        go_wp2_with fail
        go_roundw
        case rel =>
          refine ⟨_, _, g, o2, rfl, unhide HALL2, unhide HS4, ?_, ((unhide HB).drew.trans ((unhide HO3).below (Nat.le_refl _)))⟩
          rw [unhide HML]
          exact unhide HR3
        case measure => simp only [strLen]; omega
    · have h0 : S.data.toList = [] := by
        apply List.eq_nil_of_length_eq_zero
        rw [Array.length_toList]
        have : S.data.size = S.size := rfl
        omega
      rw [h0, List.append_nil] at hall
      subst hall
      clear hrow hbl hst HALL
      go_wp2_with fail
      go_end0
      exact ⟨rfl, ⟨g, o, unhide HST, unhide HR⟩, unhide HB⟩
end Go.Proofs.YtebjlmnhpfoglaaGreatDoor.Hsh

/-
  What digestOf answers: the words' bytes.
-/

namespace Go.Proofs.YtebjlmnhpfoglaaGreatDoor.Hsh
open Go.RowKit

theorem u8_of (n : Nat) (h : n < 256) : (UInt8.ofNat n).toNat = n := by rw [UInt8.toNat_ofNat']; exact Nat.mod_eq_of_lt h

set_option maxRecDepth 100000 in
set_option maxHeartbeats 1000000 in
theorem digestOf_any (ws : List Nat) (hw : Sha.Ok 8 ws) (w : World) :
    Calls Tryz.prog 156 #[.agg (ws.map u).toArray] w fun e w' => e = .returned (.agg ((Sha.digest ws).map byteVal).toArray) ∧ Below w.heap.size w w' := by
  obtain ⟨vs, hvs⟩ : ∃ vs, ws.map u = vs := ⟨_, rfl⟩
  rw [hvs]
  have HV := hide hvs
  clear hvs
  go_enter Tryz.func156, Tryz.ntmps156
  go_wp2_with fail
  go_loopw [5] (fun i wr => ∃ k : Nat, k ≤ 32 ∧ i = .int .i64 k ∧ VRow wr w.heap.size 95 vs ∧ VRow wr (w.heap.size + 1) 46 (Sha.zeros.map byteVal) ∧ VRow wr (w.heap.size + 2) 46 (((Sha.digest ws).take k ++ Sha.zeros.drop k).map byteVal) ∧ Below w.heap.size w wr) (fun i _ => 32 - (intOf i).toNat)
  case atStart => exact ⟨0, Nat.zero_le _, rfl, ((VRow.newAt rfl).alloc _).alloc _, VRow.alloc (VRow.newAt (by simp)) _, VRow.newAt (by simp), (((Below.refl _ _).alloc (Nat.le_refl _) _).alloc (by simp) _).alloc (by simp; omega) _⟩
  case round =>
    obtain ⟨k, hk, rfl, hws, hz, hrow, hbl⟩ := hrel
    have HW := hide hws
    have HR := hide hrow
    have HZ := hide hz
    have HB := hide hbl
    by_cases hlt : k < 32
    · obtain ⟨x, hx⟩ : ∃ x, ws[k / 4]? = some x := ⟨_, List.getElem?_eq_getElem (by rw [hw.1]; omega)⟩
      have c1 : wr.cell? ⟨w.heap.size, k / 4, none⟩ = some (.int .u32 (x : Int)) := hws.cell (k / 4) _ (by rw [← unhide HV]; simp [hx, u])
      have c2 : ∃ v, wr.cell? ⟨w.heap.size + 2, k, none⟩ = some v := ⟨_, hrow.byte k (by simp [Sha.digest_len, Sha.zeros]; omega)⟩
      obtain ⟨v0, c2⟩ := c2
      have f2 := hrow.frozen k
      have hx4 : x < 4294967296 := hw.2 x (List.mem_of_getElem? hx)
      obtain ⟨y, hy⟩ : ∃ y, UInt8.ofNat (x / 2 ^ (24 - 8 * (k % 4)) % 256) = y := ⟨_, rfl⟩
      have HA : Hid ((x : Int) / 2 ^ (24 - 8 * (k % 4)) % 256 = (y.toNat : Int)) := by
        rw [← hy, u8_of _ (Nat.mod_lt _ (by decide))]
        exact hide (by simp)
      have HN : Hid (((Sha.digest ws).take k ++ Sha.zeros.drop k).set k y = (Sha.digest ws).take (k + 1) ++ Sha.zeros.drop (k + 1)) := by
        have hl : k < (Sha.digest ws).length := by rw [Sha.digest_len]; exact hlt
        have e : (Sha.digest ws)[k] = y := by simp [Sha.digest, hx, ← hy]
        rw [← e]
        exact hide (Sha.mid_set _ _ k hl (by simpa [Sha.zeros] using hlt))
      clear hws hz hrow hbl hx hy
      go_wp2_with fail
      go_roundw
      case rel =>
        rw [unhide HA]
        refine ⟨k + 1, by omega, by go_num, (unhide HW).setOther _ (by simp; omega) _, (unhide HZ).setOther _ (by simp) _, ?_, (unhide HB).setCell (p := ⟨w.heap.size + 2, k, none⟩) (by simp) _⟩
        rw [← unhide HN]
        exact (unhide HR).setByte k y
      case measure => simp [intOf]; omega
    · obtain rfl : k = 32 := by omega
      rw [Sha.mid_all _ _ 32 (by rw [Sha.digest_len]; exact Nat.le_refl _) (by simp [Sha.zeros])] at HR
      clear hws hz hrow hbl
      go_wp2_with (first
        | (refine load_row (by rfl) 46 _ (by rfl) (w.heap.size + 2) (by rfl) 46 _ (unhide HR) 32 32 5 Tryz.underlying46 size24 (by simp [Sha.digest_len]) ?_)
        | (refine store_row (by rfl) 46 _ _ (by rfl) (w.heap.size + 1) _ (by rfl) (by rfl) 46 (Sha.zeros.map byteVal) (unhide HZ) 32 size24 (by simp [Sha.digest_len]) rfl (one_bytes _) ?_; intro w2 ho2 hr2; have HO2 := hide ho2; have HR2 := hide hr2; clear ho2 hr2))
      refine bodyPost_ret (v := .agg ((Sha.digest ws).map byteVal).toArray) ?_ rfl ⟨rfl, ?_⟩
      · exact results_cell_row rfl _ _ (w.heap.size + 1) 46 _ (0, 0) _ rfl (unhide HR2) Tryz.underlying46 rfl (by rw [size24]; simp [Sha.digest_len])
      · exact (unhide HB).trans ((unhide HO2).below (by omega))
end Go.Proofs.YtebjlmnhpfoglaaGreatDoor.Hsh

/-
  What ending answers: what stands behind a text of that length.
-/

namespace Go.Proofs.YtebjlmnhpfoglaaGreatDoor.Hsh
open Go.RowKit

theorem info5 : (Tryz.prog.info? 5).map (fun i => (i.zero, i.size, i.bytes)) = some (some (.int .u8 0), 1, 1) := by kernel_rfl

theorem made_zeros (n : Nat) : madeCells #[.int .u8 0] n = ((List.replicate n (0 : UInt8)).map byteVal).toArray := by
  apply Array.ext
  · simp [madeCells]
  · intro i h1 h2
    simp [madeCells, byteVal, Nat.mod_one]

theorem VRow.made (W : World) (n : Nat) : VRow (W.alloc (.cells (madeCells #[.int .u8 0] n) 5)) W.heap.size 5 ((List.replicate n (0 : UInt8)).map byteVal) := by
  refine (heap_alloc_new W _).trans ?_
  rw [made_zeros]

theorem made_set (N : Nat) (h : 1 ≤ N) : (madeCells #[.int .u8 0] N).setIfInBounds 0 (.int .u8 128) = ((128 :: List.replicate (N - 1) 0 : List UInt8).map byteVal).toArray := by
  rw [made_zeros]
  obtain ⟨M, rfl⟩ : ∃ M, N = M + 1 := ⟨N - 1, by omega⟩
  simp [List.replicate_succ, byteVal]
theorem made_zero (N : Nat) (h : 1 ≤ N) : (madeCells #[.int .u8 0] N)[0]? = some (.int .u8 0) := by
  rw [made_zeros]
  obtain ⟨M, rfl⟩ : ∃ M, N = M + 1 := ⟨N - 1, by omega⟩
  simp [List.replicate_succ, byteVal]

theorem VRow.text {W : World} {B T : Nat} {bs : List UInt8} (h : VRow W B T (bs.map byteVal)) (cap : Nat) :
    (convert 69 9 (.slice (some ⟨B, 0, none⟩) bs.length cap)).run Tryz.prog W = .ok (.string ⟨bs.toArray⟩) W := by
  refine run_convert_bytes_back W 69 9 5 ⟨B, 0, none⟩ cap bs Tryz.underlying69 Tryz.underlying5 Tryz.underlying9 fun j hj => ?_
  have e3 : (⟨B, 0, none⟩ : Addr).add j = ⟨B, j, none⟩ := by simp [Addr.add]; exact fun h => h.symm
  rw [e3]
  exact h.byte j hj

theorem back_set {α : Type} (S L : List α) (N k : Nat) (hS : S.length = N) (hL : L.length = N) (hk : k < N) (x : α) (hx : L[N - 1 - k]? = some x) :
    (S.take (N - k) ++ L.drop (N - k)).set (N - 1 - k) x = S.take (N - (k + 1)) ++ L.drop (N - (k + 1)) := by
  have h1 : N - k = (N - 1 - k) + 1 := by omega
  have h2 : N - (k + 1) = N - 1 - k := by omega
  obtain ⟨hlt, rfl⟩ := List.getElem?_eq_some_iff.1 hx
  rw [h2, h1, List.take_succ_eq_append_getElem (show N - 1 - k < S.length by omega), List.append_assoc, List.set_append_right _ _ (by simp; omega)]
  rw [List.length_take, Nat.min_eq_left (by omega), Nat.sub_self, List.singleton_append, List.set_cons_zero, ← List.drop_eq_getElem_cons hlt]

def endStart (N : Nat) : List UInt8 := 128 :: List.replicate (N - 1) 0

theorem end_last (n N : Nat) (hN : N = (119 - n % 64) % 64 + 9) : (endStart N).take (N - 8) ++ (Sha.pad n).drop (N - 8) = Sha.pad n := by
  have hq : N - 8 = (119 - n % 64) % 64 + 1 := by omega
  have hl : (119 - n % 64) % 64 ≤ N - 1 := by omega
  rw [hq, endStart, Sha.pad, List.take_succ_cons, List.drop_succ_cons, List.take_replicate, Nat.min_eq_left hl, List.drop_left' (by simp), List.cons_append]

theorem pad_at (n N k : Nat) (hN : N = (119 - n % 64) % 64 + 9) (hk : k < 8) : (Sha.pad n)[N - 1 - k]? = some (UInt8.ofNat (n * 8 / 2 ^ (8 * k) % 256)) := by
  have h1 : N - 1 - k = ((119 - n % 64) % 64 + (7 - k)) + 1 := by omega
  rw [h1, Sha.pad, List.getElem?_cons_succ, List.getElem?_append_right (by simp), List.length_replicate]
  have h2 : (119 - n % 64) % 64 + (7 - k) - (119 - n % 64) % 64 = 7 - k := by omega
  have h3 : 56 - 8 * (7 - k) = 8 * k := by omega
  have h4 : 7 - k < 8 := by omega
  rw [h2, Sha.be8, List.getElem?_map, List.getElem?_range h4, Option.map_some, h3]

set_option maxRecDepth 100000 in
set_option maxHeartbeats 1000000 in
theorem ending_any (n : Nat) (hn : n < 1152921504606846976) (w : World) :
    Calls Tryz.prog 155 #[.int .u64 (n : Int)] w fun e w' => e = .returned (.string ⟨(Sha.pad n).toArray⟩) ∧ Below w.heap.size w w' := by
  obtain ⟨N, hN⟩ : ∃ N, (119 - n % 64) % 64 + 9 = N := ⟨_, rfl⟩
  have hN1 : 9 ≤ N := by omega
  have hN2 : N ≤ 72 := by omega
  have eN : 1 + (119 - (n : Int)) % 64 + 8 = (N : Int) := by omega
  have hmk := run_make_row' (P := Tryz.prog) 69 5 (.int .u8 0) 1 Tryz.underlying69 info5 rfl .u64 .u64 N (by omega) (by omega)
  have hpl : (Sha.pad n).length = N := by rw [Sha.pad_len]; exact hN
  have HN := hide hN.symm
  generalize hP : Sha.pad n = PD at hpl
  have HP := hide hP
  clear hN hP
  have hm0 := made_zero N (by omega)
  go_enter Tryz.func155, Tryz.ntmps155
  go_wp2_with fail
  clear hmk hm0 eN
  have HR0 : Hid (VRow (w.alloc (.cells ((madeCells #[.int .u8 0] N).setIfInBounds 0 (.int .u8 128)) 5)) w.heap.size 5 ((endStart N).map byteVal)) := by
    rw [made_set N (by omega)]
    exact hide (VRow.new w 5 _)
  have hsl : (endStart N).length = N := by simp [endStart]; omega
  go_loopw [19] (fun i wr => ∃ k : Nat, k ≤ 8 ∧ i = .int .i64 k ∧ VRow wr w.heap.size 5 (((endStart N).take (N - k) ++ PD.drop (N - k)).map byteVal) ∧ Below w.heap.size w wr) (fun i _ => 8 - (intOf i).toNat)
  case atStart =>
    refine ⟨0, Nat.zero_le _, rfl, ?_, (Below.refl _ _).alloc (Nat.le_refl _) _⟩
    rw [Nat.sub_zero, List.take_of_length_le (by omega), List.drop_of_length_le (by omega), List.append_nil]
    exact unhide HR0
  case round =>
    clear HR0
    obtain ⟨k, hk, rfl, hrow, hbl⟩ := hrel
    have HR := hide hrow
    have HB := hide hbl
    by_cases hlt : k < 8
    · have hp : PD[N - 1 - k]? = some (UInt8.ofNat (n * 8 / 2 ^ (8 * k) % 256)) := by rw [← unhide HP]; exact pad_at n N k (unhide HN) hlt
      have HS := hide (back_set (endStart N) PD N k hsl hpl (by omega) _ hp)
      have HA : Hid ((n : Int) * 8 / 2 ^ (8 * k) % 256 = ((UInt8.ofNat (n * 8 / 2 ^ (8 * k) % 256)).toNat : Int)) := by
        rw [u8_of _ (Nat.mod_lt _ (by decide))]
        exact hide (by simp)
      generalize UInt8.ofNat (n * 8 / 2 ^ (8 * k) % 256) = y at HS HA
      obtain ⟨v0, c0⟩ : ∃ v, wr.cell? ⟨w.heap.size, N - 1 - k, none⟩ = some v := ⟨_, hrow.byte (N - 1 - k) (by simp [hsl, hpl]; omega)⟩
      have f0 := hrow.frozen (N - 1 - k)
      clear hrow hbl hp
      go_wp2_with fail
      go_roundw
      case rel =>
        rw [unhide HA]
        refine ⟨k + 1, by omega, by go_num, ?_, (unhide HB).setCell (p := ⟨w.heap.size, N - 1 - k, none⟩) (Nat.le_refl _) _⟩
        rw [← unhide HS]
        exact (unhide HR).setByte _ y
      case measure => simp [intOf]; omega
    · obtain rfl : k = 8 := by omega
      have hrow' : VRow wr w.heap.size 5 (PD.map byteVal) := by
        rw [← unhide HP, end_last n N (unhide HN), unhide HP] at hrow
        exact hrow
      have hcv : (convert 69 9 (.slice (some ⟨w.heap.size, 0, none⟩) N N)).run Tryz.prog wr = .ok (.string ⟨PD.toArray⟩) wr := by
        have h := hrow'.text N
        rwa [hpl] at h
      clear hrow hbl HR hrow'
      go_wp2_with fail
      go_ret
      exact ⟨rfl, unhide HB⟩
end Go.Proofs.YtebjlmnhpfoglaaGreatDoor.Hsh

/-
  What Value and Of answer: the digest of all that went in.
-/

namespace Go.Proofs.YtebjlmnhpfoglaaGreatDoor.Hsh
open Go.RowKit

def zo64 : List UInt8 := List.replicate 64 0
theorem info34 : (Tryz.prog.info? 156).map (fun i => (i.zero, i.size)) = some (some (.agg (sumCells Sha.zero8 zo64 0).toArray), 73) := by kernel_rfl

theorem st_zero : St Sha.zero8 zo64 [] := ⟨⟨rfl, by decide⟩, by simp [zo64], rfl, by simp⟩

theorem one_sum (g : List Nat) (o : List UInt8) (n : Nat) : ∀ v ∈ sumCells g o n, v.oneCell' = true := by
  intro v hv
  rw [sumCells, List.mem_append, List.mem_append] at hv
  rcases hv with hv | hv | hv
  · exact one_words _ v hv
  · exact one_bytes _ v hv
  · rw [List.mem_singleton] at hv; subst hv; rfl
theorem sum_len (g : List Nat) (o : List UInt8) (n : Nat) (hg : g.length = 8) (ho : o.length = 64) : (sumCells g o n).length = 73 := by simp [sumCells, hg, ho]

theorem Write_nil (s : ByteArray) (w : World) :
    Calls Tryz.prog 132 #[.pointer none, .string s] w fun e w' => e = .returned (.tuple #[]) ∧ w' = w := by
  go_enter Tryz.func132, Tryz.ntmps132
  go_wp2
  refine bodyPost_ret (results_none rfl _ _ _) rfl ?_
  exact ⟨rfl, rfl⟩

set_option maxRecDepth 100000 in
set_option maxHeartbeats 1000000 in
theorem Value_any (B : Nat) (m : List UInt8) (hm : m.length < 100000000) (w : World) (hG : Glob w) (g : List Nat) (o : List UInt8) (hst : St g o m) (hs : VRow w B 156 (sumCells g o m.length)) :
    Calls Tryz.prog 133 #[.pointer (some ⟨B, 0, none⟩)] w fun e w' => e = .returned (.agg ((Sha.sha m).map byteVal).toArray) ∧ Below w.heap.size w w' := by
  have hz34 := (zero_of_info info34).1
  have h2 := hG.lt2
  have HG := hide hG
  have HS := hide hs
  have HST := hide hst
  obtain ⟨L, hL⟩ : ∃ L, m.length = L := ⟨_, rfl⟩
  have c72 : w.cell? ⟨B, 72, none⟩ = some (.int .u64 (L : Int)) := by rw [← hL]; exact hs.lenCell hst.ok.1 hst.len
  have hBl := hs.lt
  have hgl := hst.ok.1
  have hol := hst.len
  have HL := hide hL
  have hP : (Sha.pad L).length ≤ 72 := by rw [Sha.pad_len]; omega
  obtain ⟨PD, hPD⟩ : ∃ PD, Sha.pad L = PD := ⟨_, rfl⟩
  rw [hPD] at hP
  have HEN : Hid (∀ W : World, Calls Tryz.prog 155 #[.int .u64 (L : Int)] W fun e w' => e = .returned (.string ⟨PD.toArray⟩) ∧ Below W.heap.size W w') := by
    rw [← hPD]; exact hide (ending_any L (by omega))
  obtain ⟨D, hD⟩ : ∃ D, Sha.sha m = D := ⟨_, rfl⟩
  have HD : Hid (∀ g' o', St g' o' (m ++ PD) → Sha.digest (List.zipWith Sha.add Sha.start g') = D) := hide fun g' o' h => by
    rw [h.hash, ← hD, Sha.sha, Sha.full, hL, hPD]
  have hDl : D.length = 32 := by rw [← hD]; exact Sha.sha_len m
  rw [hD]
  clear hG hs hst hL hPD hD
  go_enter Tryz.func133, Tryz.ntmps133
  go_wp2_with (first
    | (refine wpList_load_row (by rfl) 156 _ (by rfl) B (by rfl) 156 (sumCells g o m.length).toArray (0, 0) _ (VRow.alloc (unhide HS) _) Tryz.underlying156 rfl (by rw [size34]; simp [sum_len _ _ _ hgl hol]) ?_)
    | (refine store_row (by rfl) 156 _ _ (by rfl) (w.heap.size + 1) (sumCells g o m.length) (by rfl) (by rfl) 156 (sumCells Sha.zero8 zo64 0) (VRow.newAt (by simp)) 73 size34 (sum_len _ _ _ hgl hol) rfl (one_sum _ _ _) ?_; intro w1 ho1 hr1; have HO1 := hide ho1; have HR1 := hide hr1; have HB1 := hide ((((Below.refl w.heap.size w).alloc (Nat.le_refl _) _).alloc (by simp) _).trans (ho1.below (by omega))); have c73 := ((unhide HB1).cell (p := ⟨B, 72, none⟩) hBl).trans c72; clear ho1 hr1)
    | (go_at_call 155; refine (unhide HEN _).mono ?_; rintro e w2 ⟨rfl, hb2⟩; have HB2 := hide hb2; clear hb2))
  have HZ1 : Hid (VRow w1 w.heap.size 46 (Sha.zeros.map byteVal)) := ((VRow.new w 46 (Sha.zeros.map byteVal)).alloc _).only (unhide HO1) (by omega)
  have hc1 := (unhide HR1).lt
  have h12 := (unhide HB2).size
  have HR2 := hide ((unhide HR1).below (unhide HB2) hc1)
  have HZ2 := hide ((unhide HZ1).below (unhide HB2) (by omega))
  have HBW2 := hide ((unhide HB1).trans ((unhide HB2).mono (unhide HB1).size))
  have HG2 := hide ((unhide HG).below (unhide HBW2) h2)
  have HWR := hide (Write_any (w.heap.size + 1) (by omega) m ⟨PD.toArray⟩ (by have : (⟨PD.toArray⟩ : ByteArray).size = PD.length := rfl; omega) w2 (unhide HG2) g o (unhide HST) (unhide HR2))
  clear HO1 HR1 HB1 HZ1 c72 c73 hz34
  go_wp2_with (first
    | (go_at_call 132; refine (unhide HWR).mono ?_; rintro e w3 ⟨rfl, ⟨g3, o3, hst3, hr3⟩, hb3⟩; have HS3 := hide hst3; have HR3 := hide hr3; have HB3 := hide hb3; have hg3 := hst3.ok; clear hst3 hr3 hb3))
  have s3 := (unhide HB3).size
  have HR3' : Hid (VRow w3 (w.heap.size + 1) 156 (g3.map u ++ (o3.map byteVal ++ [.int .u64 (((m ++ PD).length : Nat) : Int)]))) := unhide HR3
  refine (words_any (w.heap.size + 1) g3 hg3 _ _ (unhide HR3') ((unhide HG2).below (unhide HB3) (by omega))).mono ?_
  rintro e w4 ⟨rfl, hb4⟩
  have HB4 := hide hb4
  have s4 := hb4.size
  clear hb4
  have HDG := hide (digestOf_any (List.zipWith Sha.add Sha.start g3) (Ok.zip _ _ rfl hg3.1) w4)
  rw [unhide HD g3 o3 (unhide HS3)] at HDG
  generalize List.zipWith Sha.add Sha.start g3 = WS at HDG
  go_wp2_with fail
  refine (unhide HDG).mono ?_
  rintro e w5 ⟨rfl, hb5⟩
  have HB5 := hide hb5
  have HZ5 := hide ((((unhide HZ2).below (unhide HB3) (by omega)).below (unhide HB4) (by omega)).below (unhide HB5) (by omega))
  clear hb5
  go_wp2_with (first
    | (refine store_row (by rfl) 46 _ _ (by rfl) w.heap.size (D.map byteVal) (by rfl) (by rfl) 46 (Sha.zeros.map byteVal) (unhide HZ5) 32 size24 (by rw [List.length_map]; exact hDl) rfl (one_bytes _) ?_; intro w6 ho6 hr6; have HO6 := hide ho6; have HR6 := hide hr6; clear ho6 hr6))
  refine bodyPost_ret (v := .agg (D.map byteVal).toArray) ?_ rfl ⟨rfl, ?_⟩
  · exact results_cell_row rfl _ _ w.heap.size 46 _ (0, 0) _ rfl (unhide HR6) Tryz.underlying46 rfl (by rw [size24]; simp [hDl])
  · exact ((((unhide HBW2).trans ((unhide HB3).mono (by omega))).trans ((unhide HB4).mono (by omega))).trans ((unhide HB5).mono (by omega))).trans ((unhide HO6).below (Nat.le_refl _))

set_option maxRecDepth 100000 in
theorem Value_nil (w : World) :
    Calls Tryz.prog 133 #[.pointer none] w fun e w' => e = .returned (.agg (Sha.zeros.map byteVal).toArray) ∧ Below w.heap.size w w' := by
  have hbd : ∀ w, (Instr.build 46 #[]).run Tryz.prog w = .ok (.agg (Sha.zeros.map byteVal).toArray) w := fun w => by kernel_rfl
  go_enter Tryz.func133, Tryz.ntmps133
  go_wp2_with (first
    | (refine store_row (by rfl) 46 _ _ (by rfl) w.heap.size (Sha.zeros.map byteVal) (by rfl) (by rfl) 46 (Sha.zeros.map byteVal) (VRow.new _ _ _) 32 size24 rfl rfl (one_bytes _) ?_; intro w6 ho6 hr6; have HO6 := hide ho6; have HR6 := hide hr6; clear ho6 hr6))
  refine bodyPost_ret (v := .agg (Sha.zeros.map byteVal).toArray) ?_ rfl ⟨rfl, ?_⟩
  · exact results_cell_row rfl _ _ w.heap.size 46 _ (0, 0) _ rfl (unhide HR6) Tryz.underlying46 rfl (by rw [size24]; rfl)
  · exact ((Below.refl _ _).alloc (Nat.le_refl _) _).trans ((unhide HO6).below (Nat.le_refl _))

set_option maxRecDepth 100000 in
set_option maxHeartbeats 1000000 in
theorem Of_any (t : ByteArray) (ht : t.size < 10000000) (w : World) (hG : Glob w) :
    Calls Tryz.prog 108 #[.string t] w fun e w' => e = .returned (.agg ((Sha.sha t.data.toList).map byteVal).toArray) ∧ Below w.heap.size w w' := by
  have hz34 := (zero_of_info info34).1
  have h2 := hG.lt2
  have HG := hide hG
  obtain ⟨D, hD⟩ : ∃ D, Sha.sha t.data.toList = D := ⟨_, rfl⟩
  have hDl : D.length = 32 := by rw [← hD]; exact Sha.sha_len _
  have HD : Hid (∀ n, n = t.data.toList → Sha.sha n = D) := hide fun n hn => hn ▸ hD
  rw [hD]
  clear hG hD
  go_enter Tryz.func108, Tryz.ntmps108
  go_wp2_with fail
  refine (Write_any (w.heap.size + 1) (by omega) [] t (by simp; omega) _ ((unhide HG).below (((Below.refl w.heap.size w).alloc (Nat.le_refl _) _).alloc (by simp) _) h2) Sha.zero8 zo64 st_zero (VRow.newAt (by simp))).mono ?_
  rintro e w1 ⟨rfl, ⟨g, o, hst, hr⟩, hb⟩
  rw [List.nil_append] at hst hr
  have HZ := hide (((VRow.new w 46 (Sha.zeros.map byteVal)).alloc _).below hb (by omega))
  have HB1 := hide ((((Below.refl w.heap.size w).alloc (Nat.le_refl _) _).alloc (by simp) _).trans (hb.mono (by omega)))
  have HV := hide (Value_any (w.heap.size + 1) t.data.toList (by rw [size_list]; omega) w1 ((unhide HG).below (unhide HB1) h2) g o hst hr)
  rw [unhide HD _ rfl] at HV
  clear hz34 hst hr hb
  go_wp2_with (first
    | (go_at_call 133; refine (unhide HV).mono ?_; rintro e w2 ⟨rfl, hb2⟩; have HB2 := hide hb2; have HZ2 := hide ((unhide HZ).below hb2 (unhide HZ).lt); clear hb2)
    | (refine store_row (by rfl) 46 _ _ (by rfl) w.heap.size (D.map byteVal) (by rfl) (by rfl) 46 (Sha.zeros.map byteVal) (unhide HZ2) 32 size24 (by rw [List.length_map]; exact hDl) rfl (one_bytes _) ?_; intro w6 ho6 hr6; have HO6 := hide ho6; have HR6 := hide hr6; clear ho6 hr6))
  refine bodyPost_ret (v := .agg (D.map byteVal).toArray) ?_ rfl ⟨rfl, ?_⟩
  · exact results_cell_row rfl _ _ w.heap.size 46 _ (0, 0) _ rfl (unhide HR6) Tryz.underlying46 rfl (by rw [size24]; simp [hDl])
  · exact ((unhide HB1).trans ((unhide HB2).mono (unhide HB1).size)).trans ((unhide HO6).below (Nat.le_refl _))
end Go.Proofs.YtebjlmnhpfoglaaGreatDoor.Hsh

/-
  What the listed package-level variables give the walks; a digest that is handed in, opened.
-/

namespace Go.Proofs.YtebjlmnhpfoglaaGreatDoor.Hsh
open Go.ChangeShapes Go.WideShapes Go.ChangeAt Go.WideMaps Go.WideElems Go.RowKit

abbrev laid2 : List (String × DataW Unit) := [("hearsay/sha.start", Rows.laid_hearsay_sha_start), ("hearsay/sha.added", Rows.laid_hearsay_sha_added)]
abbrev laid3 : List (String × DataW Unit) := [("hearsay/hearsayref03.keys", Rows.laid_hearsay_hearsayref03_keys), ("hearsay/sha.start", Rows.laid_hearsay_sha_start), ("hearsay/sha.added", Rows.laid_hearsay_sha_added)]

theorem own : ownKnob Tryz.prog.godebug = none := by kernel_rfl
theorem laidOut : laidOutB Tryz.prog = true := by kernel_rfl
theorem gKeys : Tryz.prog.globalNamed "hearsay/hearsayref03.keys" = some 0 := by kernel_rfl
theorem gAdded : Tryz.prog.globalNamed "hearsay/sha.added" = some 2 := by kernel_rfl
theorem gStart : Tryz.prog.globalNamed "hearsay/sha.start" = some 3 := by kernel_rfl
theorem tKeys : (Tryz.prog.globals[0]?).map (·.type) = some 97 := by kernel_rfl
theorem tAdded : (Tryz.prog.globals[2]?).map (·.type) = some 97 := by kernel_rfl
theorem tStart : (Tryz.prog.globals[3]?).map (·.type) = some 95 := by kernel_rfl
theorem cells29 : Tryz.prog.cellsOf 94 = 1 := by kernel_rfl
theorem cells30 : Tryz.prog.cellsOf 95 = 8 := by kernel_rfl
theorem cells46 : Tryz.prog.cellsOf 97 = 64 := by kernel_rfl
theorem cells5 : Tryz.prog.cellsOf 5 = 1 := by kernel_rfl

theorem dStart {H : Type} : (Rows.laid_hearsay_sha_start : DataW H) = Lib.tabData .u32 (Sha.start.map Int.ofNat) := rfl
theorem dAdded {H : Type} : (Rows.laid_hearsay_sha_added : DataW H) = Lib.tabData .u32 (Sha.keys.map Int.ofNat) := rfl
theorem dKeys {H : Type} : (Rows.laid_hearsay_hearsayref03_keys : DataW H) = Lib.tabData .u32 (Sha.keys.map Int.ofNat) := rfl

set_option maxRecDepth 100000 in
theorem tab_cell {W : World} {name : String} {g t n : Nat} {cs : Array Value} {f : Nat} {p : List MemPlace} {L : List Nat} (hg : Tryz.prog.globalNamed name = some g) (ht : Tryz.prog.underlying t = some (.array n 94)) (hct : Tryz.prog.cellsOf t = n)
    (hv : W.var? Tryz.prog name = some cs) (hd : DataW.trod (fun _ => ()) Tryz.prog W 0 (fun _ => true) false f t cs.toList = some (Lib.tabData .u32 (L.map Int.ofNat), p)) :
    ∀ (j x : Nat), L[j]? = some x → W.cell? ⟨g, j, none⟩ = some (.int .u32 (x : Int)) := by
  intro j x hx
  have h1 := Lib.cells_of_tab ht Tryz.underlying94 cells29 hct hd
  rw [World.var?_cell hg hv j]
  have h2 : cs[j]? = cs.toList[j]? := by simp
  rw [h2, h1]
  simp [hx]

theorem glob_of2 {W : World} (h : laidMetH Tryz.prog laid2 W) : Glob W := by
  rw [MakeChecks.laidMetH_plain _ _ _ (by kernel_rfl)] at h
  obtain ⟨ps, ⟨g0, t0, cs0, f0, p0, q0, hg0, ht0, hv0, hd0, ⟨g1, t1, cs1, f1, p1, q1, hg1, ht1, hv1, hd1, _, _⟩, _⟩, _, _⟩ := h
  obtain rfl := Option.some.inj (gStart.symm.trans hg0)
  obtain rfl := Option.some.inj (gAdded.symm.trans hg1)
  obtain rfl := Option.some.inj (tStart.symm.trans ht0)
  obtain rfl := Option.some.inj (tAdded.symm.trans ht1)
  rw [dStart] at hd0
  rw [dAdded] at hd1
  exact ⟨tab_cell gStart Tryz.underlying95 cells30 hv0 hd0, tab_cell gAdded Tryz.underlying97 cells46 hv1 hd1⟩

/-- What the document's own table holds. -/
def RefGlob (w : World) : Prop := ∀ (j x : Nat), Sha.keys[j]? = some x → w.cell? ⟨0, j, none⟩ = some (.int .u32 (x : Int))

theorem glob_of3 {W : World} (h : laidMetH Tryz.prog laid3 W) : Glob W ∧ RefGlob W := by
  rw [MakeChecks.laidMetH_plain _ _ _ (by kernel_rfl)] at h
  obtain ⟨ps, ⟨g2, t2, cs2, f2, p2, q2, hg2, ht2, hv2, hd2, ⟨g0, t0, cs0, f0, p0, q0, hg0, ht0, hv0, hd0, ⟨g1, t1, cs1, f1, p1, q1, hg1, ht1, hv1, hd1, _, _⟩, _⟩, _⟩, _, _⟩ := h
  obtain rfl := Option.some.inj (gStart.symm.trans hg0)
  obtain rfl := Option.some.inj (gAdded.symm.trans hg1)
  obtain rfl := Option.some.inj (gKeys.symm.trans hg2)
  obtain rfl := Option.some.inj (tStart.symm.trans ht0)
  obtain rfl := Option.some.inj (tAdded.symm.trans ht1)
  obtain rfl := Option.some.inj (tKeys.symm.trans ht2)
  rw [dStart] at hd0
  rw [dAdded] at hd1
  rw [dKeys] at hd2
  exact ⟨⟨tab_cell gStart Tryz.underlying95 cells30 hv0 hd0, tab_cell gAdded Tryz.underlying97 cells46 hv1 hd1⟩, tab_cell gKeys Tryz.underlying97 cells46 hv2 hd2⟩

/-- The door's own heap meets the condition. -/
theorem door_met2 (os : Os) (args : Array Value) : laidMetH Tryz.prog laid2 ((World.doorLaid Tryz.prog 24 os).forCall (fun _ _ => 0) ⟨#[], args, []⟩).memory :=
  laidMetH_of_parts3 (fuel := 8) (laidMet_of_run' 8 (by kernel_rfl) (by kernel_rfl)) (by kernel_rfl) (by kernel_rfl)
theorem door_met3 (os : Os) (args : Array Value) : laidMetH Tryz.prog laid3 ((World.doorLaid Tryz.prog 24 os).forCall (fun _ _ => 0) ⟨#[], args, []⟩).memory :=
  laidMetH_of_parts3 (fuel := 8) (laidMet_of_run' 8 (by kernel_rfl) (by kernel_rfl)) (by kernel_rfl) (by kernel_rfl)

end Go.Proofs.YtebjlmnhpfoglaaGreatDoor.Hsh

/-
  Plain facts on the bytes of a number (seven bits a byte, the lowest first) and on the number that a row of bytes begins with: no Go, no world.
-/


namespace Go.Proofs.YtebjlmnhpfoglaaGreatDoor.Cnt

def encK : Nat → Nat → List UInt8
  | 0, _ => []
  | k + 1, n => if n < 128 then [UInt8.ofNat n] else UInt8.ofNat (n % 128 + 128) :: encK k (n / 128)

def putL (n : Int) : List UInt8 := if 0 ≤ n ∧ n ≤ 1073741824 then encK 5 n.toNat else []

def num : List UInt8 → Nat
  | [] => 0
  | b :: r => b.toNat % 128 + 128 * num r

def fx (l : List UInt8) : Nat := l.findIdx fun b => decide (b.toNat < 128)

def takeF (l : List UInt8) : Int × Int × Int :=
  if fx l < 5 then
    if fx l < l.length then
      if 0 < fx l ∧ (l[fx l]?.getD 0).toNat = 0 then (0, 0, 7)
      else if 1073741824 < num (l.take (fx l + 1)) then (0, 0, 2)
      else ((num (l.take (fx l + 1)) : Nat), (fx l + 1 : Nat), 0)
    else (0, 0, 5)
  else (0, 0, 2)

theorem fx_le (l : List UInt8) : fx l ≤ l.length := List.findIdx_le_length

theorem fx_before (l : List UInt8) (j : Nat) (h : j < fx l) : 128 ≤ (l[j]?.getD 0).toNat := by
  have hl : j < l.length := Nat.lt_of_lt_of_le h (fx_le l)
  have := List.not_of_lt_findIdx (p := fun b : UInt8 => decide (b.toNat < 128)) (xs := l) h
  rw [List.getElem?_eq_getElem hl]
  simp at this ⊢
  omega

theorem fx_at (l : List UInt8) (h : fx l < l.length) : (l[fx l]?.getD 0).toNat < 128 := by
  have := List.findIdx_getElem (p := fun b : UInt8 => decide (b.toNat < 128)) (xs := l) (w := h)
  rw [List.getElem?_eq_getElem h, Option.getD_some]
  exact of_decide_eq_true this

/-- What fixes fx. -/
theorem fx_eq (l : List UInt8) (k : Nat) (hk : k < l.length) (h1 : ∀ j, j < k → 128 ≤ (l[j]?.getD 0).toNat) (h2 : (l[k]?.getD 0).toNat < 128) : fx l = k := by
  rcases Nat.lt_trichotomy (fx l) k with h | h | h
  · have := h1 _ h; have := fx_at l (by omega); omega
  · exact h
  · have := fx_before l k h; omega

theorem num_lt (l : List UInt8) : num l < 128 ^ l.length := by
  induction l with
  | nil => simp [num]
  | cons b r ih => simp only [num, List.length_cons, Nat.pow_succ]; omega

theorem num_append (l : List UInt8) (b : UInt8) : num (l ++ [b]) = num l + b.toNat % 128 * 128 ^ l.length := by
  induction l with
  | nil => simp [num]
  | cons c r ih =>
    simp only [List.cons_append, num, ih, List.length_cons, Nat.pow_succ, Nat.mul_add]
    rw [← Nat.add_assoc, Nat.mul_left_comm, Nat.mul_comm (128 ^ r.length) 128]

theorem num_take (l : List UInt8) (i : Nat) (h : i < l.length) : num (l.take (i + 1)) = num (l.take i) + (l[i]?.getD 0).toNat % 128 * 128 ^ i := by
  rw [List.take_succ_eq_append_getElem h, num_append, List.getElem?_eq_getElem h]
  simp [Nat.min_eq_left (Nat.le_of_lt h)]

theorem num_drop (l : List UInt8) (i : Nat) (h : i < l.length) : num (l.drop i) = (l[i]?.getD 0).toNat % 128 + 128 * num (l.drop (i + 1)) := by
  rw [List.drop_eq_getElem_cons h, num, List.getElem?_eq_getElem h]
  simp

theorem pow_le5 (i : Nat) (h : i ≤ 5) : 128 ^ i ≤ 34359738368 := by
  have : 128 ^ i ≤ 128 ^ 5 := Nat.pow_le_pow_right (by decide) h
  simpa using this

theorem num_le5 (l : List UInt8) (h : l.length ≤ 5) : num l < 34359738368 :=
  Nat.lt_of_lt_of_le (num_lt l) (pow_le5 _ h)

/-! ### the bytes of a number -/
theorem u8_lt {n : Nat} (h : n < 256) : (UInt8.ofNat n).toNat = n := by simp; omega

theorem encK_ne (k n : Nat) : encK (k + 1) n ≠ [] := by unfold encK; split <;> simp

theorem encK_len (k n : Nat) : (encK k n).length ≤ k := by
  induction k generalizing n with
  | zero => simp [encK]
  | succ k ih => unfold encK; split; · simp
                 · have := ih (n / 128); simp; omega

theorem encK_num (k n : Nat) (h : n < 128 ^ k) : num (encK k n) = n := by
  induction k generalizing n with
  | zero => simp at h; subst h; rfl
  | succ k ih =>
    unfold encK
    split
    · rename_i hn; simp only [num]; rw [u8_lt (by omega)]; omega
    · rename_i hn
      have hd : n / 128 < 128 ^ k := by rw [Nat.div_lt_iff_lt_mul (by decide)]; rw [Nat.pow_succ] at h; exact h
      simp only [num]; rw [u8_lt (by omega), ih _ hd]; omega

/-- All but the last are 128 at least, the last is less; and it is not nought if it is not the first. -/
theorem encK_fx (k n : Nat) (h : n < 128 ^ k) (hk : 0 < k) (b : List UInt8) : fx (encK k n ++ b) + 1 = (encK k n).length := by
  induction k generalizing n with
  | zero => omega
  | succ k ih =>
    unfold encK
    split
    · rename_i hn
      have : fx ([UInt8.ofNat n] ++ b) = 0 := fx_eq _ 0 (by simp) (by intro j hj; omega) (by simp; omega)
      rw [this]; simp
    · rename_i hn
      have hd : n / 128 < 128 ^ k := by rw [Nat.div_lt_iff_lt_mul (by decide)]; rw [Nat.pow_succ] at h; exact h
      have hk0 : 0 < k := by
        rcases Nat.eq_zero_or_pos k with h0 | h0
        · subst h0; simp at hd; omega
        · exact h0
      have := ih (n / 128) hd hk0
      have e : fx (UInt8.ofNat (n % 128 + 128) :: encK k (n / 128) ++ b) = fx (encK k (n / 128) ++ b) + 1 := by
        unfold fx
        rw [List.cons_append, List.findIdx_cons, u8_lt (by omega), show decide (n % 128 + 128 < 128) = false from by simp]
        rfl
      rw [e, this]; simp

theorem encK_last (k n : Nat) (h : n < 128 ^ k) (hn : 128 ≤ n) : ((encK k n).getLast?.getD 1).toNat ≠ 0 := by
  induction k generalizing n with
  | zero => simp at h; omega
  | succ k ih =>
    unfold encK
    rw [if_neg (by omega)]
    have hd : n / 128 < 128 ^ k := by rw [Nat.div_lt_iff_lt_mul (by decide)]; rw [Nat.pow_succ] at h; exact h
    cases k with
    | zero => simp at hd; omega
    | succ k =>
      rw [List.getLast?_cons_of_ne_nil (encK_ne k _)]
      by_cases hs : n / 128 < 128
      · unfold encK; rw [if_pos hs]; simp; omega
      · exact ih _ hd (by omega)

theorem encK_one (k n : Nat) (h : n < 128) : encK (k + 1) n = [UInt8.ofNat n] := by unfold encK; rw [if_pos h]

/-- What was taken is what is put. -/
theorem encK_back (k : Nat) (l : List UInt8) (hl : l.length ≤ k) (h0 : fx l + 1 = l.length) (hz : 0 < fx l → (l[fx l]?.getD 0).toNat ≠ 0) : encK k (num l) = l := by
  induction k generalizing l with
  | zero => omega
  | succ k ih =>
    cases l with
    | nil => simp at h0
    | cons b r =>
      by_cases hb : b.toNat < 128
      · have e : fx (b :: r) = 0 := fx_eq _ 0 (by simp) (by intro j hj; omega) (by simpa using hb)
        rw [e] at h0
        have : r = [] := by simpa using h0
        subst this
        simp only [num]
        rw [show b.toNat % 128 + 128 * 0 = b.toNat from by omega, encK_one _ _ hb]
        simp
      · have e : fx (b :: r) = fx r + 1 := by unfold fx; rw [List.findIdx_cons]; simp [hb]
        rw [e] at h0 hz
        have hr : fx r + 1 = r.length := by simpa using h0
        have hz' := hz (by omega)
        rw [List.getElem?_cons_succ] at hz'
        have ih' := ih r (by simpa using hl) hr (fun _ => hz')
        have hnr : num r ≠ 0 := by
          intro h
          rw [h] at ih'
          cases k with
          | zero => simp [encK] at ih'; subst ih'; simp at hr
          | succ k =>
            rw [encK_one _ _ (by omega)] at ih'
            subst ih'
            have : fx [UInt8.ofNat 0] = 0 := by decide
            rw [this] at hz'
            simp at hz'
        have hb2 : b.toNat < 256 := b.toNat_lt
        simp only [num]
        unfold encK
        rw [if_neg (by omega), show (b.toNat % 128 + 128 * num r) % 128 + 128 = b.toNat from by omega, show (b.toNat % 128 + 128 * num r) / 128 = num r from by omega, ih']
        simp

theorem encK_mono (k a b : Nat) (h : a ≤ b) : (encK k a).length ≤ (encK k b).length := by
  induction k generalizing a b with
  | zero => simp [encK]
  | succ k ih =>
    unfold encK
    by_cases hb : b < 128
    · rw [if_pos hb, if_pos (by omega)]; simp
    · by_cases ha : a < 128
      · rw [if_pos ha, if_neg hb]; simp
      · rw [if_neg ha, if_neg hb]; have := ih (a / 128) (b / 128) (Nat.div_le_div_right h); simpa using this

theorem encK_pos (k n : Nat) : 1 ≤ (encK (k + 1) n).length := by
  have := encK_ne k n
  cases h : encK (k + 1) n with
  | nil => exact (this h).elim
  | cons => simp

/-! ### put, take -/
theorem putL_no (n : Int) (h : n < 0 ∨ 1073741824 < n) : putL n = [] := by unfold putL; rw [if_neg (by omega)]
theorem putL_yes (n : Int) (h0 : 0 ≤ n) (h1 : n ≤ 1073741824) : putL n = encK 5 n.toNat := by unfold putL; rw [if_pos ⟨h0, h1⟩]
theorem putL_len (n : Int) : (putL n).length ≤ 5 := by unfold putL; split; · exact encK_len _ _
                                                       · simp

theorem putL_small (n : Int) (h0 : 0 ≤ n) (h1 : n < 128) : putL n = [UInt8.ofNat n.toNat] := by
  rw [putL_yes n h0 (by omega), encK_one _ _ (by omega)]

theorem encK_more (k n : Nat) (h : n < 128 ^ k) : encK (k + 1) n = encK k n ∨ (k = 0) := by
  induction k generalizing n with
  | zero => exact .inr rfl
  | succ k ih =>
    refine .inl ?_
    by_cases hn : n < 128
    · rw [encK_one _ _ hn, encK_one _ _ hn]
    · have e1 : encK (k + 1 + 1) n = UInt8.ofNat (n % 128 + 128) :: encK (k + 1) (n / 128) := by conv => lhs; unfold encK
                                                                                                 rw [if_neg hn]
      have e2 : encK (k + 1) n = UInt8.ofNat (n % 128 + 128) :: encK k (n / 128) := by conv => lhs; unfold encK
                                                                                       rw [if_neg hn]
      rw [e1, e2]
      have hd : n / 128 < 128 ^ k := by rw [Nat.div_lt_iff_lt_mul (by decide)]; rw [Nat.pow_succ] at h; exact h
      rcases ih (n / 128) hd with e | e
      · rw [e]
      · subst e; simp at hd; omega

theorem putL_big (n : Int) (h0 : 128 ≤ n) (h1 : n ≤ 1073741824) : putL n = UInt8.ofNat (n.toNat % 128 + 128) :: putL (n / 128) := by
  rw [putL_yes n (by omega) h1, putL_yes (n / 128) (by omega) (by omega), encK, if_neg (by omega)]
  have : (n / 128).toNat = n.toNat / 128 := by omega
  rw [this]
  rcases encK_more 4 (n.toNat / 128) (by omega) with e | e
  · rw [e]
  · omega

theorem takeF_put (n : Int) (h0 : 0 ≤ n) (h1 : n ≤ 1073741824) (b : List UInt8) : takeF (putL n ++ b) = (n, ((putL n).length : Int), 0) := by
  rw [putL_yes n h0 h1]
  have hlt : n.toNat < 128 ^ 5 := by omega
  have hf := encK_fx 5 n.toNat hlt (by decide) b
  have hn := encK_num 5 n.toNat hlt
  have hl := encK_len 5 n.toNat
  unfold takeF
  rw [if_pos (by omega), if_pos (by simp; omega)]
  have ht : (encK 5 n.toNat ++ b).take (fx (encK 5 n.toNat ++ b) + 1) = encK 5 n.toNat := by rw [hf]; simp
  have hlast : ¬ (0 < fx (encK 5 n.toNat ++ b) ∧ ((encK 5 n.toNat ++ b)[fx (encK 5 n.toNat ++ b)]?.getD 0).toNat = 0) := by
    rintro ⟨hp, hz⟩
    have hbig : 128 ≤ n.toNat := by
      rcases Nat.lt_or_ge n.toNat 128 with h | h
      · have h1' : (encK 5 n.toNat).length = 1 := by rw [encK_one 4 _ h]; rfl
        omega
      · exact h
    have := encK_last 5 n.toNat hlt hbig
    rw [List.getElem?_append_left (by omega)] at hz
    rw [List.getLast?_eq_getElem?, show (encK 5 n.toNat).length - 1 = fx (encK 5 n.toNat ++ b) from by omega] at this
    rw [List.getElem?_eq_getElem (by omega)] at hz this
    simp at hz this
    exact this hz
  rw [if_neg hlast, ht, hn, if_neg (by omega)]
  refine Prod.ext ?_ (Prod.ext ?_ rfl)
  · show ((n.toNat : Nat) : Int) = n; omega
  · show ((fx (encK 5 n.toNat ++ b) + 1 : Nat) : Int) = _; rw [hf]

theorem takeF_err (l : List UInt8) (h : (takeF l).2.2 ≠ 0) : (takeF l).1 = 0 ∧ (takeF l).2.1 = 0 := by
  unfold takeF at h ⊢
  split
  · split
    · split
      · exact ⟨rfl, rfl⟩
      · split
        · exact ⟨rfl, rfl⟩
        · rename_i a b c d
          rw [if_pos a, if_pos b, if_neg c, if_neg d] at h
          exact (h rfl).elim
    · exact ⟨rfl, rfl⟩
  · exact ⟨rfl, rfl⟩

/-- What a taken number is put as. -/
theorem takeF_ok (l : List UInt8) (h : (takeF l).2.2 = 0) : 1 ≤ (takeF l).2.1 ∧ (takeF l).2.1 ≤ l.length ∧ putL (takeF l).1 = l.take (takeF l).2.1.toNat := by
  by_cases h5 : fx l < 5
  · by_cases hl : fx l < l.length
    · by_cases hz : 0 < fx l ∧ (l[fx l]?.getD 0).toNat = 0
      · simp only [takeF, if_pos h5, if_pos hl, if_pos hz] at h; simp at h
      · by_cases hm : 1073741824 < num (l.take (fx l + 1))
        · simp only [takeF, if_pos h5, if_pos hl, if_neg hz, if_pos hm] at h; simp at h
        · simp only [takeF, if_pos h5, if_pos hl, if_neg hz, if_neg hm]
          refine ⟨by omega, by omega, ?_⟩
          rw [putL_yes _ (by omega) (by omega)]
          simp only [Int.toNat_natCast]
          have hlen : (l.take (fx l + 1)).length = fx l + 1 := by simp; omega
          have hg : ∀ j, j ≤ fx l → (l.take (fx l + 1))[j]? = l[j]? := by
            intro j hj; rw [List.getElem?_take]; rw [if_pos (by omega)]
          have hfx : fx (l.take (fx l + 1)) = fx l := by
            refine fx_eq _ _ (by omega) (fun j hj => ?_) ?_
            · rw [hg j (by omega)]; exact fx_before l j hj
            · rw [hg _ (Nat.le_refl _)]; exact fx_at l hl
          refine encK_back 5 _ (by omega) (by omega) ?_
          rw [hfx, hg _ (Nat.le_refl _)]
          intro hp hz'
          exact hz ⟨hp, hz'⟩
    · simp [takeF, h5, hl] at h
  · simp [takeF, h5] at h

theorem putL_mono (a b : Int) (ha : 0 ≤ a) (hab : a ≤ b) (hb : b ≤ 1073741824) : (putL a).length ≤ (putL b).length ∧ 1 ≤ (putL a).length := by
  rw [putL_yes a ha (by omega), putL_yes b (by omega) hb]
  exact ⟨encK_mono _ _ _ (by omega), encK_pos _ _⟩

end Go.Proofs.YtebjlmnhpfoglaaGreatDoor.Cnt
