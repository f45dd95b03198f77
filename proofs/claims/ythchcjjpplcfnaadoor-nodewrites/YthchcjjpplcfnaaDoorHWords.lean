/-
  What the Sum's words and a digest out of words are.
-/
import Derived.Test.YthchcjjpplcfnaaDoorHMath
import Derived.Deep.RegionWith
import Derived.Deep.OwnRows
import Derived.Lib.ConvBytes
import Derived.Laws.CopyRow
namespace Go.Proofs.YthchcjjpplcfnaaDoor.Hsh
open Go.RowKit

theorem size30 : (Tryd.prog.info? 78).map (·.size) = some 8 := by kernel_rfl
theorem size46 : (Tryd.prog.info? 85).map (·.size) = some 64 := by kernel_rfl
theorem size31 : (Tryd.prog.info? 79).map (·.size) = some 64 := by kernel_rfl
theorem size24 : (Tryd.prog.info? 33).map (·.size) = some 32 := by kernel_rfl
theorem size34 : (Tryd.prog.info? 82).map (·.size) = some 73 := by kernel_rfl

/-- What the package's variables start and added hold. -/
structure Glob (w : World) : Prop where
  start : ∀ (j x : Nat), Sha.start[j]? = some x → w.cell? ⟨2, j, none⟩ = some (.int .u32 (x : Int))
  added : ∀ (j x : Nat), Sha.keys[j]? = some x → w.cell? ⟨1, j, none⟩ = some (.int .u32 (x : Int))
theorem Glob.lt2 {w : World} (h : Glob w) : 2 < w.heap.size := block_lt_of_cell (h.start 0 _ rfl)
theorem Glob.below {w w' : World} {n : Nat} (h : Glob w) (hb : Below n w w') (hn : 2 < n) : Glob w' :=
  ⟨fun j x hx => (hb.cell (p := ⟨2, j, none⟩) hn).trans (h.start j x hx), fun j x hx => (hb.cell (p := ⟨1, j, none⟩) (by show 1 < n; omega)).trans (h.added j x hx)⟩
theorem Glob.same {w w' : World} (h : Glob w) (hc : w'.heap = w.heap) : Glob w' := by
  have e : ∀ a, w'.cell? a = w.cell? a := fun a => by simp [World.cell?, hc]
  exact ⟨fun j x hx => (e _).trans (h.start j x hx), fun j x hx => (e _).trans (h.added j x hx)⟩

theorem VRow.newAt {W : World} {T n : Nat} {vs : List Value} (hn : n = W.heap.size) : VRow (W.alloc (.cells vs.toArray T)) n T vs := by subst hn; exact VRow.new W T vs

theorem load_row {ops : Array Oper} {rest : List Oper} {o : Oper} {a : Act} {w : World} {Q : Exit → Act → World → Prop} (hgd : o.guard = none) (T : TypeId) (x : Operand) (ho : o.op = .load T x)
    (B : Nat) (hx : a.eval x = .pointer (some ⟨B, 0, none⟩)) (T' : TypeId) (vs : List Value) (hr : VRow w B T' vs) (n m : Nat) (e : TypeId) (hu : Tryd.prog.underlying T = some (.array m e))
    (hi : (Tryd.prog.info? T).map (·.size) = some n) (hn : vs.length = n)
    (h : wpList Tryd.prog ops Q rest (a.put o.dst (.agg vs.toArray)) w) : wpList Tryd.prog ops Q (o :: rest) a w :=
  wpList_load_row hgd T x ho B hx T' vs.toArray (0, 0) _ hr hu rfl (by rw [hi]; simp [hn]) h

theorem store_row {ops : Array Oper} {rest : List Oper} {o : Oper} {a : Act} {w : World} {Q : Exit → Act → World → Prop} (hgd : o.guard = none) (T : TypeId) (x y : Operand) (ho : o.op = .store T x y)
    (B : Nat) (vs : List Value) (hx : a.eval x = .pointer (some ⟨B, 0, none⟩)) (hy : a.eval y = .agg vs.toArray) (T' : TypeId) (olds : List Value) (hr : VRow w B T' olds) (n : Nat)
    (hi : (Tryd.prog.info? T).map (·.size) = some n) (hn : vs.length = n) (ho' : olds.length = n) (h1 : ∀ v ∈ vs, v.oneCell' = true)
    (h : ∀ w', Only B w w' → VRow w' B T' vs → wpList Tryd.prog ops Q rest (a.put o.dst undef) w') : wpList Tryd.prog ops Q (o :: rest) a w := by
  refine wpList_store_row hgd T x y ho B vs.toArray hx hy T' olds.toArray hr (by rw [hi]; simp [hn]) (by simp [hn, ho']) (all_oneCell_toArray h1) (h _ ?_ ?_)
  · exact ⟨rfl, rfl, rfl, by simp, fun j hj => setRow_other w B j _ hj⟩
  · exact setRow_heap w B olds.toArray _ T' (0, 0) hr

theorem one_words (ws : List Nat) : ∀ v ∈ ws.map u, v.oneCell' = true := by
  intro v hv
  obtain ⟨x, _, rfl⟩ := List.mem_map.1 hv
  rfl
theorem one_bytes (bs : List UInt8) : ∀ v ∈ bs.map byteVal, v.oneCell' = true := by
  intro v hv
  obtain ⟨x, _, rfl⟩ := List.mem_map.1 hv
  rfl

set_option maxRecDepth 100000 in
set_option maxHeartbeats 1000000 in
theorem words_any (B : Nat) (gain : List Nat) (hg : Sha.Ok 8 gain) (rest : List Value) (w : World) (hs : VRow w B 82 (gain.map u ++ rest)) (hG : Glob w) :
    Calls Tryd.prog 77 #[.pointer (some ⟨B, 0, none⟩)] w fun e w' => e = .returned (.agg ((List.zipWith Sha.add Sha.start gain).map u).toArray) ∧ Below w.heap.size w w' := by
  have HS := hide hs
  have HG := hide hG
  clear hs hG
  have HST : Hid (w.rangeAt 2 0 (Sha.start.map u)) := hide fun j v hv => by
    simp only [List.getElem?_map, Option.map_eq_some_iff] at hv
    obtain ⟨x, hx, rfl⟩ := hv
    rw [Nat.zero_add]
    exact (unhide HG).start j x hx
  have h2 := (unhide HG).lt2
  go_enter Tryd.func77, Tryd.ntmps77
  go_wp2_with (first
    | (refine wpList_load_mid (by rfl) 78 _ (by rfl) 2 0 (by rfl) (Sha.start.map u) _ (World.rangeAt_alloc (unhide HST) _) Tryd.underlying78 rfl size30 ?_)
    | (refine store_row (by rfl) 78 _ _ (by rfl) (w.heap.size + 1) (Sha.start.map u) (by rfl) (by rfl) 78 (Sha.zero8.map u) (VRow.newAt (by simp)) 8 size30 rfl rfl (one_words _) ?_; intro w1 ho1 hr1; have HO1 := hide ho1; have HR1 := hide hr1; clear ho1 hr1))
  have HB1 : Hid (Below w.heap.size w w1) := (((Below.refl _ _).alloc (Nat.le_refl _) _).alloc (by simp) _).trans ((unhide HO1).below (by omega))
  have HZ1 : Hid (VRow w1 w.heap.size 78 (Sha.zero8.map u)) := ((VRow.new w 78 (Sha.zero8.map u)).alloc _).only (unhide HO1) (by omega)
  clear HO1 HST
  go_loopw [6] (fun i wr => ∃ k : Nat, k ≤ 8 ∧ i = .int .i64 k ∧ VRow wr (w.heap.size + 1) 78 (((List.zipWith Sha.add Sha.start gain).take k ++ Sha.start.drop k).map u) ∧ VRow wr w.heap.size 78 (Sha.zero8.map u) ∧ Below w.heap.size w wr) (fun i _ => 8 - (intOf i).toNat)
  case atStart => exact ⟨0, Nat.zero_le _, rfl, unhide HR1, unhide HZ1, unhide HB1⟩
  case round =>
    obtain ⟨k, hk, rfl, hrow, hz, hbl⟩ := hrel
    have HR := hide hrow
    have HZ := hide hz
    have HB := hide hbl
    by_cases hlt : k < 8
    · obtain ⟨x, hx⟩ : ∃ x, Sha.start[k]? = some x := ⟨_, List.getElem?_eq_getElem (by simpa [Sha.start] using hlt)⟩
      obtain ⟨y, hy⟩ : ∃ y, gain[k]? = some y := ⟨_, List.getElem?_eq_getElem (by rw [hg.1]; exact hlt)⟩
      have c1 := hrow.word k x (by rw [Sha.mid_get _ _ _ (by simp [hg.1, Sha.start]; omega)]; exact hx)
      have f1 := hrow.frozen k
      have c2 : wr.cell? ⟨B, k, none⟩ = some (.int .u32 (y : Int)) := (hbl.cell (p := ⟨B, k, none⟩) (unhide HS).lt).trans ((unhide HS).cell k _ (by rw [List.getElem?_append_left (by simp [hg.1]; exact hlt)]; simp [hy, u]))
      have hA : ((x : Int) + (y : Int)) % 4294967296 = ((Sha.add x y : Nat) : Int) := by simp [Sha.add]
      have HN : Hid (((List.zipWith Sha.add Sha.start gain).take k ++ Sha.start.drop k).set k (Sha.add x y) = (List.zipWith Sha.add Sha.start gain).take (k + 1) ++ Sha.start.drop (k + 1)) := by
        have hl : k < (List.zipWith Sha.add Sha.start gain).length := by simp [hg.1, Sha.start]; exact hlt
        have e : (List.zipWith Sha.add Sha.start gain)[k] = Sha.add x y := by
          rw [List.getElem_zipWith]
          rw [List.getElem?_eq_some_iff] at hx hy
          obtain ⟨_, rfl⟩ := hx
          obtain ⟨_, rfl⟩ := hy
          rfl
        rw [← e]
        exact hide (Sha.mid_set _ _ k hl (by simpa [Sha.start] using hlt))
      generalize Sha.add x y = A at hA HN
      clear hrow hz hbl hx hy
      go_wp2_with fail
      go_region
      go_wp2_with fail
      go_roundw
      case rel =>
        refine ⟨k + 1, by omega, by go_num, ?_, ((unhide HZ).setOther _ (by simp) _).drew, ((unhide HB).setCell (p := ⟨w.heap.size + 1, k, none⟩) (by simp) _).drew⟩
        rw [← unhide HN]
        exact ((unhide HR).setWord k A).drew
      case measure => simp [intOf]; omega
    · obtain rfl : k = 8 := by omega
      rw [Sha.mid_all _ _ 8 (by simp [Sha.start]; omega) (by simp [Sha.start])] at HR
      clear hrow hz hbl
      go_wp2_with (first
        | (refine load_row (by rfl) 78 _ (by rfl) (w.heap.size + 1) (by rfl) 78 _ (unhide HR) 8 8 77 Tryd.underlying78 size30 (by simp [hg.1, Sha.start]) ?_)
        | (refine store_row (by rfl) 78 _ _ (by rfl) w.heap.size _ (by rfl) (by rfl) 78 (Sha.zero8.map u) (unhide HZ) 8 size30 (by simp [hg.1, Sha.start]) rfl (one_words _) ?_; intro w2 ho2 hr2; have HO2 := hide ho2; have HR2 := hide hr2; clear ho2 hr2))
      refine bodyPost_ret (v := .agg ((List.zipWith Sha.add Sha.start gain).map u).toArray) ?_ rfl ⟨rfl, ?_⟩
      · exact results_cell_row rfl _ _ w.heap.size 78 _ (0, 0) _ rfl (unhide HR2) Tryd.underlying78 rfl (by rw [size30]; simp [hg.1, Sha.start])
      · exact (unhide HB).trans ((unhide HO2).below (Nat.le_refl _))
end Go.Proofs.YthchcjjpplcfnaaDoor.Hsh

namespace Go.Proofs.YthchcjjpplcfnaaDoor.Hsh
open Go.RowKit

theorem u8_of (n : Nat) (h : n < 256) : (UInt8.ofNat n).toNat = n := by rw [UInt8.toNat_ofNat']; exact Nat.mod_eq_of_lt h

set_option maxRecDepth 100000 in
set_option maxHeartbeats 1000000 in
theorem digestOf_any (ws : List Nat) (hw : Sha.Ok 8 ws) (w : World) :
    Calls Tryd.prog 76 #[.agg (ws.map u).toArray] w fun e w' => e = .returned (.agg ((Sha.digest ws).map byteVal).toArray) ∧ Below w.heap.size w w' := by
  obtain ⟨vs, hvs⟩ : ∃ vs, ws.map u = vs := ⟨_, rfl⟩
  rw [hvs]
  have HV := hide hvs
  clear hvs
  go_enter Tryd.func76, Tryd.ntmps76
  go_wp2_with fail
  go_loopw [5] (fun i wr => ∃ k : Nat, k ≤ 32 ∧ i = .int .i64 k ∧ VRow wr w.heap.size 78 vs ∧ VRow wr (w.heap.size + 1) 33 (Sha.zeros.map byteVal) ∧ VRow wr (w.heap.size + 2) 33 (((Sha.digest ws).take k ++ Sha.zeros.drop k).map byteVal) ∧ Below w.heap.size w wr) (fun i _ => 32 - (intOf i).toNat)
  case atStart => exact ⟨0, Nat.zero_le _, rfl, ((VRow.newAt rfl).alloc _).alloc _, VRow.alloc (VRow.newAt (by simp)) _, VRow.newAt (by simp), (((Below.refl _ _).alloc (Nat.le_refl _) _).alloc (by simp) _).alloc (by simp; omega) _⟩
  case round =>
    obtain ⟨k, hk, rfl, hws, hz, hrow, hbl⟩ := hrel
    have HW := hide hws
    have HR := hide hrow
    have HZ := hide hz
    have HB := hide hbl
    by_cases hlt : k < 32
    · obtain ⟨x, hx⟩ : ∃ x, ws[k / 4]? = some x := ⟨_, List.getElem?_eq_getElem (by rw [hw.1]; omega)⟩
      have c1 : wr.cell? ⟨w.heap.size, k / 4, none⟩ = some (.int .u32 (x : Int)) := hws.cell (k / 4) _ (by rw [← unhide HV]; simp [hx, u])
      have c2 : ∃ v, wr.cell? ⟨w.heap.size + 2, k, none⟩ = some v := ⟨_, hrow.byte k (by simp [Sha.digest_len, Sha.zeros]; omega)⟩
      obtain ⟨v0, c2⟩ := c2
      have f2 := hrow.frozen k
      have hx4 : x < 4294967296 := hw.2 x (List.mem_of_getElem? hx)
      obtain ⟨y, hy⟩ : ∃ y, UInt8.ofNat (x / 2 ^ (24 - 8 * (k % 4)) % 256) = y := ⟨_, rfl⟩
      have HA : Hid ((x : Int) / 2 ^ (24 - 8 * (k % 4)) % 256 = (y.toNat : Int)) := by
        rw [← hy, u8_of _ (Nat.mod_lt _ (by decide))]
        exact hide (by simp)
      have HN : Hid (((Sha.digest ws).take k ++ Sha.zeros.drop k).set k y = (Sha.digest ws).take (k + 1) ++ Sha.zeros.drop (k + 1)) := by
        have hl : k < (Sha.digest ws).length := by rw [Sha.digest_len]; exact hlt
        have e : (Sha.digest ws)[k] = y := by simp [Sha.digest, hx, ← hy]
        rw [← e]
        exact hide (Sha.mid_set _ _ k hl (by simpa [Sha.zeros] using hlt))
      clear hws hz hrow hbl hx hy
      go_wp2_with fail
      go_roundw
      case rel =>
        rw [unhide HA]
        refine ⟨k + 1, by omega, by go_num, (unhide HW).setOther _ (by simp; omega) _, (unhide HZ).setOther _ (by simp) _, ?_, (unhide HB).setCell (p := ⟨w.heap.size + 2, k, none⟩) (by simp) _⟩
        rw [← unhide HN]
        exact (unhide HR).setByte k y
      case measure => simp [intOf]; omega
    · obtain rfl : k = 32 := by omega
      rw [Sha.mid_all _ _ 32 (by rw [Sha.digest_len]; exact Nat.le_refl _) (by simp [Sha.zeros])] at HR
      clear hws hz hrow hbl
      go_wp2_with (first
        | (refine load_row (by rfl) 33 _ (by rfl) (w.heap.size + 2) (by rfl) 33 _ (unhide HR) 32 32 5 Tryd.underlying33 size24 (by simp [Sha.digest_len]) ?_)
        | (refine store_row (by rfl) 33 _ _ (by rfl) (w.heap.size + 1) _ (by rfl) (by rfl) 33 (Sha.zeros.map byteVal) (unhide HZ) 32 size24 (by simp [Sha.digest_len]) rfl (one_bytes _) ?_; intro w2 ho2 hr2; have HO2 := hide ho2; have HR2 := hide hr2; clear ho2 hr2))
      refine bodyPost_ret (v := .agg ((Sha.digest ws).map byteVal).toArray) ?_ rfl ⟨rfl, ?_⟩
      · exact results_cell_row rfl _ _ (w.heap.size + 1) 33 _ (0, 0) _ rfl (unhide HR2) Tryd.underlying33 rfl (by rw [size24]; simp [Sha.digest_len])
      · exact (unhide HB).trans ((unhide HO2).below (by omega))
end Go.Proofs.YthchcjjpplcfnaaDoor.Hsh

namespace Go.Proofs.YthchcjjpplcfnaaDoor.Hsh
open Go.RowKit

def zero64 : List Nat := List.replicate 64 0

theorem below_drewN {B : Nat} {a w : World} (h : Below B a w) (q : Nat) : Below B a (w.drewN q) := ⟨h.os, h.tape, h.output, h.size, h.block⟩

theorem or4_bits (a b c d : Nat) (ha : a < 256) (hb : b < 256) (hc : c < 256) (hd : d < 256) :
    bits .or .u32 (bits .or .u32 (bits .or .u32 ((a : Int) * 16777216) ((b : Int) * 65536)) ((c : Int) * 256)) (d : Int) = ((((a * 256 + b) * 256 + c) * 256 + d : Nat) : Int) := by
  have e1 : (a : Int) * 16777216 = ((a * 16777216 : Nat) : Int) := by omega
  have e2 : (b : Int) * 65536 = ((b * 65536 : Nat) : Int) := by omega
  have e3 : (c : Int) * 256 = ((c * 256 : Nat) : Int) := by omega
  have h1 : a * 16777216 ||| b * 65536 < 4294967296 := Nat.or_lt_two_pow (n := 32) (by omega) (by omega)
  have h2 : a * 16777216 ||| b * 65536 ||| c * 256 < 4294967296 := Nat.or_lt_two_pow (n := 32) h1 (by omega)
  rw [e1, e2, e3, u32_or_nat _ _ (by omega) (by omega), u32_or_nat _ _ h1 (by omega), u32_or_nat _ _ h2 (by omega), Sha.or4 a b c d hb hc hd]

theorem s0_bits (x : Nat) (hx : x < 4294967296) : bits .xor .u32 (bits .xor .u32 (Sha.rotr x 7 : Int) (Sha.rotr x 18 : Int)) ((x : Int) / 8) = ((Sha.s0 x : Nat) : Int) := by
  have e : (x : Int) / 8 = ((x / 8 : Nat) : Int) := by omega
  rw [e, u32_xor_nat _ _ (Sha.rotr_lt _ _ hx) (Sha.rotr_lt _ _ hx), u32_xor_nat _ _ (Nat.xor_lt_two_pow (n := 32) (Sha.rotr_lt _ _ hx) (Sha.rotr_lt _ _ hx)) (by omega)]; rfl
theorem s1_bits (x : Nat) (hx : x < 4294967296) : bits .xor .u32 (bits .xor .u32 (Sha.rotr x 17 : Int) (Sha.rotr x 19 : Int)) ((x : Int) / 1024) = ((Sha.s1 x : Nat) : Int) := by
  have e : (x : Int) / 1024 = ((x / 1024 : Nat) : Int) := by omega
  rw [e, u32_xor_nat _ _ (Sha.rotr_lt _ _ hx) (Sha.rotr_lt _ _ hx), u32_xor_nat _ _ (Nat.xor_lt_two_pow (n := 32) (Sha.rotr_lt _ _ hx) (Sha.rotr_lt _ _ hx)) (by omega)]; rfl

theorem wide_set (bs : List UInt8) (hb : bs.length = 64) (j : Nat) (h1 : 16 ≤ j) (h2 : j < 64) :
    (Sha.wide bs (j - 16) ++ zero64.drop j).set j (Sha.next (Sha.wide bs (j - 16))) = Sha.wide bs (j + 1 - 16) ++ zero64.drop (j + 1) := by
  have hl := (Sha.ok_wide bs hb (j - 16)).1
  rw [show j + 1 - 16 = (j - 16) + 1 by omega, Sha.wide, List.set_append_right _ _ (by omega), hl, show j - (16 + (j - 16)) = 0 by omega,
    List.drop_eq_getElem_cons (show j < zero64.length by simpa [zero64] using h2), List.set_cons_zero, List.append_assoc, List.singleton_append]

theorem wide_get (bs : List UInt8) (hb : bs.length = 64) (j : Nat) (h1 : 16 ≤ j) (i : Nat) (hi : i < j) :
    (Sha.wide bs (j - 16) ++ zero64.drop j)[i]? = some ((Sha.wide bs (j - 16)).getD i 0) ∧ (Sha.wide bs (j - 16)).getD i 0 < 4294967296 := by
  have hk := Sha.ok_wide bs hb (j - 16)
  refine ⟨?_, hk.get i (by omega)⟩
  have hl : i < (Sha.wide bs (j - 16)).length := by rw [hk.1]; omega
  rw [List.getElem?_append_left hl, List.getElem?_eq_getElem hl]
  simp [List.getD, hl]

set_option maxRecDepth 100000 in
set_option maxHeartbeats 1000000 in
theorem rowOf_any (bs : List UInt8) (hb : bs.length = 64) (w : World) :
    Calls Tryd.prog 85 #[.agg (bs.map byteVal).toArray] w fun e w' => e = .returned (.agg ((Sha.wide bs 48).map u).toArray) ∧ Below w.heap.size w w' := by
  obtain ⟨vs, hvs⟩ : ∃ vs, bs.map byteVal = vs := ⟨_, rfl⟩
  rw [hvs]
  have HV := hide hvs
  clear hvs
  go_enter Tryd.func85, Tryd.ntmps85
  go_wp2_with fail
  go_loopw [10] (fun i wr => ∃ k : Nat, k ≤ 16 ∧ i = .int .i64 k ∧ VRow wr w.heap.size 79 vs ∧ VRow wr (w.heap.size + 1) 85 (zero64.map u) ∧ VRow wr (w.heap.size + 2) 85 (((Sha.firsts bs 16).take k ++ zero64.drop k).map u) ∧ Below w.heap.size w wr) (fun i _ => 16 - (intOf i).toNat)
  case atStart => exact ⟨0, Nat.zero_le _, rfl, ((VRow.newAt rfl).alloc _).alloc _, VRow.alloc (VRow.newAt (by simp)) _, VRow.newAt (by simp), (((Below.refl _ _).alloc (Nat.le_refl _) _).alloc (by simp) _).alloc (by simp; omega) _⟩
  case round =>
    obtain ⟨k, hk, rfl, hws, hz, hrow, hbl⟩ := hrel
    have HW := hide hws
    have HR := hide hrow
    have HZ := hide hz
    have HB := hide hbl
    by_cases hlt : k < 16
    · rw [← unhide HV] at hws
      have c0 := hws.byte (4 * k) (by omega)
      have c1 := hws.byte (4 * k + 1) (by omega)
      have c2 := hws.byte (4 * k + 2) (by omega)
      have c3 := hws.byte (4 * k + 3) (by omega)
      have b0 := bs[4 * k].toNat_lt
      have b1 := bs[4 * k + 1].toNat_lt
      have b2 := bs[4 * k + 2].toNat_lt
      have b3 := bs[4 * k + 3].toNat_lt
      have eW : Sha.wordAt bs k = ((bs[4 * k].toNat * 256 + bs[4 * k + 1].toNat) * 256 + bs[4 * k + 2].toNat) * 256 + bs[4 * k + 3].toNat := Sha.wordAt_four bs k (by omega)
      have HN : Hid (((Sha.firsts bs 16).take k ++ zero64.drop k).set k (Sha.wordAt bs k) = (Sha.firsts bs 16).take (k + 1) ++ zero64.drop (k + 1)) := by
        have hl : k < (Sha.firsts bs 16).length := by simpa [Sha.firsts] using hlt
        have e : (Sha.firsts bs 16)[k] = Sha.wordAt bs k := by simp [Sha.firsts]
        rw [← e]
        exact hide (Sha.mid_set _ _ k hl (by simp [zero64]; omega))
      generalize bs[4 * k].toNat = a0 at c0 b0 eW
      generalize bs[4 * k + 1].toNat = a1 at c1 b1 eW
      generalize bs[4 * k + 2].toNat = a2 at c2 b2 eW
      generalize bs[4 * k + 3].toNat = a3 at c3 b3 eW
      have hor := or4_bits a0 a1 a2 a3 b0 b1 b2 b3
      rw [← eW] at hor
      generalize Sha.wordAt bs k = X at hor HN
      clear eW
      have c4 : ∃ v, wr.cell? ⟨w.heap.size + 2, k, none⟩ = some v := ⟨_, hrow.cell k ((((Sha.firsts bs 16).take k ++ zero64.drop k).map u)[k]'(by simp [Sha.firsts, zero64]; omega)) (List.getElem?_eq_getElem _)⟩
      obtain ⟨v0, c4⟩ := c4
      have f4 := hrow.frozen k
      clear hws hz hrow hbl
      go_wp2_with fail
      go_region
      go_wp2_with fail
      go_roundw
      case rel =>
        refine ⟨k + 1, by omega, by go_num, ((unhide HW).setOther _ (by simp; omega) _).drew, ((unhide HZ).setOther _ (by simp) _).drew, ?_, ((unhide HB).setCell (p := ⟨w.heap.size + 2, k, none⟩) (by simp) _).drew⟩
        rw [← unhide HN]
        exact ((unhide HR).setWord k X).drew
      case measure => simp [intOf]; omega
    · obtain rfl : k = 16 := by omega
      have HR1 : Hid (VRow wr (w.heap.size + 2) 85 ((Sha.wide bs (16 - 16) ++ zero64.drop 16).map u)) := by
        rw [List.take_of_length_le (by simp [Sha.firsts])] at hrow
        exact hide hrow
      clear hws hz hrow hbl HR HW
      go_wp2_with fail
      go_loopw [5] (fun i wr => ∃ k : Nat, 16 ≤ k ∧ k ≤ 64 ∧ i = .int .i64 k ∧ VRow wr (w.heap.size + 1) 85 (zero64.map u) ∧ VRow wr (w.heap.size + 2) 85 ((Sha.wide bs (k - 16) ++ zero64.drop k).map u) ∧ Below w.heap.size w wr) (fun i _ => 64 - (intOf i).toNat)
      case atStart => exact ⟨16, Nat.le_refl _, by decide, rfl, unhide HZ, unhide HR1, unhide HB⟩
      case round =>
        clear HR1 HZ HB
        obtain ⟨k, hk, hk2, rfl, hz, hrow, hbl⟩ := hrel
        have HR := hide hrow
        have HZ := hide hz
        have HB := hide hbl
        by_cases hlt : k < 64
        · have HN := hide (wide_set bs hb k hk hlt)
          obtain ⟨g2, l2⟩ := wide_get bs hb k hk (k - 2) (by omega)
          obtain ⟨g15, l15⟩ := wide_get bs hb k hk (k - 15) (by omega)
          obtain ⟨g16, l16⟩ := wide_get bs hb k hk (k - 16) (by omega)
          obtain ⟨g7, l7⟩ := wide_get bs hb k hk (k - 7) (by omega)
          have c2 := hrow.word (k - 2) _ g2
          have c15 := hrow.word (k - 15) _ g15
          have c16 := hrow.word (k - 16) _ g16
          have c7 := hrow.word (k - 7) _ g7
          have eN : Sha.next (Sha.wide bs (k - 16)) = ((Sha.wide bs (k - 16)).getD (k - 16) 0 + Sha.s0 ((Sha.wide bs (k - 16)).getD (k - 15) 0) + (Sha.wide bs (k - 16)).getD (k - 7) 0 + Sha.s1 ((Sha.wide bs (k - 16)).getD (k - 2) 0)) % 4294967296 := by
            rw [Sha.next, (Sha.ok_wide bs hb (k - 16)).1, show 16 + (k - 16) = k by omega]
          have c4 : ∃ v, wr.cell? ⟨w.heap.size + 2, k, none⟩ = some v := ⟨_, hrow.cell k (((Sha.wide bs (k - 16) ++ zero64.drop k).map u)[k]'(by simp [(Sha.ok_wide bs hb (k - 16)).1, zero64]; omega)) (List.getElem?_eq_getElem _)⟩
          obtain ⟨v0, c4⟩ := c4
          have f4 := hrow.frozen k
          clear g2 g15 g16 g7
          generalize (Sha.wide bs (k - 16)).getD (k - 2) 0 = x2 at c2 eN l2
          generalize (Sha.wide bs (k - 16)).getD (k - 15) 0 = x15 at c15 eN l15
          generalize (Sha.wide bs (k - 16)).getD (k - 16) 0 = x16 at c16 eN l16
          generalize (Sha.wide bs (k - 16)).getD (k - 7) 0 = x7 at c7 eN l7
          generalize Sha.next (Sha.wide bs (k - 16)) = X at eN HN
          have hs0 := s0_bits x15 l15
          have hs1 := s1_bits x2 l2
          have hA : ((x16 : Int) + (Sha.s0 x15 : Int) + (x7 : Int) + (Sha.s1 x2 : Int)) % 4294967296 = (X : Int) := by rw [eN]; simp
          clear hz hrow hbl eN
          go_wp2_with fail
          go_quiet (fail)
          go_wp2_with (first | (go_at_call 89; refine (turned_any _ ?_ _ ?_ ?_ _).mono ?_ <;> first | assumption | decide | rintro x w1 ⟨rfl, rfl⟩))
          go_region
          go_wp2_with fail
          go_roundw
          case rel =>
            (repeat apply Exists.intro)
            refine ⟨?_, rfl⟩
            refine ⟨k + 1, by omega, by omega, by go_num, ((unhide HZ).drewN _).setOther _ (by simp) _, ?_, (below_drewN (unhide HB) _).setCell (p := ⟨w.heap.size + 2, k, none⟩) (by simp) _⟩
            rw [← unhide HN]
            exact ((unhide HR).drewN _).setWord k X
          case measure => simp [intOf]; omega
        · obtain rfl : k = 64 := by omega
          have HR2 : Hid (VRow wr (w.heap.size + 2) 85 ((Sha.wide bs 48).map u)) := by
            rw [List.drop_of_length_le (by simp [zero64]), List.append_nil] at hrow
            exact hide hrow
          have hL : (Sha.wide bs 48).length = 64 := (Sha.ok_wide bs hb 48).1
          clear hz hrow hbl HR
          go_wp2_with (first
            | (refine load_row (by rfl) 85 _ (by rfl) (w.heap.size + 2) (by rfl) 85 _ (unhide HR2) 64 64 77 Tryd.underlying85 size46 (by rw [List.length_map]; exact hL) ?_)
            | (refine store_row (by rfl) 85 _ _ (by rfl) (w.heap.size + 1) _ (by rfl) (by rfl) 85 (zero64.map u) (unhide HZ) 64 size46 (by rw [List.length_map]; exact hL) (by simp [zero64]) (one_words _) ?_; intro w2 ho2 hr2; have HO2 := hide ho2; have HR3 := hide hr2; clear ho2 hr2))
          refine bodyPost_ret (v := .agg ((Sha.wide bs 48).map u).toArray) ?_ rfl ⟨rfl, ?_⟩
          · exact results_cell_row rfl _ _ (w.heap.size + 1) 85 _ (0, 0) _ rfl (unhide HR3) Tryd.underlying85 rfl (by rw [size46]; simp [hL])
          · exact (unhide HB).trans ((unhide HO2).below (by omega))
end Go.Proofs.YthchcjjpplcfnaaDoor.Hsh

namespace Go.Proofs.YthchcjjpplcfnaaDoor.Hsh
open Go.RowKit

def sumCells (gain : List Nat) (op : List UInt8) (len : Nat) : List Value := gain.map u ++ (op.map byteVal ++ [.int .u64 (len : Int)])

theorem VRow.setGain {W : World} {B : Nat} {g : List Nat} {op : List UInt8} {len : Nat} (h : VRow W B 82 (sumCells g op len)) (k x : Nat) (hk : k < g.length) : VRow (W.setCell ⟨B, k, none⟩ (.int .u32 (x : Int))) B 82 (sumCells (g.set k x) op len) := by
  have := h.set k (.int .u32 (x : Int))
  rwa [sumCells, List.set_append_left _ _ (by simpa using hk), show (Value.int .u32 (x : Int)) = u x from rfl, ← List.map_set] at this

theorem Glob.only {w w' : World} {B : Nat} (h : Glob w) (ho : Only B w w') (hB : 2 < B) : Glob w' := h.below (ho.below (Nat.le_refl _)) hB

theorem key_at (i : Nat) (h : i < 64) : Sha.keys[i]? = some (Sha.keys.getD i 0) := by
  have hl : i < Sha.keys.length := h
  simp [List.getD, hl]

theorem row_at (L : List Nat) (n i : Nat) (hL : L.length = n) (h : i < n) : L[i]? = some (L.getD i 0) := by
  have hl : i < L.length := by rw [hL]; exact h
  simp [List.getD, hl]

theorem start_gain (gain r : List Nat) : List.zipWith Sha.add Sha.start (List.zipWith Sha.add gain r) = List.zipWith Sha.add (List.zipWith Sha.add Sha.start gain) r := by
  apply List.ext_getElem
  · simp [Nat.min_assoc]
  · intro i h1 h2
    simp only [List.getElem_zipWith, Sha.add]
    omega

theorem step_mod (ws : List Nat) (k : Nat) : Sha.step ws (k % 4294967296) = Sha.step ws k := by
  unfold Sha.step
  split
  · simp only [Sha.t1, Nat.add_mod_mod]
  · rfl

set_option maxRecDepth 100000 in
set_option maxHeartbeats 1000000 in
theorem take_any (B : Nat) (gain : List Nat) (hg : Sha.Ok 8 gain) (op : List UInt8) (hop : op.length = 64) (len : Nat) (w : World) (hs : VRow w B 82 (sumCells gain op len)) (hG : Glob w) :
    Calls Tryd.prog 74 #[.pointer (some ⟨B, 0, none⟩)] w fun e w' => e = .returned (.tuple #[]) ∧ VRow w' B 82 (sumCells (List.zipWith Sha.add gain (Sha.run (List.zipWith Sha.add Sha.start gain) (Sha.wide op 48) 64)) op len) ∧ Below B w w' := by
  have HS := hide hs
  have HG := hide hG
  have HM : Hid (w.rangeAt B 8 (op.map byteVal)) := hide fun j v hv => by
    have hj : j < 64 := by
      have := (List.getElem?_eq_some_iff.1 hv).1
      simpa [hop] using this
    refine hs.cell (8 + j) v ?_
    rw [sumCells, List.getElem?_append_right (by simp [hg.1]), List.getElem?_append_left (by simp [hg.1, hop]; omega)]
    simpa [hg.1] using hv
  clear hs hG
  have hL : (Sha.wide op 48).length = 64 := (Sha.ok_wide op hop 48).1
  have hOW : Sha.Ok 64 (Sha.wide op 48) := Sha.ok_wide op hop 48
  have hOG : Sha.Ok 8 (List.zipWith Sha.add Sha.start gain) := ⟨by simp [Sha.start, hg.1], fun x hx => by
    simp only [List.mem_iff_getElem, List.getElem_zipWith] at hx
    obtain ⟨j, _, rfl⟩ := hx
    exact Nat.mod_lt _ (by decide)⟩
  generalize hRW : Sha.wide op 48 = RW at hL hOW
  generalize hWS : List.zipWith Sha.add Sha.start gain = WS at hOG
  obtain ⟨FIN, hFIN⟩ : ∃ FIN, Sha.run WS RW 64 = FIN := ⟨_, rfl⟩
  have hOF : Sha.Ok 8 FIN := hFIN ▸ hOG.run RW 64
  rw [hFIN]
  have HFIN : ∀ n, n = 64 → Sha.run WS RW n = FIN := fun n hn => hn ▸ hFIN
  clear hFIN
  have HRW : ∀ n, n = 48 → Sha.wide op n = RW := fun n hn => hn ▸ hRW
  have HWS := hide hWS
  clear hRW hWS
  go_enter Tryd.func74, Tryd.ntmps74
  go_wp2_with (first
    | (refine wpList_load_mid (by rfl) 79 _ (by rfl) B 8 (by rfl) (op.map byteVal) _ (unhide HM) Tryd.underlying79 rfl (by rw [size31]; simp [hop]) ?_)
    | (go_at_call 85; refine (rowOf_any op hop _).mono ?_; rintro e w1 ⟨rfl, hb1⟩; rw [HRW 48 rfl]; have HB1 := hide hb1; clear hb1)
    | (refine store_row (by rfl) 85 _ _ (by rfl) w1.heap.size (RW.map u) (by rfl) (by rfl) 85 (zero64.map u) (VRow.newAt rfl) 64 size46 (by simp [hL]) (by simp [zero64]) (one_words _) ?_; intro w2 ho2 hr2; have HB2 := hide (((unhide HB1).alloc (unhide HB1).size _).trans (ho2.below (unhide HB1).size)); have HR2 := hide hr2; clear ho2 hr2)
    | (go_at_call 77; refine (words_any B gain hg _ _ (show VRow w2 B 82 (gain.map u ++ _) from (unhide HS).below (unhide HB2) (unhide HS).lt) ((unhide HG).below (unhide HB2) (unhide HG).lt2)).mono ?_; rintro e w3 ⟨rfl, hb3⟩; rw [unhide HWS]; have HB3 := hide hb3; clear hb3)
    | (refine store_row (by rfl) 78 _ _ (by rfl) w3.heap.size (WS.map u) (by rfl) (by rfl) 78 (Sha.zero8.map u) (VRow.newAt rfl) 8 size30 (by simp [hOG.1]) rfl (one_words _) ?_; intro w4 ho4 hr4; have HO4 := hide ho4; have HR4 := hide hr4; clear ho4 hr4))
  have h23 := (unhide HB3).size
  have h12 := (unhide HR2).lt
  have h01 := (unhide HB1).size
  have HW4 : Hid (VRow w4 w1.heap.size 85 (RW.map u)) := ((((unhide HR2).below (unhide HB3) (unhide HR2).lt).alloc _).only (unhide HO4) (by omega))
  have HB4 : Hid (Below w.heap.size w w4) := (((unhide HB2).trans ((unhide HB3).mono (unhide HB2).size)).alloc (by omega) _).trans ((unhide HO4).below (by omega))
  clear HB1 HB2 HB3 HR2 HO4 HM
  go_loopw [13] (fun i wr => ∃ k : Nat, k ≤ 64 ∧ i = .int .i64 k ∧ VRow wr w3.heap.size 78 ((Sha.run WS RW k).map u) ∧ VRow wr w1.heap.size 85 (RW.map u) ∧ Below w.heap.size w wr) (fun i _ => 64 - (intOf i).toNat)
  case atStart => exact ⟨0, Nat.zero_le _, rfl, unhide HR4, unhide HW4, unhide HB4⟩
  case round =>
    clear HR4 HW4 HB4
    obtain ⟨k, hk, rfl, hws, hrow, hbl⟩ := hrel
    have HW := hide hws
    have HR := hide hrow
    have HB := hide hbl
    by_cases hlt : k < 64
    · have c1 := ((unhide HG).below hbl (unhide HG).lt2).added k _ (key_at k hlt)
      have c2 := hrow.word k _ (row_at RW 64 k hL hlt)
      have HN : Hid (Sha.step (Sha.run WS RW k) ((Sha.keys.getD k 0 + RW.getD k 0) % 4294967296) = Sha.run WS RW (k + 1)) := by rw [step_mod]; exact hide rfl
      have hA : IntKind.u32.wrap ((Sha.keys.getD k 0 : Int) + (RW.getD k 0 : Int)) = (((Sha.keys.getD k 0 + RW.getD k 0) % 4294967296 : Nat) : Int) := by rw [IntKind.wrap_u32]; simp
      generalize Sha.keys.getD k 0 = K at c1 hA HN
      generalize RW.getD k 0 = X at c2 hA HN
      generalize (K + X) % 4294967296 = KX at hA HN
      have HOK := hide (hOG.run RW k)
      generalize Sha.run WS RW k = Y at HW HN HOK
      clear hws hrow hbl
      go_wp2_with fail
      go_region_with (go_at_call 86; refine (turn_list w3.heap.size KX Y (unhide HOK) _ (VRow.drew (unhide HW))).mono ?_; rintro e w5 ⟨rfl, hr5, ho5⟩)
      all_goals
        go_wp2_with fail
        go_roundw
        case rel =>
          refine ⟨k + 1, by omega, by go_num, ?_, (unhide HR).drew.only ho5 (by omega), (unhide HB).drew.trans (ho5.below (by omega))⟩
          rw [← unhide HN]
          exact hr5
        case measure => simp [intOf]; omega
    · obtain rfl : k = 64 := by omega
      have HW2 : Hid (VRow wr w3.heap.size 78 (FIN.map u)) := by rw [HFIN 64 rfl] at hws; exact hide hws
      clear hws hrow hbl HW HR HFIN HRW
      have HS1 := hide ((unhide HS).below (unhide HB) (unhide HS).lt)
      have hBs := (unhide HS).lt
      go_wp2_with fail
      go_loopw [25] (fun i wr => ∃ k : Nat, k ≤ 8 ∧ i = .int .i64 k ∧ VRow wr w3.heap.size 78 (FIN.map u) ∧ VRow wr B 82 (sumCells ((List.zipWith Sha.add gain FIN).take k ++ gain.drop k) op len) ∧ Below B w wr) (fun i _ => 8 - (intOf i).toNat)
      case atStart => exact ⟨0, Nat.zero_le _, rfl, unhide HW2, unhide HS1, (unhide HB).mono (by omega)⟩
      case round =>
        clear HW2 HS1 HB
        obtain ⟨k, hk, rfl, hws, hrow, hbl⟩ := hrel
        have HW := hide hws
        have HR := hide hrow
        have HB := hide hbl
        by_cases hlt : k < 8
        · have hl : k < (List.zipWith Sha.add gain FIN).length := by simp [hg.1, hOF.1]; exact hlt
          have hgk : k < gain.length := by rw [hg.1]; exact hlt
          have c1 := hws.word k _ (row_at FIN 8 k hOF.1 hlt)
          have c2 : wr.cell? ⟨B, k, none⟩ = some (.int .u32 (gain.getD k 0 : Int)) := hrow.cell k _ (by
            rw [sumCells, List.getElem?_append_left (by simp [hg.1, hOF.1]; omega), List.getElem?_map, Sha.mid_get _ _ _ (by omega), row_at gain 8 k hg.1 hlt]; rfl)
          have f2 := hrow.frozen k
          have e : (List.zipWith Sha.add gain FIN)[k] = Sha.add (gain.getD k 0) (FIN.getD k 0) := by
            have h1 := row_at gain 8 k hg.1 hlt
            have h2 := row_at FIN 8 k hOF.1 hlt
            rw [List.getElem?_eq_some_iff] at h1 h2
            obtain ⟨_, h1⟩ := h1
            obtain ⟨_, h2⟩ := h2
            rw [List.getElem_zipWith, h1, h2]
          have HN : Hid (((List.zipWith Sha.add gain FIN).take k ++ gain.drop k).set k (Sha.add (gain.getD k 0) (FIN.getD k 0)) = (List.zipWith Sha.add gain FIN).take (k + 1) ++ gain.drop (k + 1)) := by
            rw [← e]
            exact hide (Sha.mid_set _ _ k hl hgk)
          have hA : IntKind.u32.wrap ((gain.getD k 0 : Int) + (FIN.getD k 0 : Int)) = ((Sha.add (gain.getD k 0) (FIN.getD k 0) : Nat) : Int) := by rw [IntKind.wrap_u32]; simp [Sha.add]
          have HL : Hid (k < ((List.zipWith Sha.add gain FIN).take k ++ gain.drop k).length) := hide (by simp [hg.1, hOF.1]; omega)
          generalize Sha.add (gain.getD k 0) (FIN.getD k 0) = A at hA HN
          generalize gain.getD k 0 = X at c2 hA
          generalize FIN.getD k 0 = Y at c1 hA
          clear hws hrow hbl e hl hgk
          go_wp2_with fail
          go_region
          go_wp2_with fail
          go_roundw
          case rel =>
            refine ⟨k + 1, by omega, by go_num, ((unhide HW).setOther _ (by simp; omega) _).drew, ?_, ((unhide HB).setCell (p := ⟨B, k, none⟩) (Nat.le_refl _) _).drew⟩
            rw [← unhide HN]
            exact ((unhide HR).setGain k A (unhide HL)).drew
          case measure => simp [intOf]; omega
        · obtain rfl : k = 8 := by omega
          rw [Sha.mid_all _ _ 8 (by simp [hg.1, hOF.1]) (by rw [hg.1]; exact Nat.le_refl _)] at HR
          clear hws hrow hbl
          go_wp2_with fail
          go_end0
          exact ⟨rfl, unhide HR, unhide HB⟩
end Go.Proofs.YthchcjjpplcfnaaDoor.Hsh

namespace Go.Proofs.YthchcjjpplcfnaaDoor.Hsh
open Go.RowKit

theorem info5 : (Tryd.prog.info? 5).map (fun i => (i.zero, i.size, i.bytes)) = some (some (.int .u8 0), 1, 1) := by kernel_rfl

theorem made_zeros (n : Nat) : madeCells #[.int .u8 0] n = ((List.replicate n (0 : UInt8)).map byteVal).toArray := by
  apply Array.ext
  · simp [madeCells]
  · intro i h1 h2
    simp [madeCells, byteVal, Nat.mod_one]

theorem VRow.made (W : World) (n : Nat) : VRow (W.alloc (.cells (madeCells #[.int .u8 0] n) 5)) W.heap.size 5 ((List.replicate n (0 : UInt8)).map byteVal) := by
  refine (heap_alloc_new W _).trans ?_
  rw [made_zeros]

theorem made_set (N : Nat) (h : 1 ≤ N) : (madeCells #[.int .u8 0] N).setIfInBounds 0 (.int .u8 128) = ((128 :: List.replicate (N - 1) 0 : List UInt8).map byteVal).toArray := by
  rw [made_zeros]
  obtain ⟨M, rfl⟩ : ∃ M, N = M + 1 := ⟨N - 1, by omega⟩
  simp [List.replicate_succ, byteVal]
theorem made_zero (N : Nat) (h : 1 ≤ N) : (madeCells #[.int .u8 0] N)[0]? = some (.int .u8 0) := by
  rw [made_zeros]
  obtain ⟨M, rfl⟩ : ∃ M, N = M + 1 := ⟨N - 1, by omega⟩
  simp [List.replicate_succ, byteVal]

theorem VRow.text {W : World} {B T : Nat} {bs : List UInt8} (h : VRow W B T (bs.map byteVal)) (cap : Nat) :
    (convert 38 9 (.slice (some ⟨B, 0, none⟩) bs.length cap)).run Tryd.prog W = .ok (.string ⟨bs.toArray⟩) W := by
  refine run_convert_bytes_back W 38 9 5 ⟨B, 0, none⟩ cap bs Tryd.underlying38 Tryd.underlying5 Tryd.underlying9 fun j hj => ?_
  have e3 : (⟨B, 0, none⟩ : Addr).add j = ⟨B, j, none⟩ := by simp [Addr.add]; exact fun h => h.symm
  rw [e3]
  exact h.byte j hj

theorem back_set {α : Type} (S L : List α) (N k : Nat) (hS : S.length = N) (hL : L.length = N) (hk : k < N) (x : α) (hx : L[N - 1 - k]? = some x) :
    (S.take (N - k) ++ L.drop (N - k)).set (N - 1 - k) x = S.take (N - (k + 1)) ++ L.drop (N - (k + 1)) := by
  have h1 : N - k = (N - 1 - k) + 1 := by omega
  have h2 : N - (k + 1) = N - 1 - k := by omega
  obtain ⟨hlt, rfl⟩ := List.getElem?_eq_some_iff.1 hx
  rw [h2, h1, List.take_succ_eq_append_getElem (show N - 1 - k < S.length by omega), List.append_assoc, List.set_append_right _ _ (by simp; omega)]
  rw [List.length_take, Nat.min_eq_left (by omega), Nat.sub_self, List.singleton_append, List.set_cons_zero, ← List.drop_eq_getElem_cons hlt]

def endStart (N : Nat) : List UInt8 := 128 :: List.replicate (N - 1) 0

theorem end_last (n N : Nat) (hN : N = (119 - n % 64) % 64 + 9) : (endStart N).take (N - 8) ++ (Sha.pad n).drop (N - 8) = Sha.pad n := by
  have hq : N - 8 = (119 - n % 64) % 64 + 1 := by omega
  have hl : (119 - n % 64) % 64 ≤ N - 1 := by omega
  rw [hq, endStart, Sha.pad, List.take_succ_cons, List.drop_succ_cons, List.take_replicate, Nat.min_eq_left hl, List.drop_left' (by simp), List.cons_append]

theorem pad_at (n N k : Nat) (hN : N = (119 - n % 64) % 64 + 9) (hk : k < 8) : (Sha.pad n)[N - 1 - k]? = some (UInt8.ofNat (n * 8 / 2 ^ (8 * k) % 256)) := by
  have h1 : N - 1 - k = ((119 - n % 64) % 64 + (7 - k)) + 1 := by omega
  rw [h1, Sha.pad, List.getElem?_cons_succ, List.getElem?_append_right (by simp), List.length_replicate]
  have h2 : (119 - n % 64) % 64 + (7 - k) - (119 - n % 64) % 64 = 7 - k := by omega
  have h3 : 56 - 8 * (7 - k) = 8 * k := by omega
  have h4 : 7 - k < 8 := by omega
  rw [h2, Sha.be8, List.getElem?_map, List.getElem?_range h4, Option.map_some, h3]

set_option maxRecDepth 100000 in
set_option maxHeartbeats 1000000 in
theorem ending_any (n : Nat) (hn : n < 1152921504606846976) (w : World) :
    Calls Tryd.prog 75 #[.int .u64 (n : Int)] w fun e w' => e = .returned (.string ⟨(Sha.pad n).toArray⟩) ∧ Below w.heap.size w w' := by
  obtain ⟨N, hN⟩ : ∃ N, (119 - n % 64) % 64 + 9 = N := ⟨_, rfl⟩
  have hN1 : 9 ≤ N := by omega
  have hN2 : N ≤ 72 := by omega
  have eN : 1 + (119 - (n : Int)) % 64 + 8 = (N : Int) := by omega
  have hmk := run_make_row' (P := Tryd.prog) 38 5 (.int .u8 0) 1 Tryd.underlying38 info5 rfl .u64 .u64 N (by omega) (by omega)
  have hpl : (Sha.pad n).length = N := by rw [Sha.pad_len]; exact hN
  have HN := hide hN.symm
  generalize hP : Sha.pad n = PD at hpl
  have HP := hide hP
  clear hN hP
  have hm0 := made_zero N (by omega)
  go_enter Tryd.func75, Tryd.ntmps75
  go_wp2_with fail
  clear hmk hm0 eN
  have HR0 : Hid (VRow (w.alloc (.cells ((madeCells #[.int .u8 0] N).setIfInBounds 0 (.int .u8 128)) 5)) w.heap.size 5 ((endStart N).map byteVal)) := by
    rw [made_set N (by omega)]
    exact hide (VRow.new w 5 _)
  have hsl : (endStart N).length = N := by simp [endStart]; omega
  go_loopw [19] (fun i wr => ∃ k : Nat, k ≤ 8 ∧ i = .int .i64 k ∧ VRow wr w.heap.size 5 (((endStart N).take (N - k) ++ PD.drop (N - k)).map byteVal) ∧ Below w.heap.size w wr) (fun i _ => 8 - (intOf i).toNat)
  case atStart =>
    refine ⟨0, Nat.zero_le _, rfl, ?_, (Below.refl _ _).alloc (Nat.le_refl _) _⟩
    rw [Nat.sub_zero, List.take_of_length_le (by omega), List.drop_of_length_le (by omega), List.append_nil]
    exact unhide HR0
  case round =>
    clear HR0
    obtain ⟨k, hk, rfl, hrow, hbl⟩ := hrel
    have HR := hide hrow
    have HB := hide hbl
    by_cases hlt : k < 8
    · have hp : PD[N - 1 - k]? = some (UInt8.ofNat (n * 8 / 2 ^ (8 * k) % 256)) := by rw [← unhide HP]; exact pad_at n N k (unhide HN) hlt
      have HS := hide (back_set (endStart N) PD N k hsl hpl (by omega) _ hp)
      have HA : Hid ((n : Int) * 8 / 2 ^ (8 * k) % 256 = ((UInt8.ofNat (n * 8 / 2 ^ (8 * k) % 256)).toNat : Int)) := by
        rw [u8_of _ (Nat.mod_lt _ (by decide))]
        exact hide (by simp)
      generalize UInt8.ofNat (n * 8 / 2 ^ (8 * k) % 256) = y at HS HA
      obtain ⟨v0, c0⟩ : ∃ v, wr.cell? ⟨w.heap.size, N - 1 - k, none⟩ = some v := ⟨_, hrow.byte (N - 1 - k) (by simp [hsl, hpl]; omega)⟩
      have f0 := hrow.frozen (N - 1 - k)
      clear hrow hbl hp
      go_wp2_with fail
      go_roundw
      case rel =>
        rw [unhide HA]
        refine ⟨k + 1, by omega, by go_num, ?_, (unhide HB).setCell (p := ⟨w.heap.size, N - 1 - k, none⟩) (Nat.le_refl _) _⟩
        rw [← unhide HS]
        exact (unhide HR).setByte _ y
      case measure => simp [intOf]; omega
    · obtain rfl : k = 8 := by omega
      have hrow' : VRow wr w.heap.size 5 (PD.map byteVal) := by
        rw [← unhide HP, end_last n N (unhide HN), unhide HP] at hrow
        exact hrow
      have hcv : (convert 38 9 (.slice (some ⟨w.heap.size, 0, none⟩) N N)).run Tryd.prog wr = .ok (.string ⟨PD.toArray⟩) wr := by
        have h := hrow'.text N
        rwa [hpl] at h
      clear hrow hbl HR hrow'
      go_wp2_with fail
      go_ret
      exact ⟨rfl, unhide HB⟩
end Go.Proofs.YthchcjjpplcfnaaDoor.Hsh

namespace Go.Proofs.YthchcjjpplcfnaaDoor.Hsh
open Go.RowKit

/-- What a Sum's parts say of the bytes that went in. -/
structure St (gain : List Nat) (op m : List UInt8) : Prop where
  ok : Sha.Ok 8 gain
  len : op.length = 64
  hash : List.zipWith Sha.add Sha.start gain = Sha.hashN m (m.length / 64)
  tail : op.take (m.length % 64) = m.drop (m.length / 64 * 64)

def strLen : Value → Nat
  | .string s => s.size
  | _ => 0

def opMore (op s : List UInt8) (o n : Nat) : List UInt8 := op.take o ++ (s.take n ++ op.drop (o + n))

theorem opMore_len (op s : List UInt8) (o n : Nat) (h : op.length = 64) (hn : n ≤ s.length) (ho : o + n ≤ 64) : (opMore op s o n).length = 64 := by
  simp [opMore, h]; omega

theorem opMore_take (op s : List UInt8) (o n : Nat) (h : op.length = 64) (hn : n ≤ s.length) (ho : o + n ≤ 64) : (opMore op s o n).take (o + n) = op.take o ++ s.take n := by
  rw [opMore, ← List.append_assoc, List.take_left' (by simp [h]; omega)]

theorem drop_more (m s : List UInt8) (n : Nat) : (m ++ s.take n).drop (m.length / 64 * 64) = m.drop (m.length / 64 * 64) ++ s.take n := by
  rw [List.drop_append_of_le_length (by omega)]

theorem St.more {gain : List Nat} {op m : List UInt8} (h : St gain op m) (s : List UInt8) (n : Nat) (hn : n ≤ s.length) (ho : m.length % 64 + n < 64) : St gain (opMore op s (m.length % 64) n) (m ++ s.take n) := by
  have hl : (m ++ s.take n).length = m.length + n := by simp; omega
  have h1 : (m.length + n) / 64 = m.length / 64 := by omega
  have h2 : (m.length + n) % 64 = m.length % 64 + n := by omega
  refine ⟨h.ok, opMore_len op s _ n h.len hn (by omega), ?_, ?_⟩
  · rw [hl, h1, Sha.hashN_append _ _ _ (by omega)]
    exact h.hash
  · rw [hl, h1, h2, opMore_take op s _ n h.len hn (by omega), drop_more, h.tail]

theorem Ok.zip (a b : List Nat) (ha : a.length = 8) (hb : b.length = 8) : Sha.Ok 8 (List.zipWith Sha.add a b) := ⟨by simp [ha, hb], fun x hx => by
  simp only [List.mem_iff_getElem, List.getElem_zipWith] at hx
  obtain ⟨j, _, rfl⟩ := hx
  exact Nat.mod_lt _ (by decide)⟩

theorem St.full {gain : List Nat} {op m : List UInt8} (h : St gain op m) (s : List UInt8) (n : Nat) (hn : n ≤ s.length) (ho : m.length % 64 + n = 64) :
    St (List.zipWith Sha.add gain (Sha.run (List.zipWith Sha.add Sha.start gain) (Sha.wide (opMore op s (m.length % 64) n) 48) 64)) (opMore op s (m.length % 64) n) (m ++ s.take n) := by
  have hl : (m ++ s.take n).length = m.length + n := by simp; omega
  have h1 : (m.length + n) / 64 = m.length / 64 + 1 := by omega
  have h2 : (m.length + n) % 64 = 0 := by omega
  have hL := opMore_len op s (m.length % 64) n h.len hn (by omega)
  have ht := opMore_take op s (m.length % 64) n h.len hn (by omega)
  rw [ho, List.take_of_length_le (Nat.le_of_eq hL)] at ht
  have hst : (List.zipWith Sha.add Sha.start gain).length = 8 := by simp [Sha.start, h.ok.1]
  have hOG := Ok.zip Sha.start gain rfl h.ok.1
  refine ⟨Ok.zip _ _ h.ok.1 (hOG.run _ _).1, hL, ?_, ?_⟩
  · rw [start_gain, hl, h1, Sha.hashN, Sha.hashN_append _ _ _ (by omega), ← h.hash, Sha.block]
    have e : List.take 64 (List.drop (64 * (m.length / 64)) (m ++ s.take n)) = opMore op s (m.length % 64) n := by
      rw [Nat.mul_comm, drop_more, ← h.tail, ← ht, List.take_of_length_le (by omega)]
    rw [e]
  · rw [hl, h1, h2, List.take_zero, List.drop_of_length_le (by simp; omega)]

theorem copy_str (W : World) (B : Nat) (gain : List Nat) (op : List UInt8) (len : Nat) (hg : gain.length = 8) (hop : op.length = 64) (h : VRow W B 82 (sumCells gain op len)) (o : Nat) (s : ByteArray) (n : Nat) (hn : n = min s.size (64 - o)) (ho : o < 64) (ty : TypeId) :
    ∃ W2, (Builtin.copy_ #[38, 9] ty #[.slice (some ⟨B, 8 + o, none⟩) (64 - o) (64 - o), .string s]).run Tryd.prog W = .ok (.int .i64 (n : Int)) W2 ∧ Only B W W2 ∧ VRow W2 B 82 (sumCells gain (opMore op s.data.toList o n) len) := by
  have hlen : (sumCells gain op len).length = 73 := by simp [sumCells, hg, hop]
  have hnl : (s.data.toList.take n).length = n := by rw [List.length_take, Array.length_toList]; have : s.data.size = s.size := rfl; omega
  have hst := run_storeCells_at Tryd.prog B (8 + o) 82 ((s.data.toList.take n).map byteVal) 0 (sumCells gain op len).toArray W h (by simp [hlen]; omega) (one_bytes _)
  have hcell : (sumCells gain op len).toArray.toList.take (8 + o + 0) ++ (s.data.toList.take n).map byteVal ++ (sumCells gain op len).toArray.toList.drop (8 + o + 0 + ((s.data.toList.take n).map byteVal).length) = sumCells gain (opMore op s.data.toList o n) len := by
    rw [List.length_map, hnl, List.toList_toArray, Nat.add_zero]
    have hgl : (gain.map u).length = 8 := by simp [hg]
    have hol : (op.map byteVal).length = 64 := by simp [hop]
    rw [sumCells, sumCells, List.take_append, hgl, List.take_of_length_le (by omega), Nat.add_sub_cancel_left, List.take_append_of_le_length (by omega),
      List.drop_append, hgl, List.drop_of_length_le (by omega), List.nil_append, show 8 + o + n - 8 = o + n by omega, List.drop_append_of_le_length (by omega)]
    simp [opMore, List.map_append, List.map_take, List.map_drop]
  rw [hcell] at hst
  refine ⟨W.setRow B (sumCells gain (opMore op s.data.toList o n) len).toArray, ?_, ?_, ?_⟩
  · have hmin : Nat.min s.size (64 - o) = n := hn.symm
    rw [List.map_take] at hst
    have hfn : (byteVal : UInt8 → Value) = fun b => Value.int .u8 (b.toNat : Int) := rfl
    rw [hfn] at hst
    simp [Builtin.copy_, run_underlying Tryd.underlying38, Builtin.lenOf, Builtin.firstCells, Tryd.sizeOf5, hmin, hst, goInt]
  · exact ⟨rfl, rfl, rfl, by simp, fun j hj => setRow_other W B j _ hj⟩
  · exact setRow_heap W B _ _ 82 (0, 0) h

theorem run_open (B q : Nat) (hq : q < 64) (w : World) : (Instr.sliceAt 79 (.pointer (some ⟨B, 8, none⟩)) (some (.int .u64 (q : Int))) none none).run Tryd.prog w = .ok (.slice (some ⟨B, 8 + q, none⟩) (64 - q) (64 - q)) w := by
  have hal : Tryd.prog.arrayLen 79 = 64 := by simp [Program.arrayLen, Tryd.underlying79]
  have hel : Tryd.prog.elem 79 = 5 := by simp [Program.elem, Tryd.underlying79]
  rw [run_sliceAt_array_l w 79 ⟨B, 8, none⟩ (by rw [hal, hel]; exact Tryd.underlying79) .u64 q (by omega) (by rw [hal]; omega), hal, hel]
  simp [Tryd.sizeOf5, slicedAt, Addr.add_mid]
  omega

theorem VRow.setLen {W : World} {B : Nat} {g : List Nat} {op : List UInt8} {len : Nat} (h : VRow W B 82 (sumCells g op len)) (hg : g.length = 8) (hop : op.length = 64) (x : Nat) : VRow (W.setCell ⟨B, 72, none⟩ (.int .u64 (x : Int))) B 82 (sumCells g op x) := by
  have h2 := h.set 72 (.int .u64 (x : Int))
  have e : (sumCells g op len).set 72 (.int .u64 (x : Int)) = sumCells g op x := by
    rw [sumCells, List.set_append_right _ _ (by simp [hg]), List.set_append_right _ _ (by simp [hg, hop])]
    simp [sumCells, hg, hop]
  rwa [e] at h2

theorem VRow.lenCell {W : World} {B : Nat} {g : List Nat} {op : List UInt8} {len : Nat} (h : VRow W B 82 (sumCells g op len)) (hg : g.length = 8) (hop : op.length = 64) : W.cell? ⟨B, 72, none⟩ = some (.int .u64 (len : Int)) :=
  h.cell 72 _ (by rw [sumCells, List.getElem?_append_right (by simp [hg]), List.getElem?_append_right (by simp [hg, hop])]; simp [hg, hop])

theorem size_list (s : ByteArray) : s.data.toList.length = s.size := rfl
theorem extract_tail (s : ByteArray) (n : Nat) : (s.extract n s.size).data.toList = s.data.toList.drop n := by
  rw [ByteArray.data_extract, Array.toList_extract, List.extract_eq_take_drop, List.take_of_length_le (by rw [List.length_drop, size_list]; exact Nat.le_refl _)]
theorem len_more (M : List UInt8) (s : ByteArray) (n : Nat) (h : n ≤ s.size) : (M ++ s.data.toList.take n).length = M.length + n := by
  rw [List.length_append, List.length_take, size_list, Nat.min_eq_left h]

set_option maxRecDepth 100000 in
set_option maxHeartbeats 1000000 in
theorem Write_any (B : Nat) (hB : 2 < B) (m : List UInt8) (t : ByteArray) (hm : m.length + t.size < 1000000000) (w : World) (hG : Glob w) (gain : List Nat) (op : List UInt8) (hst : St gain op m) (hs : VRow w B 82 (sumCells gain op m.length)) :
    Calls Tryd.prog 54 #[.pointer (some ⟨B, 0, none⟩), .string t] w fun e w' => e = .returned (.tuple #[]) ∧ (∃ gain' op', St gain' op' (m ++ t.data.toList) ∧ VRow w' B 82 (sumCells gain' op' (m ++ t.data.toList).length)) ∧ Below B w w' := by
  have HG := hide hG
  have HS := hide hs
  have HST := hide hst
  clear hG hs hst
  go_enter Tryd.func54, Tryd.ntmps54
  go_wp2_with fail
  go_loopw [1] (fun sv wr => ∃ (S : ByteArray) (M : List UInt8) (g : List Nat) (o : List UInt8), sv = .string S ∧ M ++ S.data.toList = m ++ t.data.toList ∧ St g o M ∧ VRow wr B 82 (sumCells g o M.length) ∧ Below B w wr) (fun sv _ => strLen sv)
  case atStart => exact ⟨t, m, gain, op, rfl, rfl, unhide HST, unhide HS, Below.refl _ _⟩
  case round =>
    clear HS HST
    obtain ⟨S, M, g, o, rfl, hall, hst, hrow, hbl⟩ := hrel
    have HR := hide hrow
    have HB := hide hbl
    have HST := hide hst
    have HALL := hide hall
    have hlenS : M.length + S.size = m.length + t.size := by
      have := congrArg List.length hall
      simpa using this
    by_cases hpos : 0 < S.size
    · obtain ⟨L, hL⟩ : ∃ L, M.length = L := ⟨_, rfl⟩
      have c72 : wr.cell? ⟨B, 72, none⟩ = some (.int .u64 (L : Int)) := by rw [← hL]; exact hrow.lenCell hst.ok.1 hst.len
      obtain ⟨n, hn⟩ : ∃ n, n = min S.size (64 - L % 64) := ⟨_, rfl⟩
      obtain ⟨W2, hcp, ho2, hr2⟩ := copy_str wr.drew B g o L hst.ok.1 hst.len (by rw [← hL]; exact hrow.drew) (L % 64) S n hn (by omega) 3
      have hsl := run_open B (L % 64) (by omega)
      have HQ : Hid (M.length % 64 = L % 64) := hide (by rw [hL])
      have hq1 : (L : Int) % 64 = ((L % 64 : Nat) : Int) := by omega
      have hq2 : ((L : Int)).tmod 64 = ((L % 64 : Nat) : Int) := by rw [Int.tmod_eq_emod_of_nonneg (by omega)]; omega
      have hLq : L % 64 < 64 := by omega
      have hnq : n = min S.size (64 - L % 64) := hn
      generalize L % 64 = q at hsl hq1 hq2 hcp hr2 HQ hLq hnq
      have hn1 : 1 ≤ n := by omega
      have hnS : n ≤ S.size := by omega
      have HNQ := hide hnq
      have HO2 := hide ho2
      have HR2 := hide hr2
      have HL := hide hL
      have hlen1 : (o.length = 64) := hst.len
      have hlen2 : (opMore o S.data.toList q n).length = 64 := opMore_len _ _ _ _ hst.len (by simpa using hnS) (by omega)
      clear hall hrow hbl hst hn ho2 hr2 hnq hL
      go_wp2_with fail
      go_region
      have c72' := (unhide HR2).lenCell (unhide HST).ok.1 hlen2
      have f72 := (unhide HR2).frozen 72
      obtain ⟨LN, hLN⟩ : ∃ LN, L + n = LN := ⟨_, rfl⟩
      have hw1 : IntKind.u64.wrap ((L : Int) + (n : Int)) = (LN : Int) := by rw [IntKind.wrap_u64]; have := unhide HL; omega
      have HLN := hide hLN
      have HR3 := hide ((unhide HR2).setLen (unhide HST).ok.1 hlen2 LN)
      have HO3 := hide ((unhide HO2).setCell 72 (.int .u64 (LN : Int)))
      have hsize : (S.extract n S.size).size = S.size - n := by rw [ByteArray.size_extract]; omega
      have HB3 := hide ((unhide HB).drew.trans ((unhide HO3).below (Nat.le_refl _)))
      have HALL2 : Hid ((M ++ S.data.toList.take n) ++ (S.extract n S.size).data.toList = m ++ t.data.toList) := by
        rw [← unhide HALL, List.append_assoc, extract_tail, List.take_append_drop]
        exact hide rfl
      have HML : Hid ((M ++ S.data.toList.take n).length = LN) := hide (by rw [len_more _ _ _ hnS, unhide HL]; exact hLN)
      by_cases hf : q + n = 64
      · have hT : ((LN : Int) % 64 == 0) = true := by have := unhide HQ; have := unhide HL; simp; omega
        have HS4 : Hid (St (List.zipWith Sha.add g (Sha.run (List.zipWith Sha.add Sha.start g) (Sha.wide (opMore o S.data.toList q n) 48) 64)) (opMore o S.data.toList q n) (M ++ S.data.toList.take n)) := by
          have := (unhide HST).full S.data.toList n (by simpa using hnS) (by rw [unhide HQ]; exact hf)
          rw [unhide HQ] at this
          exact hide this
        clear hcp hsl hq1 hq2 c72 hLN
        have HTK := fun W hW hG => take_any B g (unhide HST).ok (opMore o S.data.toList q n) hlen2 LN W hW hG
        generalize List.zipWith Sha.add g (Sha.run (List.zipWith Sha.add Sha.start g) (Sha.wide (opMore o S.data.toList q n) 48) 64) = g2 at HS4 HTK
        have HTK2 := hide HTK
        clear HTK
        generalize opMore o S.data.toList q n = o2 at HS4 HTK2 HR3 HR2 hlen2
        go_wp2_with (first | (go_at_call 74; refine (unhide HTK2 _ (unhide HR3) ((unhide HG).below (unhide HB3) hB)).mono ?_; rintro e w4 ⟨rfl, hr4, hb4⟩))
        go_roundw
        case rel =>
          refine ⟨_, _, g2, o2, rfl, unhide HALL2, unhide HS4, ?_, (unhide HB3).trans hb4⟩
          rw [unhide HML]
          exact hr4
        case measure => simp only [strLen]; omega
      · have hT : ((LN : Int) % 64 == 0) = false := by have := unhide HQ; have := unhide HL; have := unhide HNQ; simp; omega
        have HS4 : Hid (St g (opMore o S.data.toList q n) (M ++ S.data.toList.take n)) := by
          have := (unhide HST).more S.data.toList n (by simpa using hnS) (by rw [unhide HQ]; have := unhide HNQ; omega)
          rw [unhide HQ] at this
          exact hide this
        clear hcp hsl hq1 hq2 c72 hLN
        generalize opMore o S.data.toList q n = o2 at HS4 HR3 HR2 hlen2
        go_wp2_with fail
        go_roundw
        case rel =>
          refine ⟨_, _, g, o2, rfl, unhide HALL2, unhide HS4, ?_, ((unhide HB).drew.trans ((unhide HO3).below (Nat.le_refl _)))⟩
          rw [unhide HML]
          exact unhide HR3
        case measure => simp only [strLen]; omega
    · have h0 : S.data.toList = [] := by
        apply List.eq_nil_of_length_eq_zero
        rw [Array.length_toList]
        have : S.data.size = S.size := rfl
        omega
      rw [h0, List.append_nil] at hall
      subst hall
      clear hrow hbl hst HALL
      go_wp2_with fail
      go_end0
      exact ⟨rfl, ⟨g, o, unhide HST, unhide HR⟩, unhide HB⟩
end Go.Proofs.YthchcjjpplcfnaaDoor.Hsh

namespace Go.Proofs.YthchcjjpplcfnaaDoor.Hsh
open Go.RowKit

def zo64 : List UInt8 := List.replicate 64 0
theorem info34 : (Tryd.prog.info? 82).map (fun i => (i.zero, i.size)) = some (some (.agg (sumCells Sha.zero8 zo64 0).toArray), 73) := by kernel_rfl

theorem st_zero : St Sha.zero8 zo64 [] := ⟨⟨rfl, by decide⟩, by simp [zo64], rfl, by simp⟩

theorem one_sum (g : List Nat) (o : List UInt8) (n : Nat) : ∀ v ∈ sumCells g o n, v.oneCell' = true := by
  intro v hv
  rw [sumCells, List.mem_append, List.mem_append] at hv
  rcases hv with hv | hv | hv
  · exact one_words _ v hv
  · exact one_bytes _ v hv
  · rw [List.mem_singleton] at hv; subst hv; rfl
theorem sum_len (g : List Nat) (o : List UInt8) (n : Nat) (hg : g.length = 8) (ho : o.length = 64) : (sumCells g o n).length = 73 := by simp [sumCells, hg, ho]

theorem Write_nil (s : ByteArray) (w : World) :
    Calls Tryd.prog 54 #[.pointer none, .string s] w fun e w' => e = .returned (.tuple #[]) ∧ w' = w := by
  go_enter Tryd.func54, Tryd.ntmps54
  go_wp2
  refine bodyPost_ret (results_none rfl _ _ _) rfl ?_
  exact ⟨rfl, rfl⟩

set_option maxRecDepth 100000 in
set_option maxHeartbeats 1000000 in
theorem Value_any (B : Nat) (m : List UInt8) (hm : m.length < 100000000) (w : World) (hG : Glob w) (g : List Nat) (o : List UInt8) (hst : St g o m) (hs : VRow w B 82 (sumCells g o m.length)) :
    Calls Tryd.prog 55 #[.pointer (some ⟨B, 0, none⟩)] w fun e w' => e = .returned (.agg ((Sha.sha m).map byteVal).toArray) ∧ Below w.heap.size w w' := by
  have hz34 := (zero_of_info info34).1
  have h2 := hG.lt2
  have HG := hide hG
  have HS := hide hs
  have HST := hide hst
  obtain ⟨L, hL⟩ : ∃ L, m.length = L := ⟨_, rfl⟩
  have c72 : w.cell? ⟨B, 72, none⟩ = some (.int .u64 (L : Int)) := by rw [← hL]; exact hs.lenCell hst.ok.1 hst.len
  have hBl := hs.lt
  have hgl := hst.ok.1
  have hol := hst.len
  have HL := hide hL
  have hP : (Sha.pad L).length ≤ 72 := by rw [Sha.pad_len]; omega
  obtain ⟨PD, hPD⟩ : ∃ PD, Sha.pad L = PD := ⟨_, rfl⟩
  rw [hPD] at hP
  have HEN : Hid (∀ W : World, Calls Tryd.prog 75 #[.int .u64 (L : Int)] W fun e w' => e = .returned (.string ⟨PD.toArray⟩) ∧ Below W.heap.size W w') := by
    rw [← hPD]; exact hide (ending_any L (by omega))
  obtain ⟨D, hD⟩ : ∃ D, Sha.sha m = D := ⟨_, rfl⟩
  have HD : Hid (∀ g' o', St g' o' (m ++ PD) → Sha.digest (List.zipWith Sha.add Sha.start g') = D) := hide fun g' o' h => by
    rw [h.hash, ← hD, Sha.sha, Sha.full, hL, hPD]
  have hDl : D.length = 32 := by rw [← hD]; exact Sha.sha_len m
  rw [hD]
  clear hG hs hst hL hPD hD
  go_enter Tryd.func55, Tryd.ntmps55
  go_wp2_with (first
    | (refine wpList_load_row (by rfl) 82 _ (by rfl) B (by rfl) 82 (sumCells g o m.length).toArray (0, 0) _ (VRow.alloc (unhide HS) _) Tryd.underlying82 rfl (by rw [size34]; simp [sum_len _ _ _ hgl hol]) ?_)
    | (refine store_row (by rfl) 82 _ _ (by rfl) (w.heap.size + 1) (sumCells g o m.length) (by rfl) (by rfl) 82 (sumCells Sha.zero8 zo64 0) (VRow.newAt (by simp)) 73 size34 (sum_len _ _ _ hgl hol) rfl (one_sum _ _ _) ?_; intro w1 ho1 hr1; have HO1 := hide ho1; have HR1 := hide hr1; have HB1 := hide ((((Below.refl w.heap.size w).alloc (Nat.le_refl _) _).alloc (by simp) _).trans (ho1.below (by omega))); have c73 := ((unhide HB1).cell (p := ⟨B, 72, none⟩) hBl).trans c72; clear ho1 hr1)
    | (go_at_call 75; refine (unhide HEN _).mono ?_; rintro e w2 ⟨rfl, hb2⟩; have HB2 := hide hb2; clear hb2))
  have HZ1 : Hid (VRow w1 w.heap.size 33 (Sha.zeros.map byteVal)) := ((VRow.new w 33 (Sha.zeros.map byteVal)).alloc _).only (unhide HO1) (by omega)
  have hc1 := (unhide HR1).lt
  have h12 := (unhide HB2).size
  have HR2 := hide ((unhide HR1).below (unhide HB2) hc1)
  have HZ2 := hide ((unhide HZ1).below (unhide HB2) (by omega))
  have HBW2 := hide ((unhide HB1).trans ((unhide HB2).mono (unhide HB1).size))
  have HG2 := hide ((unhide HG).below (unhide HBW2) h2)
  have HWR := hide (Write_any (w.heap.size + 1) (by omega) m ⟨PD.toArray⟩ (by have : (⟨PD.toArray⟩ : ByteArray).size = PD.length := rfl; omega) w2 (unhide HG2) g o (unhide HST) (unhide HR2))
  clear HO1 HR1 HB1 HZ1 c72 c73 hz34
  go_wp2_with (first
    | (go_at_call 54; refine (unhide HWR).mono ?_; rintro e w3 ⟨rfl, ⟨g3, o3, hst3, hr3⟩, hb3⟩; have HS3 := hide hst3; have HR3 := hide hr3; have HB3 := hide hb3; have hg3 := hst3.ok; clear hst3 hr3 hb3))
  have s3 := (unhide HB3).size
  have HR3' : Hid (VRow w3 (w.heap.size + 1) 82 (g3.map u ++ (o3.map byteVal ++ [.int .u64 (((m ++ PD).length : Nat) : Int)]))) := unhide HR3
  refine (words_any (w.heap.size + 1) g3 hg3 _ _ (unhide HR3') ((unhide HG2).below (unhide HB3) (by omega))).mono ?_
  rintro e w4 ⟨rfl, hb4⟩
  have HB4 := hide hb4
  have s4 := hb4.size
  clear hb4
  have HDG := hide (digestOf_any (List.zipWith Sha.add Sha.start g3) (Ok.zip _ _ rfl hg3.1) w4)
  rw [unhide HD g3 o3 (unhide HS3)] at HDG
  generalize List.zipWith Sha.add Sha.start g3 = WS at HDG
  go_wp2_with fail
  refine (unhide HDG).mono ?_
  rintro e w5 ⟨rfl, hb5⟩
  have HB5 := hide hb5
  have HZ5 := hide ((((unhide HZ2).below (unhide HB3) (by omega)).below (unhide HB4) (by omega)).below (unhide HB5) (by omega))
  clear hb5
  go_wp2_with (first
    | (refine store_row (by rfl) 33 _ _ (by rfl) w.heap.size (D.map byteVal) (by rfl) (by rfl) 33 (Sha.zeros.map byteVal) (unhide HZ5) 32 size24 (by rw [List.length_map]; exact hDl) rfl (one_bytes _) ?_; intro w6 ho6 hr6; have HO6 := hide ho6; have HR6 := hide hr6; clear ho6 hr6))
  refine bodyPost_ret (v := .agg (D.map byteVal).toArray) ?_ rfl ⟨rfl, ?_⟩
  · exact results_cell_row rfl _ _ w.heap.size 33 _ (0, 0) _ rfl (unhide HR6) Tryd.underlying33 rfl (by rw [size24]; simp [hDl])
  · exact ((((unhide HBW2).trans ((unhide HB3).mono (by omega))).trans ((unhide HB4).mono (by omega))).trans ((unhide HB5).mono (by omega))).trans ((unhide HO6).below (Nat.le_refl _))

set_option maxRecDepth 100000 in
theorem Value_nil (w : World) :
    Calls Tryd.prog 55 #[.pointer none] w fun e w' => e = .returned (.agg (Sha.zeros.map byteVal).toArray) ∧ Below w.heap.size w w' := by
  have hbd : ∀ w, (Instr.build 33 #[]).run Tryd.prog w = .ok (.agg (Sha.zeros.map byteVal).toArray) w := fun w => by kernel_rfl
  go_enter Tryd.func55, Tryd.ntmps55
  go_wp2_with (first
    | (refine store_row (by rfl) 33 _ _ (by rfl) w.heap.size (Sha.zeros.map byteVal) (by rfl) (by rfl) 33 (Sha.zeros.map byteVal) (VRow.new _ _ _) 32 size24 rfl rfl (one_bytes _) ?_; intro w6 ho6 hr6; have HO6 := hide ho6; have HR6 := hide hr6; clear ho6 hr6))
  refine bodyPost_ret (v := .agg (Sha.zeros.map byteVal).toArray) ?_ rfl ⟨rfl, ?_⟩
  · exact results_cell_row rfl _ _ w.heap.size 33 _ (0, 0) _ rfl (unhide HR6) Tryd.underlying33 rfl (by rw [size24]; rfl)
  · exact ((Below.refl _ _).alloc (Nat.le_refl _) _).trans ((unhide HO6).below (Nat.le_refl _))

set_option maxRecDepth 100000 in
set_option maxHeartbeats 1000000 in
theorem Of_any (t : ByteArray) (ht : t.size < 10000000) (w : World) (hG : Glob w) :
    Calls Tryd.prog 34 #[.string t] w fun e w' => e = .returned (.agg ((Sha.sha t.data.toList).map byteVal).toArray) ∧ Below w.heap.size w w' := by
  have hz34 := (zero_of_info info34).1
  have h2 := hG.lt2
  have HG := hide hG
  obtain ⟨D, hD⟩ : ∃ D, Sha.sha t.data.toList = D := ⟨_, rfl⟩
  have hDl : D.length = 32 := by rw [← hD]; exact Sha.sha_len _
  have HD : Hid (∀ n, n = t.data.toList → Sha.sha n = D) := hide fun n hn => hn ▸ hD
  rw [hD]
  clear hG hD
  go_enter Tryd.func34, Tryd.ntmps34
  go_wp2_with fail
  refine (Write_any (w.heap.size + 1) (by omega) [] t (by simp; omega) _ ((unhide HG).below (((Below.refl w.heap.size w).alloc (Nat.le_refl _) _).alloc (by simp) _) h2) Sha.zero8 zo64 st_zero (VRow.newAt (by simp))).mono ?_
  rintro e w1 ⟨rfl, ⟨g, o, hst, hr⟩, hb⟩
  rw [List.nil_append] at hst hr
  have HZ := hide (((VRow.new w 33 (Sha.zeros.map byteVal)).alloc _).below hb (by omega))
  have HB1 := hide ((((Below.refl w.heap.size w).alloc (Nat.le_refl _) _).alloc (by simp) _).trans (hb.mono (by omega)))
  have HV := hide (Value_any (w.heap.size + 1) t.data.toList (by rw [size_list]; omega) w1 ((unhide HG).below (unhide HB1) h2) g o hst hr)
  rw [unhide HD _ rfl] at HV
  clear hz34 hst hr hb
  go_wp2_with (first
    | (go_at_call 55; refine (unhide HV).mono ?_; rintro e w2 ⟨rfl, hb2⟩; have HB2 := hide hb2; have HZ2 := hide ((unhide HZ).below hb2 (unhide HZ).lt); clear hb2)
    | (refine store_row (by rfl) 33 _ _ (by rfl) w.heap.size (D.map byteVal) (by rfl) (by rfl) 33 (Sha.zeros.map byteVal) (unhide HZ2) 32 size24 (by rw [List.length_map]; exact hDl) rfl (one_bytes _) ?_; intro w6 ho6 hr6; have HO6 := hide ho6; have HR6 := hide hr6; clear ho6 hr6))
  refine bodyPost_ret (v := .agg (D.map byteVal).toArray) ?_ rfl ⟨rfl, ?_⟩
  · exact results_cell_row rfl _ _ w.heap.size 33 _ (0, 0) _ rfl (unhide HR6) Tryd.underlying33 rfl (by rw [size24]; simp [hDl])
  · exact ((unhide HB1).trans ((unhide HB2).mono (unhide HB1).size)).trans ((unhide HO6).below (Nat.le_refl _))
end Go.Proofs.YthchcjjpplcfnaaDoor.Hsh
