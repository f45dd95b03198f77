/-
  Rows of values in a block: their cells, a store into one, what stays as it was.
-/
import Derived.Test.YtkdhpnijcgegbaaDoorLeaf
import Derived.Deep.MidRow
import Derived.Deep.WholeRow
import Derived.BigRegion
import Derived.BigQuiet
import Derived.RegionTactic
import Derived.OwnWalk
namespace Go.Proofs.YtkdhpnijcgegbaaDoor
open Go.RowKit

def u (n : Nat) : Value := .int .u32 (n : Int)
def byteVal (b : UInt8) : Value := .int .u8 (b.toNat : Int)
def VRow (W : World) (B T : Nat) (vs : List Value) : Prop := W.heap[B]? = some (.cells vs.toArray T (0, 0))

theorem VRow.cell {W : World} {B T : Nat} {vs : List Value} (h : VRow W B T vs) (k : Nat) (v : Value) (hv : vs[k]? = some v) : W.cell? ⟨B, k, none⟩ = some v := by
  rw [cell_of_row W B k vs.toArray T (0, 0) h]
  simpa using hv
theorem VRow.word {W : World} {B T : Nat} {ws : List Nat} (h : VRow W B T (ws.map u)) (k x : Nat) (hx : ws[k]? = some x) : W.cell? ⟨B, k, none⟩ = some (.int .u32 (x : Int)) :=
  h.cell k _ (by simp [hx, u])
theorem VRow.byte {W : World} {B T : Nat} {bs : List UInt8} (h : VRow W B T (bs.map byteVal)) (k : Nat) (hk : k < bs.length) : W.cell? ⟨B, k, none⟩ = some (.int .u8 (bs[k].toNat : Int)) :=
  h.cell k _ (by simp [hk, byteVal])
theorem VRow.frozen {W : World} {B T : Nat} {vs : List Value} (h : VRow W B T vs) (k : Nat) : W.frozen? ⟨B, k, none⟩ = false := frozen_of_row W B k vs.toArray T h
theorem VRow.set {W : World} {B T : Nat} {vs : List Value} (h : VRow W B T vs) (k : Nat) (v : Value) : VRow (W.setCell ⟨B, k, none⟩ v) B T (vs.set k v) := by
  have := heap_setCell_same W B k vs.toArray T v h
  simpa [VRow] using this
theorem VRow.setWord {W : World} {B T : Nat} {ws : List Nat} (h : VRow W B T (ws.map u)) (k x : Nat) : VRow (W.setCell ⟨B, k, none⟩ (.int .u32 (x : Int))) B T ((ws.set k x).map u) := by
  rw [List.map_set]; exact h.set k _
theorem VRow.setByte {W : World} {B T : Nat} {bs : List UInt8} (h : VRow W B T (bs.map byteVal)) (k : Nat) (b : UInt8) : VRow (W.setCell ⟨B, k, none⟩ (.int .u8 (b.toNat : Int))) B T ((bs.set k b).map byteVal) := by
  rw [List.map_set]; exact h.set k _
theorem VRow.setOther {W : World} {B T : Nat} {vs : List Value} (h : VRow W B T vs) (a : Addr) (hne : B ≠ a.block) (v : Value) : VRow (W.setCell a v) B T vs :=
  (heap_setCell_other W a B v hne).trans h
theorem VRow.below {W W' : World} {n B T : Nat} {vs : List Value} (h : VRow W B T vs) (hb : Below n W W') (hn : B < n) : VRow W' B T vs := (hb.block B hn).trans h
theorem VRow.drew {W : World} {B T : Nat} {vs : List Value} (h : VRow W B T vs) : VRow W.drew B T vs := h
theorem VRow.lt {W : World} {B T : Nat} {vs : List Value} (h : VRow W B T vs) : B < W.heap.size := (Array.getElem?_eq_some_iff.1 h).1
theorem VRow.new (W : World) (T : Nat) (vs : List Value) : VRow (W.alloc (.cells vs.toArray T)) W.heap.size T vs := heap_alloc_new W _
theorem VRow.alloc {W : World} {B T : Nat} {vs : List Value} (h : VRow W B T vs) (o : Obj) : VRow (W.alloc o) B T vs := (Below.heap_alloc W o B h.lt).trans h

theorem VRow.drewN {W : World} {B T : Nat} {vs : List Value} (h : VRow W B T vs) (n : Nat) : VRow (W.drewN n) B T vs := h

/-- Nothing turns but block B. -/
structure Only (B : Nat) (w w' : World) : Prop where
  os : w'.os = w.os
  tape : w'.tape = w.tape
  output : w'.output = w.output
  size : w'.heap.size = w.heap.size
  block : ∀ j, j ≠ B → w'.heap[j]? = w.heap[j]?
theorem Only.refl (B : Nat) (w : World) : Only B w w := ⟨rfl, rfl, rfl, rfl, fun _ _ => rfl⟩
theorem Only.drewN {B : Nat} {w w' : World} (h : Only B w w') (n : Nat) : Only B w (w'.drewN n) := ⟨h.os, h.tape, h.output, h.size, h.block⟩
theorem Only.drew {B : Nat} {w w' : World} (h : Only B w w') : Only B w w'.drew := ⟨h.os, h.tape, h.output, h.size, h.block⟩
theorem Only.setCell {B : Nat} {w w' : World} (h : Only B w w') (k : Nat) (v : Value) : Only B w (w'.setCell ⟨B, k, none⟩ v) :=
  ⟨h.os, h.tape, h.output, by rw [World.size_setCell]; exact h.size, fun j hj => (heap_setCell_other w' ⟨B, k, none⟩ j v hj).trans (h.block j hj)⟩
theorem Only.trans {B : Nat} {a b c : World} (h : Only B a b) (k : Only B b c) : Only B a c :=
  ⟨k.os.trans h.os, k.tape.trans h.tape, k.output.trans h.output, k.size.trans h.size, fun j hj => (k.block j hj).trans (h.block j hj)⟩
theorem Only.below {B n : Nat} {w w' : World} (h : Only B w w') (hn : n ≤ B) : Below n w w' := ⟨h.os, h.tape, h.output, Nat.le_of_eq h.size.symm, fun k hk => h.block k (by omega)⟩
theorem VRow.only {W W' : World} {A B T : Nat} {vs : List Value} (h : VRow W A T vs) (ho : Only B W W') (hne : A ≠ B) : VRow W' A T vs := (ho.block A hne).trans h

theorem not_u32 (v : Nat) (h : v < 4294967296) : bits .xor .u32 IntKind.u32.max (v : Int) = ((4294967295 - v : Nat) : Int) := by
  have h1 : bits .xor .u32 ((4294967295 : Nat) : Int) (v : Int) = ((4294967295 ^^^ v : Nat) : Int) := u32_xor_nat 4294967295 v (by decide) h
  have h2 : (4294967295 : Nat) ^^^ v = 4294967295 - v := by
    have hs : 4294967295 - v = 2 ^ 32 - (v + 1) := by omega
    rw [hs]
    apply Nat.eq_of_testBit_eq
    intro i
    rw [Nat.testBit_two_pow_sub_succ h, Nat.testBit_xor, show (4294967295 : Nat) = 2 ^ 32 - 1 from rfl, Nat.testBit_two_pow_sub_one]
    by_cases hi : i < 32
    · simp [hi]
    · have : v.testBit i = false := Nat.testBit_lt_two_pow (Nat.lt_of_lt_of_le h (Nat.pow_le_pow_right (n := 2) (by decide) (show 32 ≤ i by omega)))
      simp [hi, this]
  rw [h2] at h1
  exact h1

theorem ch_bits (e f g : Nat) (he : e < 4294967296) (hf : f < 4294967296) (hg : g < 4294967296) :
    bits .or .u32 (bits .and .u32 (e : Int) (f : Int)) (bits .and .u32 (bits .xor .u32 IntKind.u32.max (e : Int)) (g : Int)) = ((Sha.ch e f g : Nat) : Int) := by
  rw [not_u32 e he, u32_and_nat e f he hf, u32_and_nat _ g (by omega) hg, u32_or_nat _ _ (Sha.and_lt _ _ hf) (Sha.and_lt _ _ hg)]; rfl
theorem maj_bits (a b c : Nat) (ha : a < 4294967296) (hb : b < 4294967296) (hc : c < 4294967296) :
    bits .or .u32 (bits .or .u32 (bits .and .u32 (a : Int) (b : Int)) (bits .and .u32 (a : Int) (c : Int))) (bits .and .u32 (b : Int) (c : Int)) = ((Sha.maj a b c : Nat) : Int) := by
  rw [u32_and_nat a b ha hb, u32_and_nat a c ha hc, u32_and_nat b c hb hc, u32_or_nat _ _ (Sha.and_lt _ _ hb) (Sha.and_lt _ _ hc),
    u32_or_nat _ _ (Nat.or_lt_two_pow (n := 32) (Sha.and_lt _ _ hb) (Sha.and_lt _ _ hc)) (Sha.and_lt _ _ hc)]; rfl
theorem xor3_bits (x p q r : Nat) (hx : x < 4294967296) :
    bits .xor .u32 (bits .xor .u32 (Sha.rotr x p : Int) (Sha.rotr x q : Int)) (Sha.rotr x r : Int) = ((Sha.rotr x p ^^^ Sha.rotr x q ^^^ Sha.rotr x r : Nat) : Int) := by
  rw [u32_xor_nat _ _ (Sha.rotr_lt _ _ hx) (Sha.rotr_lt _ _ hx), u32_xor_nat _ _ (Nat.xor_lt_two_pow (n := 32) (Sha.rotr_lt _ _ hx) (Sha.rotr_lt _ _ hx)) (Sha.rotr_lt _ _ hx)]

set_option maxRecDepth 100000 in
set_option maxHeartbeats 1000000 in
theorem turn_any (B a b c d e f g i k : Nat) (ha : a < 4294967296) (hb : b < 4294967296) (hc : c < 4294967296) (he : e < 4294967296) (hf : f < 4294967296) (hg : g < 4294967296) (w : World)
    (hr : VRow w B 30 ([a, b, c, d, e, f, g, i].map u)) :
    Calls Tryd.prog 27 #[.pointer (some ⟨B, 0, none⟩), .int .u32 (k : Int)] w fun x w' => x = .returned (.tuple #[]) ∧ VRow w' B 30 ((Sha.step [a, b, c, d, e, f, g, i] k).map u) ∧ Only B w w' := by
  have HR := hide hr
  have c0 := hr.word 0 a rfl
  have c1 := hr.word 1 b rfl
  have c2 := hr.word 2 c rfl
  have c3 := hr.word 3 d rfl
  have c4 := hr.word 4 e rfl
  have c5 := hr.word 5 f rfl
  have c6 := hr.word 6 g rfl
  have c7 := hr.word 7 i rfl
  clear hr
  have hch := ch_bits e f g he hf hg
  have hmj := maj_bits a b c ha hb hc
  have hS1 : bits .xor .u32 (bits .xor .u32 (Sha.rotr e 6 : Int) (Sha.rotr e 11 : Int)) (Sha.rotr e 25 : Int) = ((Sha.S1 e : Nat) : Int) := xor3_bits e 6 11 25 he
  have hS0 : bits .xor .u32 (bits .xor .u32 (Sha.rotr a 2 : Int) (Sha.rotr a 13 : Int)) (Sha.rotr a 22 : Int) = ((Sha.S0 a : Nat) : Int) := xor3_bits a 2 13 22 ha
  have hT1 : ((i : Int) + (Sha.S1 e : Int) + (Sha.ch e f g : Int) + (k : Int)) % 4294967296 = ((Sha.t1 e f g i k : Nat) : Int) := by simp [Sha.t1]
  have hT2 : ((Sha.S0 a : Int) + (Sha.maj a b c : Int)) % 4294967296 = ((Sha.t2 a b c : Nat) : Int) := by simp [Sha.t2]
  have hA : ((Sha.t1 e f g i k : Int) + (Sha.t2 a b c : Int)) % 4294967296 = (((Sha.t1 e f g i k + Sha.t2 a b c) % 4294967296 : Nat) : Int) := by simp
  have hE : ((d : Int) + (Sha.t1 e f g i k : Int)) % 4294967296 = (((d + Sha.t1 e f g i k) % 4294967296 : Nat) : Int) := by simp
  obtain ⟨A, eA⟩ : ∃ A, (Sha.t1 e f g i k + Sha.t2 a b c) % 4294967296 = A := ⟨_, rfl⟩
  obtain ⟨E, eE⟩ : ∃ E, (d + Sha.t1 e f g i k) % 4294967296 = E := ⟨_, rfl⟩
  rw [eA] at hA
  rw [eE] at hE
  have HS : Hid (Sha.step [a, b, c, d, e, f, g, i] k = [A, a, b, c, E, e, f, g]) := by rw [← eA, ← eE]; exact hide rfl
  clear eA eE
  go_enter Tryd.func27, Tryd.ntmps27
  go_wp2_with fail
  go_quiet (fail)
  go_wp2_with fail
  go_quiet (fail)
  clear c0 c1 c2 c3 c4 c5 c6 c7
  go_wp2_with (first | (go_at_call 28; refine (turned_any _ ?_ _ ?_ ?_ _).mono ?_ <;> first | assumption | decide | rintro x w1 ⟨rfl, rfl⟩))
  clear hch hmj hS1 hS0 hT1 hT2
  rename_i nq1 _ _
  have HO1 : Hid (Only B w (w.drewN (nq1 + nq))) := hide ((Only.refl B w).drewN _)
  have HR1 : Hid (VRow (w.drewN (nq1 + nq)) B 30 ([a, b, c, d, e, f, g, i].map u)) := (unhide HR).drewN _
  generalize w.drewN (nq1 + nq) = w1 at HO1 HR1 ⊢
  have c0 := (unhide HR1).word 0 a rfl
  have c1 := (unhide HR1).word 1 b rfl
  have c2 := (unhide HR1).word 2 c rfl
  have c3 := (unhide HR1).word 3 d rfl
  have f0 := (unhide HR1).frozen 0
  have f1 := (unhide HR1).frozen 1
  have f2 := (unhide HR1).frozen 2
  have f3 := (unhide HR1).frozen 3
  go_region
  clear c0 c1 c2 c3 f0 f1 f2 f3 hA
  have HR2 : Hid (VRow ((((w1.setCell ⟨B, 0, none⟩ (.int .u32 (A : Int))).setCell ⟨B, 1, none⟩ (.int .u32 (a : Int))).setCell ⟨B, 2, none⟩ (.int .u32 (b : Int))).setCell ⟨B, 3, none⟩ (.int .u32 (c : Int))).drew B 30 ([A, a, b, c, e, f, g, i].map u)) :=
    (((((unhide HR1).setWord 0 A).setWord 1 a).setWord 2 b).setWord 3 c).drew
  have HO2 : Hid (Only B w ((((w1.setCell ⟨B, 0, none⟩ (.int .u32 (A : Int))).setCell ⟨B, 1, none⟩ (.int .u32 (a : Int))).setCell ⟨B, 2, none⟩ (.int .u32 (b : Int))).setCell ⟨B, 3, none⟩ (.int .u32 (c : Int))).drew) :=
    (((((unhide HO1).setCell 0 _).setCell 1 _).setCell 2 _).setCell 3 _).drew
  generalize ((((w1.setCell ⟨B, 0, none⟩ (.int .u32 (A : Int))).setCell ⟨B, 1, none⟩ (.int .u32 (a : Int))).setCell ⟨B, 2, none⟩ (.int .u32 (b : Int))).setCell ⟨B, 3, none⟩ (.int .u32 (c : Int))).drew = w2 at HO2 HR2 ⊢
  have c4 := (unhide HR2).word 4 e rfl
  have c5 := (unhide HR2).word 5 f rfl
  have c6 := (unhide HR2).word 6 g rfl
  have c7 := (unhide HR2).word 7 i rfl
  have f4 := (unhide HR2).frozen 4
  have f5 := (unhide HR2).frozen 5
  have f6 := (unhide HR2).frozen 6
  have f7 := (unhide HR2).frozen 7
  go_wp2_with fail
  go_region
  clear c4 c5 c6 c7 f4 f5 f6 f7
  go_wp2
  go_end0
  refine ⟨rfl, ?_, (((((unhide HO2).setCell 4 _).setCell 5 _).setCell 6 _).setCell 7 _).drew⟩
  rw [unhide HS]
  exact (((((unhide HR2).setWord 4 E).setWord 5 e).setWord 6 f).setWord 7 g).drew

theorem turn_list (B k : Nat) (ws : List Nat) (hw : Sha.Ok 8 ws) (w : World) (hr : VRow w B 30 (ws.map u)) :
    Calls Tryd.prog 27 #[.pointer (some ⟨B, 0, none⟩), .int .u32 (k : Int)] w fun x w' => x = .returned (.tuple #[]) ∧ VRow w' B 30 ((Sha.step ws k).map u) ∧ Only B w w' := by
  obtain ⟨a, b, c, d, e, f, g, i, rfl, ha, hb, hc, hd, he, hf, hg, hi⟩ := hw.eight
  exact turn_any B a b c d e f g i k ha hb hc he hf hg w hr
end Go.Proofs.YtkdhpnijcgegbaaDoor
