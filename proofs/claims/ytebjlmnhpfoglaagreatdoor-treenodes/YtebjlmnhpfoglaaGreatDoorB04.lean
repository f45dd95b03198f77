/-
  Rows of values in a block: their cells, a store into one, what stays as it was; a row as a whole.
-/
import Derived.Test.YtebjlmnhpfoglaaGreatDoorB03
import Derived.Deep.MidRow
import Derived.Deep.WholeRow
import Derived.RegionTactic
import Derived.BigRegion
import Derived.OwnWalk
import Derived.Laws.ResultCell
import Derived.RangeFuncNested
import Derived.RangeFuncBound
import Derived.RangeFuncCalls
import Derived.RangeFuncLeaves
import Derived.RangeFuncBox
import Derived.Shelf.Abstract
import Derived.Shelf.RegionOpen
import Derived.OwnWalkIn
import Derived.TacticsInMore
import Derived.LoopNIn
import Derived.LoopIn
import Derived.Maps.AppendAt
import Derived.BigRegionIn
namespace Go.Proofs.YtebjlmnhpfoglaaGreatDoor
open Go.RowKit

def VRow (W : World) (B T : Nat) (vs : List Value) : Prop := W.heap[B]? = some (.cells vs.toArray T (0, 0))

theorem VRow.cell {W : World} {B T : Nat} {vs : List Value} (h : VRow W B T vs) (k : Nat) (v : Value) (hv : vs[k]? = some v) : W.cell? ⟨B, k, none⟩ = some v := by
  rw [cell_of_row W B k vs.toArray T (0, 0) h]
  simpa using hv
theorem VRow.frozen {W : World} {B T : Nat} {vs : List Value} (h : VRow W B T vs) (k : Nat) : W.frozen? ⟨B, k, none⟩ = false := frozen_of_row W B k vs.toArray T h
theorem VRow.set {W : World} {B T : Nat} {vs : List Value} (h : VRow W B T vs) (k : Nat) (v : Value) : VRow (W.setCell ⟨B, k, none⟩ v) B T (vs.set k v) := by
  have := heap_setCell_same W B k vs.toArray T v h
  simpa [VRow] using this
theorem VRow.below {W W' : World} {n B T : Nat} {vs : List Value} (h : VRow W B T vs) (hb : Below n W W') (hn : B < n) : VRow W' B T vs := (hb.block B hn).trans h
theorem VRow.lt {W : World} {B T : Nat} {vs : List Value} (h : VRow W B T vs) : B < W.heap.size := (Array.getElem?_eq_some_iff.1 h).1
theorem VRow.new (W : World) (T : Nat) (vs : List Value) : VRow (W.alloc (.cells vs.toArray T)) W.heap.size T vs := heap_alloc_new W _
theorem VRow.newAt {W : World} {T n : Nat} {vs : List Value} (hn : n = W.heap.size) : VRow (W.alloc (.cells vs.toArray T)) n T vs := by subst hn; exact VRow.new W T vs
theorem VRow.alloc {W : World} {B T : Nat} {vs : List Value} (h : VRow W B T vs) (o : Obj) : VRow (W.alloc o) B T vs := (Below.heap_alloc W o B h.lt).trans h
theorem VRow.drewN {W : World} {B T : Nat} {vs : List Value} (h : VRow W B T vs) (n : Nat) : VRow (W.drewN n) B T vs := h

/-- Nothing turns but block B. -/
structure Only (B : Nat) (w w' : World) : Prop where
  os : w'.os = w.os
  tape : w'.tape = w.tape
  output : w'.output = w.output
  size : w'.heap.size = w.heap.size
  block : ∀ j, j ≠ B → w'.heap[j]? = w.heap[j]?
theorem Only.below {B n : Nat} {w w' : World} (h : Only B w w') (hn : n ≤ B) : Below n w w' := ⟨h.os, h.tape, h.output, Nat.le_of_eq h.size.symm, fun k hk => h.block k (by omega)⟩
theorem VRow.only {W W' : World} {A B T : Nat} {vs : List Value} (h : VRow W A T vs) (ho : Only B W W') (hne : A ≠ B) : VRow W' A T vs := (ho.block A hne).trans h
theorem below_drewN {B : Nat} {a w : World} (h : Below B a w) (q : Nat) : Below B a (w.drewN q) := ⟨h.os, h.tape, h.output, h.size, h.block⟩

theorem load_row {ops : Array Oper} {rest : List Oper} {o : Oper} {a : Act} {w : World} {Q : Exit → Act → World → Prop} (hgd : o.guard = none) (T : TypeId) (x : Operand) (ho : o.op = .load T x)
    (B : Nat) (hx : a.eval x = .pointer (some ⟨B, 0, none⟩)) (T' : TypeId) (vs : List Value) (hr : VRow w B T' vs) (n m : Nat) (e : TypeId) (hu : Tryz.prog.underlying T = some (.array m e))
    (hi : (Tryz.prog.info? T).map (·.size) = some n) (hn : vs.length = n)
    (h : wpList Tryz.prog ops Q rest (a.put o.dst (.agg vs.toArray)) w) : wpList Tryz.prog ops Q (o :: rest) a w :=
  wpList_load_row hgd T x ho B hx T' vs.toArray (0, 0) _ hr hu rfl (by rw [hi]; simp [hn]) h

theorem store_row {ops : Array Oper} {rest : List Oper} {o : Oper} {a : Act} {w : World} {Q : Exit → Act → World → Prop} (hgd : o.guard = none) (T : TypeId) (x y : Operand) (ho : o.op = .store T x y)
    (B : Nat) (vs : List Value) (hx : a.eval x = .pointer (some ⟨B, 0, none⟩)) (hy : a.eval y = .agg vs.toArray) (T' : TypeId) (olds : List Value) (hr : VRow w B T' olds) (n : Nat)
    (hi : (Tryz.prog.info? T).map (·.size) = some n) (hn : vs.length = n) (ho' : olds.length = n) (h1 : ∀ v ∈ vs, v.oneCell' = true)
    (h : ∀ w', Only B w w' → VRow w' B T' vs → wpList Tryz.prog ops Q rest (a.put o.dst undef) w') : wpList Tryz.prog ops Q (o :: rest) a w := by
  refine wpList_store_row hgd T x y ho B vs.toArray hx hy T' olds.toArray hr (by rw [hi]; simp [hn]) (by simp [hn, ho']) (all_oneCell_toArray h1) (h _ ?_ ?_)
  · exact ⟨rfl, rfl, rfl, by simp, fun j hj => setRow_other w B j _ hj⟩
  · exact setRow_heap w B olds.toArray _ T' (0, 0) hr

/-- A result in a row and one in a slot. -/
theorem results_row_int {fn : Func} {p q : Tmp} {ty : TypeId} (h : fn.results = #[.cell p ty, .tmp q]) (tmps : Array Value) (w : World) (g : Nat) (T : TypeId) (vs : List Value) {v : Value}
    (hp : tmps.getD p undef = .pointer (some ⟨g, 0, none⟩)) (hq : tmps.getD q undef = v) (hr : VRow w g T vs) (n m : Nat) (e : TypeId) (hu : Tryz.prog.underlying ty = some (.array m e))
    (hi : (Tryz.prog.info? ty).map (·.size) = some n) (hn : vs.length = n) : (results fn tmps).run Tryz.prog w = .ok (.tuple #[.agg vs.toArray, v]) w := by
  rw [results_cell_tmp h, hp, hq]
  simp only [asAddr, Sem.run_pure, Result.andThen_ok, run_loadVar_row w g T ty vs.toArray (0, 0) _ hr hu rfl (by rw [hi]; simp [hn])]

theorem wrap_small {n : Int} (h0 : -9223372036854775808 ≤ n) (h1 : n < 9223372036854775808) : IntKind.i64.wrap n = n := by rw [IntKind.wrap_i64]; omega
theorem new0 (W : World) (x y : Value) (T : Nat) : (W.alloc (.cells #[x, y] T)).cell? ⟨W.heap.size, 0, none⟩ = some x := (VRow.new W T [x, y]).cell 0 x rfl
theorem new1 (W : World) (x y : Value) (T : Nat) : (W.alloc (.cells #[x, y] T)).cell? ⟨W.heap.size, 1, none⟩ = some y := (VRow.new W T [x, y]).cell 1 y rfl
theorem lt_new (W : World) (o : Obj) : W.heap.size < (W.alloc o).heap.size := by simp
end Go.Proofs.YtebjlmnhpfoglaaGreatDoor

/-
  What Check answers, the program's and the document's: why a list is no vector.
-/

namespace Go.Proofs.YtebjlmnhpfoglaaGreatDoor
open Go.RowKit

/-- The peer ahead of a place. -/
def prevP (ds : List Vc.D) : Nat → Int
  | 0 => -1
  | k + 1 => (ds.getD k (0, 0)).1

theorem chk_end (ds : List Vc.D) (p : Int) : Vc.chk p (ds.drop ds.length) = 0 := by rw [List.drop_length]; rfl
theorem chk_step (ds : List Vc.D) (k : Nat) (d : Vc.D) (h : ds[k]? = some d) : Vc.chk (prevP ds k) (ds.drop k) = if Vc.dotErr d ≠ 0 then Vc.dotErr d else if d.1 ≤ prevP ds k then 8 else Vc.chk (prevP ds (k + 1)) (ds.drop (k + 1)) := by
  have hk := (List.getElem?_eq_some_iff.1 h).1
  rw [List.drop_eq_getElem_cons hk]
  have e : ds[k] = d := (List.getElem?_eq_some_iff.1 h).2
  rw [e]
  have e2 : prevP ds (k + 1) = d.1 := by simp [prevP, List.getD, h]
  rw [e2]
  rfl
theorem prev_at (ds : List Vc.D) (k : Nat) (d : Vc.D) (h : ds[k]? = some d) : prevP ds (k + 1) = d.1 := by simp [prevP, List.getD, h]

set_option maxRecDepth 100000 in
set_option maxHeartbeats 1000000 in
theorem check_any (a : Option Addr) (cap : Nat) (ds : List Vc.D) (hl : ds.length ≤ 9223372036854775807) (w : World) (h : Sl w a ds) :
    Calls Tryz.prog 96 #[.slice a ds.length cap] w fun e w' => e = .returned (.int .i64 (Vc.check ds)) ∧ Below w.heap.size w w' := by
  have HS := hide h
  have HC := hide (show Vc.check ds = Vc.chk (prevP ds 0) (ds.drop 0) from rfl)
  obtain ⟨C, hC⟩ : ∃ C, Vc.check ds = C := ⟨_, rfl⟩
  rw [hC] at HC ⊢
  clear h hC
  go_enter Tryz.func96, Tryz.ntmps96
  go_wp2_with fail
  go_loopw [8] (fun i wr => ∃ k : Nat, k ≤ ds.length ∧ i = .int .i64 k ∧ C = Vc.chk (prevP ds k) (ds.drop k) ∧ Below w.heap.size w wr) (fun i _ => ds.length - (intOf i).toNat)
  case atStart => exact ⟨0, Nat.zero_le _, rfl, unhide HC, Below.refl _ _⟩
  case round =>
    obtain ⟨k, hk, rfl, hc, hb⟩ := hrel
    have HC1 := hide hc
    have HB := hide hb
    clear hc hb HC
    by_cases hlt : k < ds.length
    · obtain ⟨d, hd⟩ : ∃ d, ds[k]? = some d := ⟨_, List.getElem?_eq_getElem hlt⟩
      obtain ⟨g, o, rfl, hg, hcell⟩ := unhide HS (by omega)
      have HG := hide hg
      have HCell := hide hcell
      have HD := hide hd
      obtain ⟨p, c⟩ := d
      have c0 : wr.cell? ⟨g, o + k * 2, none⟩ = some (.int .i64 p) := ((unhide HB).cell (p := ⟨g, o + k * 2, none⟩) hg).trans (hcell k _ hd).1
      have c1 : wr.cell? ⟨g, o + k * 2 + 1, none⟩ = some (.int .i64 c) := ((unhide HB).cell (p := ⟨g, o + k * 2 + 1, none⟩) hg).trans (hcell k _ hd).2
      clear hd hg hcell
      have KD := hide (dot_any p c)
      have HST := hide (chk_step ds k (p, c) (unhide HD))
      by_cases he : Vc.dotErr (p, c) = 0
      · have hok := (Vc.dotErr_zero (p, c)).1 he
        have hp0 : 0 ≤ p := hok.1
        clear hok
        rw [he] at KD
        rw [if_neg (by simpa using he)] at HST
        clear he
        by_cases hk0 : 0 < k
        · obtain ⟨m, hm⟩ : ∃ m, k = m + 1 := ⟨k - 1, by omega⟩
          obtain ⟨⟨p', c'⟩, hd'⟩ : ∃ d, ds[m]? = some d := ⟨_, List.getElem?_eq_getElem (by omega)⟩
          have e' : prevP ds k = p' := by rw [hm]; exact prev_at ds m _ hd'
          rw [e'] at HST
          have HM : Hid (w.cell? ⟨g, o + m * 2, none⟩ = some (.int .i64 p')) := ((unhide HCell) m _ hd').1
          have hmi : (k : Int) - 1 = (m : Int) := by omega
          have hmw : IntKind.i64.wrap ((k : Int) - 1) = (m : Int) := by rw [hmi]; exact wrap_small (by omega) (by omega)
          have hml : m < ds.length := by omega
          have hgi : (0 : Int) < (k : Int) := by omega
          have HMK : Hid (k = m + 1) := hm
          clear hd' hm
          by_cases hle : p ≤ p'
          · have HNX : Hid (C = 8) := by
              have h := unhide HST
              rw [if_pos (show (p, c).1 ≤ p' from hle)] at h
              exact hide (by rw [unhide HC1, e', h])
            clear e'
            go_wp2_with (go_at_call 120; refine (unhide KD _).mono ?_; rintro e w2 ⟨rfl, hb2⟩; have HB2 := hide ((((unhide HB).alloc (unhide HB).size _)).trans (hb2.mono (by have := (unhide HB).size; simp; omega))); have c2 : w2.cell? ⟨wr.heap.size, 0, none⟩ = some (.int .i64 p) := (hb2.cell (p := ⟨wr.heap.size, 0, none⟩) (lt_new _ _)).trans (new0 _ _ _ _); have c3 := ((unhide HB2).cell (p := ⟨g, o + m * 2, none⟩) (unhide HG)).trans (unhide HM); clear hb2 c0 c1)
            go_quiet (fail)
            go_wp2_with fail
            go_ret
            exact ⟨ret_int (unhide HNX).symm, below_drewN (unhide HB2) _⟩
          · have HNX : Hid (C = Vc.chk (prevP ds (k + 1)) (ds.drop (k + 1))) := by
              have h := unhide HST
              rw [if_neg (show ¬ (p, c).1 ≤ p' from hle)] at h
              exact hide (by rw [unhide HC1, e', h])
            clear e'
            go_wp2_with (go_at_call 120; refine (unhide KD _).mono ?_; rintro e w2 ⟨rfl, hb2⟩; have HB2 := hide ((((unhide HB).alloc (unhide HB).size _)).trans (hb2.mono (by have := (unhide HB).size; simp; omega))); have c2 : w2.cell? ⟨wr.heap.size, 0, none⟩ = some (.int .i64 p) := (hb2.cell (p := ⟨wr.heap.size, 0, none⟩) (lt_new _ _)).trans (new0 _ _ _ _); have c3 := ((unhide HB2).cell (p := ⟨g, o + m * 2, none⟩) (unhide HG)).trans (unhide HM); clear hb2 c0 c1)
            go_quiet (fail)
            go_wp2_with fail
            go_roundw
            case rel => exact ⟨k + 1, by omega, by go_num, unhide HNX, below_drewN (unhide HB2) _⟩
            case measure => simp [intOf]; omega
        · have HNX : Hid (C = Vc.chk (prevP ds (k + 1)) (ds.drop (k + 1))) := by
            have h := unhide HST
            have e : prevP ds k = -1 := by rw [show k = 0 by omega]; rfl
            rw [e, if_neg (show ¬ (p, c).1 ≤ -1 by show ¬ p ≤ -1; omega)] at h
            rw [unhide HC1, e]
            exact h
          have hgd : decide (0 < (k : Int)) = false := decide_eq_false (by omega)
          go_wp2_with (go_at_call 120; refine (unhide KD _).mono ?_; rintro e w2 ⟨rfl, hb2⟩; have HB2 := hide ((((unhide HB).alloc (unhide HB).size _)).trans (hb2.mono (by have := (unhide HB).size; simp; omega))); clear hb2 c0 c1)
          go_quiet (fail)
          go_wp2_with fail
          go_roundw
          case rel => exact ⟨k + 1, by omega, by go_num, unhide HNX, below_drewN (unhide HB2) _⟩
          case measure => simp [intOf]; omega
      · have HNX : Hid (C = Vc.dotErr (p, c)) := by
          have h := unhide HST
          rw [if_pos (by simpa using he)] at h
          exact hide (by rw [unhide HC1, h])
        have heb : (Vc.dotErr (p, c) != 0) = true := bne_iff_ne.2 he
        generalize Vc.dotErr (p, c) = E at *
        clear he
        go_wp2_with (go_at_call 120; refine (unhide KD _).mono ?_; rintro e w2 ⟨rfl, hb2⟩; have HB2 := hide ((((unhide HB).alloc (unhide HB).size _)).trans (hb2.mono (by have := (unhide HB).size; simp; omega))); clear hb2 c0 c1)
        go_ret
        exact ⟨ret_int (unhide HNX).symm, unhide HB2⟩
    · obtain rfl : k = ds.length := by omega
      have HNX : Hid (C = 0) := by rw [unhide HC1]; exact chk_end ds _
      go_wp2_with fail
      go_ret
      exact ⟨ret_int (unhide HNX).symm, unhide HB⟩
set_option maxRecDepth 100000 in
set_option maxHeartbeats 1000000 in
theorem refCheck_any (a : Option Addr) (cap : Nat) (ds : List Vc.D) (hl : ds.length ≤ 9223372036854775807) (w : World) (h : Sl w a ds) :
    Calls Tryz.prog 104 #[.slice a ds.length cap] w fun e w' => e = .returned (.int .i64 (Vc.check ds)) ∧ Below w.heap.size w w' := by
  have HS := hide h
  have HC := hide (show Vc.check ds = Vc.chk (prevP ds 0) (ds.drop 0) from rfl)
  obtain ⟨C, hC⟩ : ∃ C, Vc.check ds = C := ⟨_, rfl⟩
  rw [hC] at HC ⊢
  clear h hC
  go_enter Tryz.func104, Tryz.ntmps104
  go_wp2_with fail
  go_loopw [3] (fun i wr => ∃ k : Nat, k ≤ ds.length ∧ i = .int .i64 k ∧ C = Vc.chk (prevP ds k) (ds.drop k) ∧ Below w.heap.size w wr) (fun i _ => ds.length - (intOf i).toNat)
  case atStart => exact ⟨0, Nat.zero_le _, rfl, unhide HC, Below.refl _ _⟩
  case round =>
    obtain ⟨k, hk, rfl, hc, hb⟩ := hrel
    have HC1 := hide hc
    have HB := hide hb
    clear hc hb HC
    by_cases hlt : k < ds.length
    · obtain ⟨d, hd⟩ : ∃ d, ds[k]? = some d := ⟨_, List.getElem?_eq_getElem hlt⟩
      obtain ⟨g, o, rfl, hg, hcell⟩ := unhide HS (by omega)
      have HG := hide hg
      have HCell := hide hcell
      have HD := hide hd
      obtain ⟨p, c⟩ := d
      have c0 : wr.cell? ⟨g, o + k * 2, none⟩ = some (.int .i64 p) := ((unhide HB).cell (p := ⟨g, o + k * 2, none⟩) hg).trans (hcell k _ hd).1
      have c1 : wr.cell? ⟨g, o + k * 2 + 1, none⟩ = some (.int .i64 c) := ((unhide HB).cell (p := ⟨g, o + k * 2 + 1, none⟩) hg).trans (hcell k _ hd).2
      clear hd hg hcell
      have KD := hide (refDot_any p c)
      have HST := hide (chk_step ds k (p, c) (unhide HD))
      by_cases he : Vc.dotErr (p, c) = 0
      · have hok := (Vc.dotErr_zero (p, c)).1 he
        have hp0 : 0 ≤ p := hok.1
        clear hok
        rw [he] at KD
        rw [if_neg (by simpa using he)] at HST
        clear he
        by_cases hk0 : 0 < k
        · obtain ⟨m, hm⟩ : ∃ m, k = m + 1 := ⟨k - 1, by omega⟩
          obtain ⟨⟨p', c'⟩, hd'⟩ : ∃ d, ds[m]? = some d := ⟨_, List.getElem?_eq_getElem (by omega)⟩
          have e' : prevP ds k = p' := by rw [hm]; exact prev_at ds m _ hd'
          rw [e'] at HST
          have HM : Hid (w.cell? ⟨g, o + m * 2, none⟩ = some (.int .i64 p')) := ((unhide HCell) m _ hd').1
          have HK : Hid (w.cell? ⟨g, o + k * 2, none⟩ = some (.int .i64 p)) := ((unhide HCell) k _ (unhide HD)).1
          have hmi : (k : Int) - 1 = (m : Int) := by omega
          have hmw : IntKind.i64.wrap ((k : Int) - 1) = (m : Int) := by rw [hmi]; exact wrap_small (by omega) (by omega)
          have hml : m < ds.length := by omega
          have hgi : (0 : Int) < (k : Int) := by omega
          have HMK : Hid (k = m + 1) := hm
          clear hd' hm
          by_cases hle : p ≤ p'
          · have HNX : Hid (C = 8) := by
              have h := unhide HST
              rw [if_pos (show (p, c).1 ≤ p' from hle)] at h
              exact hide (by rw [unhide HC1, e', h])
            clear e'
            go_wp2_with (go_at_call 103; refine (unhide KD _).mono ?_; rintro e w2 ⟨rfl, hb2⟩; have HB2 := hide (below_grow (unhide HB) (Nat.le_refl _) hb2); have c2 := ((unhide HB2).cell (p := ⟨g, o + k * 2, none⟩) (unhide HG)).trans (unhide HK); have c3 := ((unhide HB2).cell (p := ⟨g, o + m * 2, none⟩) (unhide HG)).trans (unhide HM); clear hb2 c0 c1)
            go_quiet (fail)
            go_wp2_with fail
            go_ret
            exact ⟨ret_int (unhide HNX).symm, below_drewN (unhide HB2) _⟩
          · have HNX : Hid (C = Vc.chk (prevP ds (k + 1)) (ds.drop (k + 1))) := by
              have h := unhide HST
              rw [if_neg (show ¬ (p, c).1 ≤ p' from hle)] at h
              exact hide (by rw [unhide HC1, e', h])
            clear e'
            go_wp2_with (go_at_call 103; refine (unhide KD _).mono ?_; rintro e w2 ⟨rfl, hb2⟩; have HB2 := hide (below_grow (unhide HB) (Nat.le_refl _) hb2); have c2 := ((unhide HB2).cell (p := ⟨g, o + k * 2, none⟩) (unhide HG)).trans (unhide HK); have c3 := ((unhide HB2).cell (p := ⟨g, o + m * 2, none⟩) (unhide HG)).trans (unhide HM); clear hb2 c0 c1)
            go_quiet (fail)
            go_wp2_with fail
            go_roundw
            case rel => exact ⟨k + 1, by omega, by go_num, unhide HNX, below_drewN (unhide HB2) _⟩
            case measure => simp [intOf]; omega
        · have HNX : Hid (C = Vc.chk (prevP ds (k + 1)) (ds.drop (k + 1))) := by
            have h := unhide HST
            have e : prevP ds k = -1 := by rw [show k = 0 by omega]; rfl
            rw [e, if_neg (show ¬ (p, c).1 ≤ -1 by show ¬ p ≤ -1; omega)] at h
            rw [unhide HC1, e]
            exact h
          have hgd : decide (0 < (k : Int)) = false := decide_eq_false (by omega)
          go_wp2_with (go_at_call 103; refine (unhide KD _).mono ?_; rintro e w2 ⟨rfl, hb2⟩; have HB2 := hide (below_grow (unhide HB) (Nat.le_refl _) hb2); clear hb2 c0 c1)
          go_quiet (fail)
          go_wp2_with fail
          go_roundw
          case rel => exact ⟨k + 1, by omega, by go_num, unhide HNX, below_drewN (unhide HB2) _⟩
          case measure => simp [intOf]; omega
      · have HNX : Hid (C = Vc.dotErr (p, c)) := by
          have h := unhide HST
          rw [if_pos (by simpa using he)] at h
          exact hide (by rw [unhide HC1, h])
        have heb : (Vc.dotErr (p, c) != 0) = true := bne_iff_ne.2 he
        generalize Vc.dotErr (p, c) = E at *
        clear he
        go_wp2_with (go_at_call 103; refine (unhide KD _).mono ?_; rintro e w2 ⟨rfl, hb2⟩; have HB2 := hide (below_grow (unhide HB) (Nat.le_refl _) hb2); clear hb2 c0 c1)
        go_ret
        exact ⟨ret_int (unhide HNX).symm, unhide HB2⟩
    · obtain rfl : k = ds.length := by omega
      have HNX : Hid (C = 0) := by rw [unhide HC1]; exact chk_end ds _
      go_wp2_with fail
      go_ret
      exact ⟨ret_int (unhide HNX).symm, unhide HB⟩
end Go.Proofs.YtebjlmnhpfoglaaGreatDoor

/-
  What sides goes through: two vectors side by side, for every loop that keeps what lay ahead of it.
-/

namespace Go.Proofs.YtebjlmnhpfoglaaGreatDoor
open Go.RowKit Go.Shelf

attribute [local go_sem] Oper.semAt_some

theorem below_drew {B : Nat} {a w : World} (h : Below B a w) : Below B a w.drew := ⟨h.os, h.tape, h.output, h.size, h.block⟩

/-- A slice of dots below a block. -/
def SlB (n : Nat) (W : World) (a : Option Addr) (ds : List Vc.D) : Prop :=
  0 < ds.length → ∃ g o, a = some ⟨g, o, none⟩ ∧ g < n ∧ ∀ (j : Nat) (d : Vc.D), ds[j]? = some d → W.cell? ⟨g, o + j * 2, none⟩ = some (.int .i64 d.1) ∧ W.cell? ⟨g, o + j * 2 + 1, none⟩ = some (.int .i64 d.2)
theorem Sl.b {W : World} {a : Option Addr} {ds : List Vc.D} (h : Sl W a ds) : SlB W.heap.size W a ds := h
theorem SlB.sl {n : Nat} {W : World} {a : Option Addr} {ds : List Vc.D} (h : SlB n W a ds) (hn : n ≤ W.heap.size) : Sl W a ds := fun h0 => by
  obtain ⟨g, o, e, hg, hc⟩ := h h0
  exact ⟨g, o, e, by omega, hc⟩
theorem SlB.below {n : Nat} {W W' : World} {a : Option Addr} {ds : List Vc.D} (h : SlB n W a ds) (hb : Below n W W') : SlB n W' a ds := fun h0 => by
  obtain ⟨g, o, e, hg, hc⟩ := h h0
  refine ⟨g, o, e, hg, fun j d hj => ?_⟩
  rw [hb.cell (p := ⟨g, o + j * 2, none⟩) hg, hb.cell (p := ⟨g, o + j * 2 + 1, none⟩) hg]
  exact hc j d hj
theorem SlB.tail {n g o : Nat} {W : World} {d : Vc.D} {ds : List Vc.D} (h : SlB n W (some ⟨g, o, none⟩) (d :: ds)) : SlB n W (some ⟨g, o + 2, none⟩) ds := fun _ => by
  obtain ⟨g', o', e, hg, hc⟩ := h (by simp)
  cases e
  refine ⟨g, o + 2, rfl, hg, fun j x hj => ?_⟩
  have := hc (j + 1) x (by simpa using hj)
  rw [show o + 2 + j * 2 = o + (j + 1) * 2 by omega]
  exact this

/-- 's[1:]', whatever room is behind it. -/
theorem slice1 (g o n cap : Nat) (h : n + 1 ≤ cap) : ∃ A, (∀ w, (Instr.slice 62 (.slice (some ⟨g, o, none⟩) (n + 1) cap) (some (.int .i64 1)) none none).run Tryz.prog w = .ok (.slice A n (cap - 1)) w) ∧ (0 < n → A = some ⟨g, o + 2, none⟩) := by
  by_cases hc : cap = 1
  · subst hc
    refine ⟨some ⟨g, o, none⟩, fun w => ?_, fun h => by omega⟩
    go_simp
    rw [if_pos (by omega)]
    obtain rfl : n = 0 := by omega
    rfl
  · refine ⟨some ⟨g, o + 2, none⟩, fun w => ?_, fun h => rfl⟩
    go_simp
    intro h'
    omega
theorem SlB.cut {n g o : Nat} {W : World} {d : Vc.D} {ds : List Vc.D} (h : SlB n W (some ⟨g, o, none⟩) (d :: ds)) {A : Option Addr} (hA : 0 < ds.length → A = some ⟨g, o + 2, none⟩) : SlB n W A ds := fun h0 => by
  rw [hA h0]
  exact h.tail h0

theorem first_le {m : Int} {ds : List Vc.D} (h : Vc.Up m ds) : Vc.first ds ≤ 64 := by
  cases ds with
  | nil => exact Int.le_refl _
  | cons d l => have := h.1.2.1; show d.1 ≤ 64; omega
theorem first_cons {m : Int} {d : Vc.D} {ds : List Vc.D} (h : Vc.Up m (d :: ds)) : d.1 ≤ 63 := h.1.2.1
theorem up_first {m p : Int} {ds : List Vc.D} (h : Vc.Up m ds) (hp : p < Vc.first ds) : Vc.Up p ds := by
  cases ds with
  | nil => trivial
  | cons d l => exact ⟨h.1, hp, h.2.2⟩
theorem prefix_one {α : Type} (L pre r : List α) (s : α) (h : L = pre ++ s :: r) : pre ++ [s] <+: L := ⟨r, by rw [h]; simp⟩

def lenOf : Value → Nat
  | .slice _ n _ => n
  | _ => 0

set_option maxHeartbeats 400000 in
theorem sides_in (F : Fence) (n : Nat) (h67 : F.fn 139) (hro : F.round = none) (a b : Option Addr) (la ca lb cb : Nat) (w : World) :
    CallsIn F n Tryz.prog 139 #[.slice a la ca, .slice b lb cb] w fun e w' => e = .returned (.func (.func 159) #[] #[.pointer (some ⟨w.heap.size, 0, none⟩), .pointer (some ⟨w.heap.size + 1, 0, none⟩)]) ∧ w' = (w.alloc (.cells #[.slice a la ca] 62)).alloc (.cells #[.slice b lb cb] 62) := by
  refine callsIn_of_wp Tryz.func139 rfl h67 ?_ hro
  simp only [Tryz.ntmps139, List.size_toArray, List.length_cons, List.length_nil, Nat.reduceAdd, Nat.reduceSub, Array.replicate_succ, Array.replicate_zero, List.push_toArray, List.append_toArray, List.nil_append, List.cons_append]
  gi_wp2
  go_ret
  exact ⟨rfl, rfl⟩

set_option maxRecDepth 100000 in
set_option maxHeartbeats 400000 in
theorem first_in (F : Fence) (n : Nat) (h59 : F.fn 160) (hro : F.round = none) (a : Option Addr) (cap : Nat) (ds : List Vc.D) (hb : ds.length ≤ 9223372036854775807) (w : World) (h : Sl w a ds) :
    CallsIn F n Tryz.prog 160 #[.slice a ds.length cap] w fun e w' => e = .returned (.int .i64 (Vc.first ds)) ∧ w' = w := by
  cases ds with
  | nil =>
    refine callsIn_of_wp Tryz.func160 rfl h59 ?_ hro
    simp only [Tryz.ntmps160, List.size_toArray, List.length_cons, List.length_nil, Nat.reduceAdd, Nat.reduceSub, Array.replicate_succ, Array.replicate_zero, List.push_toArray, List.append_toArray, List.nil_append, List.cons_append]
    gi_wp2
    go_ret
    exact ⟨rfl, rfl⟩
  | cons d l =>
    obtain ⟨g, o, rfl, hg, hc⟩ := h (by simp)
    have c0 : w.cell? ⟨g, o, none⟩ = some (.int .i64 d.1) := (hc 0 d rfl).1
    obtain ⟨m, hm⟩ : ∃ m, (d :: l).length = m := ⟨_, rfl⟩
    have h0 : 0 < m := by rw [← hm]; simp
    rw [hm] at hb ⊢
    obtain ⟨f, hf⟩ : ∃ f, Vc.first (d :: l) = f := ⟨_, rfl⟩
    have e : d.1 = f := hf
    rw [hf]
    rw [e] at c0
    clear h hc hf hm e
    refine callsIn_of_wp Tryz.func160 rfl h59 ?_ hro
    simp only [Tryz.ntmps160, List.size_toArray, List.length_cons, List.length_nil, Nat.reduceAdd, Nat.reduceSub, Array.replicate_succ, Array.replicate_zero, List.push_toArray, List.append_toArray, List.nil_append, List.cons_append]
    gi_wp2
    go_ret
    exact ⟨rfl, rfl⟩

set_option maxRecDepth 100000 in
set_option maxHeartbeats 4000000 in
theorem sides1_in (n : Nat) (hn : 2 ≤ n) (l B1 B2 n₀ : Nat) (a b : Option Addr) (ca cb : Nat) (xs ys : List Vc.D) (hla : xs.length ≤ 64) (hlb : ys.length ≤ 64) (hca : xs.length ≤ ca) (hcb : ys.length ≤ cb)
    (ua : Vc.Up (-1) xs) (ub : Vc.Up (-1) ys) (J Jx : List (Vc.D × Vc.D) → World → Prop) (hJ : ∀ pre A B, J pre A → Below A.heap.size A B → J pre B)
    (hY : ∀ pre s W, J pre W → pre.length < 128 → YieldAt Fence.wide (n - 1) Tryz.prog l #[dotV s.1, dotV s.2] W fun e W' =>
      (e = .returned (.bool true) ∧ J (pre ++ [s]) W' ∧ Below n₀ W W') ∨ (e = .returned (.bool false) ∧ Jx (pre ++ [s]) W'))
    (W : World) (hn₀ : n₀ ≤ W.heap.size) (hB1 : W.cell? ⟨B1, 0, none⟩ = some (.slice a xs.length ca)) (hB2 : W.cell? ⟨B2, 0, none⟩ = some (.slice b ys.length cb)) (sa : SlB n₀ W a xs) (sb : SlB n₀ W b ys) (h0 : J [] W) :
    CallsIn Fence.wide n Tryz.prog 159 #[.func (.yield l) #[] #[], .pointer (some ⟨B1, 0, none⟩), .pointer (some ⟨B2, 0, none⟩)] W fun e W' => (∃ v, e = .returned v) ∧
      ((∃ zs, zs = Vc.sides xs ys ∧ J zs W') ∨ (∃ pre, pre <+: Vc.sides xs ys ∧ Jx pre W')) := by
  have HY := hide hY
  have HSA := hide sa
  have HSB := hide sb
  have HJ := hide hJ
  have HUA := hide ua
  have HUB := hide ub
  obtain ⟨L, hL⟩ : ∃ L, Vc.sides xs ys = L := ⟨_, rfl⟩
  have HLl : Hid (L.length ≤ 128) := hide (by rw [← hL]; have := Vc.sides_len xs ys; omega)
  have HL := hide hL
  rw [hL]
  clear hY sa sb hJ ua ub hL
  have h59 : Fence.wide.fn 160 := trivial
  refine callsIn_of_wp Tryz.func159 rfl trivial ?_ rfl
  simp only [Tryz.ntmps159, List.size_toArray, List.length_cons, List.length_nil, Nat.reduceAdd, Nat.reduceSub, Array.replicate_succ, Array.replicate_zero, List.push_toArray, List.append_toArray, List.nil_append, List.cons_append]
  gi_wp2
  gi_region
  gi_wp2
  gi_loopw [4, 5] (fun p q wr => ∃ (pre : List (Vc.D × Vc.D)) (x' y' : List Vc.D) (a' b' : Option Addr) (ca' cb' : Nat) (m : Int), p = .slice a' x'.length ca' ∧ q = .slice b' y'.length cb' ∧ x'.length ≤ ca' ∧ y'.length ≤ cb' ∧ x'.length ≤ 64 ∧ y'.length ≤ 64 ∧
      Vc.Up m x' ∧ Vc.Up m y' ∧ SlB n₀ wr a' x' ∧ SlB n₀ wr b' y' ∧ L = pre ++ Vc.sides x' y' ∧ n₀ ≤ wr.heap.size ∧ J pre wr) (fun p q _ => lenOf p + lenOf q)
  case atStart =>
    exact ⟨[], xs, ys, a, b, ca, cb, -1, rfl, rfl, hca, hcb, hla, hlb, unhide HUA, unhide HUB, (unhide HSA).below (below_drew (Below.refl _ _)), (unhide HSB).below (below_drew (Below.refl _ _)), (unhide HL).symm, hn₀, unhide HJ _ _ _ h0 (below_drew (Below.refl _ _))⟩
  case round =>
    obtain ⟨pre, x', y', a', b', ca', cb', m, rfl, rfl, h1, h2, h3, h4, hux, huy, hsx, hsy, hL1, hw0, hJ1⟩ := hrel
    have HUX := hide hux
    have HUY := hide huy
    have HSX := hide hsx
    have HSY := hide hsy
    have HL1 := hide hL1
    have HJ1 := hide hJ1
    have KX := hide fun W' (h : Sl W' a' x') => first_in Fence.wide (n - 1) trivial rfl a' ca' x' (by omega) W' h
    have KY := hide fun W' (h : Sl W' b' y') => first_in Fence.wide (n - 1) trivial rfl b' cb' y' (by omega) W' h
    clear hux huy hsx hsy hL1 hJ1 HUA HUB HL HSA HSB hB1 hB2 h0
    rcases Int.lt_trichotomy (Vc.first x') (Vc.first y') with hlt | heq | hgt
    · cases x' with
      | nil => exact absurd (first_le (unhide HUY)) (by have : (64 : Int) < Vc.first y' := hlt; omega)
      | cons d x1 =>
        obtain ⟨p, c⟩ := d
        obtain ⟨g, o, rfl, hg, hcell⟩ := unhide HSX (by simp)
        obtain ⟨A1, hsl, hA1⟩ := slice1 g o x1.length ca' h1
        have HT := hide ((unhide HSX).cut hA1)
        clear hA1
        have c0 : wr.cell? ⟨g, o, none⟩ = some (.int .i64 p) := (hcell 0 _ rfl).1
        have c1 : wr.cell? ⟨g, o + 1, none⟩ = some (.int .i64 c) := (hcell 0 _ rfl).2
        have HG := hide hg
        clear hg hcell
        have hfx : Vc.first ((p, c) :: x1) = p := rfl
        rw [hfx] at hlt KX
        clear hfx
        have hlt0 := hide hlt
        obtain ⟨fy, hfy⟩ : ∃ fy, Vc.first y' = fy := ⟨_, rfl⟩
        rw [hfy] at hlt KY
        clear hfy
        have hmn : min p fy = p := by omega
        rw [List.length_cons] at KX ⊢ h1 h3
        gi_wp2_with fail
        refine ⟨fun _ => by omega, (unhide KX wr ((unhide HSX).sl hw0)).mono ?_⟩
        rintro e w1 ⟨rfl, hw⟩
        have hw' := hw.symm
        subst hw'
        gi_wp2_with fail
        refine ⟨fun _ => by omega, (unhide KY wr ((unhide HSY).sl hw0)).mono ?_⟩
        rintro e w1 ⟨rfl, hw⟩
        have hw' := hw.symm
        subst hw'
        gi_wp2_with fail
        have HB2 := hide (((Below.refl wr.heap.size wr).alloc (Nat.le_refl _) (.cells #[.int .i64 p, .int .i64 0] 61)).alloc (by simp) (.cells #[.int .i64 p, .int .i64 0] 61))
        refine ⟨fun _ => by omega, (unhide KX _ (((unhide HSX).sl hw0).after (unhide HB2))).mono ?_⟩
        rintro e w1 ⟨rfl, hw⟩
        have hw' := hw.symm
        subst hw'
        have c0' := ((unhide HB2).cell (block_lt_of_cell c0)).trans c0
        have c1' := ((unhide HB2).cell (block_lt_of_cell c1)).trans c1
        gi_wp2_with fail
        gi_region
        gi_wp2_with fail
        have HB3 := hide (below_drew (((Below.refl wr.heap.size wr).alloc (Nat.le_refl _) (.cells #[.int .i64 p, .int .i64 c] 61)).alloc (by simp) (.cells #[.int .i64 p, .int .i64 0] 61)))
        refine ⟨fun _ => by omega, (unhide KY _ (((unhide HSY).sl hw0).after (unhide HB3))).mono ?_⟩
        rintro e w1 ⟨rfl, hw⟩
        have hw' := hw.symm
        subst hw'
        have hlen : pre.length < 128 := by
          have := unhide HLl
          rw [unhide HL1, List.length_append, Vc.sides_left (p, c) x1 y' (unhide hlt0), List.length_cons] at this
          omega
        obtain ⟨fn, tmps, assign, body, hy, hR⟩ := unhide HY pre ((p, c), (p, 0)) _ (unhide HJ _ _ _ (unhide HJ1) (unhide HB3)) hlen
        have hne : (fy == p) = false := by rw [beq_eq_false_iff_ne]; omega
        simp only [dotV] at hy
        gi_wp2_with fail
        refine ⟨fun _ => by omega, hR.mono ?_⟩
        rintro e W3 (⟨rfl, hJ3, hk3⟩ | ⟨rfl, hJx3⟩)
        · have HB4 := hide (((unhide HB3).mono hw0).trans hk3)
          have HJ3 := hide hJ3
          clear hJ3 hk3 hy hR c0 c1 c0' c1' hsl
          gi_wp2_with fail
          go_roundw
          case rel => exact ⟨pre ++ [((p, c), (p, 0))], x1, y', A1, b', ca' - 1, cb', p, rfl, rfl, by omega, h2, by omega, h4, (unhide HUX).2.2, up_first (unhide HUY) (unhide hlt0), (unhide HT).below (unhide HB4), (unhide HSY).below (unhide HB4), by rw [unhide HL1, Vc.sides_left (p, c) x1 y' (unhide hlt0)]; simp, Nat.le_trans hw0 (unhide HB4).size, unhide HJ3⟩
          case measure => simp only [lenOf]; omega
        · have HJx3 := hide hJx3
          clear hJx3 hy hR c0 c1 c0' c1' hsl
          gi_wp2_with fail
          refine bodyPost_ret (results_none rfl _ _ _) rfl ?_
          exact ⟨⟨_, rfl⟩, .inr ⟨pre ++ [((p, c), (p, 0))], prefix_one _ _ (Vc.sides x1 y') _ (by rw [unhide HL1, Vc.sides_left (p, c) x1 y' (unhide hlt0)]), unhide HJx3⟩⟩
    · cases x' with
      | nil =>
        cases y' with
        | nil =>
          rw [show Vc.sides [] [] = [] by rw [Vc.sides], List.append_nil] at HL1
          gi_wp2_with fail
          go_end0
          exact ⟨⟨_, rfl⟩, .inl (by rw [unhide HL1]; exact unhide HJ1)⟩
        | cons d y1 => exact absurd (first_cons (unhide HUY)) (by have : (64 : Int) = d.1 := heq; omega)
      | cons d x1 =>
        cases y' with
        | nil => exact absurd (first_cons (unhide HUX)) (by have : d.1 = (64 : Int) := heq; omega)
        | cons d' y1 =>
          obtain ⟨p, c⟩ := d
          obtain ⟨p', c'⟩ := d'
          have hpp : p = p' := heq
          subst hpp
          obtain ⟨g, o, rfl, hg, hcell⟩ := unhide HSX (by simp)
          obtain ⟨g2, o2, rfl, hg2, hcell2⟩ := unhide HSY (by simp)
          obtain ⟨A1, hsl, hA1⟩ := slice1 g o x1.length ca' h1
          have HT := hide ((unhide HSX).cut hA1)
          clear hA1
          obtain ⟨A2, hsl2, hA2⟩ := slice1 g2 o2 y1.length cb' h2
          have HT2 := hide ((unhide HSY).cut hA2)
          clear hA2
          have c0 : wr.cell? ⟨g, o, none⟩ = some (.int .i64 p) := (hcell 0 _ rfl).1
          have c1 : wr.cell? ⟨g, o + 1, none⟩ = some (.int .i64 c) := (hcell 0 _ rfl).2
          have c2 : wr.cell? ⟨g2, o2, none⟩ = some (.int .i64 p) := (hcell2 0 _ rfl).1
          have c3 : wr.cell? ⟨g2, o2 + 1, none⟩ = some (.int .i64 c') := (hcell2 0 _ rfl).2
          clear hg hcell hg2 hcell2 heq
          have hfx : Vc.first ((p, c) :: x1) = p := rfl
          have hfy : Vc.first ((p, c') :: y1) = p := rfl
          rw [hfx] at KX
          rw [hfy] at KY
          clear hfx hfy
          have hmn : min p p = p := by omega
          rw [List.length_cons] at KX h1 h3
          rw [List.length_cons] at KY h2 h4
          rw [List.length_cons, List.length_cons]
          gi_wp2_with fail
          refine ⟨fun _ => by omega, (unhide KX wr ((unhide HSX).sl hw0)).mono ?_⟩
          rintro e w1 ⟨rfl, hw⟩
          have hw' := hw.symm
          subst hw'
          gi_wp2_with fail
          refine ⟨fun _ => by omega, (unhide KY wr ((unhide HSY).sl hw0)).mono ?_⟩
          rintro e w1 ⟨rfl, hw⟩
          have hw' := hw.symm
          subst hw'
          gi_wp2_with fail
          have HB2 := hide (((Below.refl wr.heap.size wr).alloc (Nat.le_refl _) (.cells #[.int .i64 p, .int .i64 0] 61)).alloc (by simp) (.cells #[.int .i64 p, .int .i64 0] 61))
          refine ⟨fun _ => by omega, (unhide KX _ (((unhide HSX).sl hw0).after (unhide HB2))).mono ?_⟩
          rintro e w1 ⟨rfl, hw⟩
          have hw' := hw.symm
          subst hw'
          have c0' := ((unhide HB2).cell (block_lt_of_cell c0)).trans c0
          have c1' := ((unhide HB2).cell (block_lt_of_cell c1)).trans c1
          gi_wp2_with fail
          gi_region
          gi_wp2_with fail
          have HB3 := hide (below_drew (((Below.refl wr.heap.size wr).alloc (Nat.le_refl _) (.cells #[.int .i64 p, .int .i64 c] 61)).alloc (by simp) (.cells #[.int .i64 p, .int .i64 0] 61)))
          refine ⟨fun _ => by omega, (unhide KY _ (((unhide HSY).sl hw0).after (unhide HB3))).mono ?_⟩
          rintro e w1 ⟨rfl, hw⟩
          have hw' := hw.symm
          subst hw'
          have c2' := ((unhide HB3).cell (block_lt_of_cell c2)).trans c2
          have c3' := ((unhide HB3).cell (block_lt_of_cell c3)).trans c3
          gi_wp2_with fail
          gi_region
          have HB5 := hide (below_drew (below_drew (((Below.refl wr.heap.size wr).alloc (Nat.le_refl _) (.cells #[.int .i64 p, .int .i64 c] 61)).alloc (by simp) (.cells #[.int .i64 p, .int .i64 c'] 61))))
          have hlen : pre.length < 128 := by
            have := unhide HLl
            rw [unhide HL1, List.length_append, Vc.sides_both (p, c) (p, c') x1 y1 rfl, List.length_cons] at this
            omega
          obtain ⟨fn, tmps, assign, body, hy, hR⟩ := unhide HY pre ((p, c), (p, c')) _ (unhide HJ _ _ _ (unhide HJ1) (unhide HB5)) hlen
          simp only [dotV] at hy
          gi_wp2_with fail
          refine ⟨fun _ => by omega, hR.mono ?_⟩
          rintro e W3 (⟨rfl, hJ3, hk3⟩ | ⟨rfl, hJx3⟩)
          · have HB4 := hide (((unhide HB5).mono hw0).trans hk3)
            have HJ3 := hide hJ3
            clear hJ3 hk3 hy hR c0 c1 c0' c1' c2 c3 c2' c3' hsl hsl2
            gi_wp2_with fail
            go_roundw
            case rel => exact ⟨pre ++ [((p, c), (p, c'))], x1, y1, A1, A2, ca' - 1, cb' - 1, p, rfl, rfl, by omega, by omega, by omega, by omega, (unhide HUX).2.2, (unhide HUY).2.2, (unhide HT).below (unhide HB4), (unhide HT2).below (unhide HB4), by rw [unhide HL1, Vc.sides_both (p, c) (p, c') x1 y1 rfl]; simp, Nat.le_trans hw0 (unhide HB4).size, unhide HJ3⟩
            case measure => simp only [lenOf]; omega
          · have HJx3 := hide hJx3
            clear hJx3 hy hR c0 c1 c0' c1' c2 c3 c2' c3' hsl hsl2
            gi_wp2_with fail
            refine bodyPost_ret (results_none rfl _ _ _) rfl ?_
            exact ⟨⟨_, rfl⟩, .inr ⟨pre ++ [((p, c), (p, c'))], prefix_one _ _ (Vc.sides x1 y1) _ (by rw [unhide HL1, Vc.sides_both (p, c) (p, c') x1 y1 rfl]), unhide HJx3⟩⟩
    · cases y' with
      | nil => exact absurd (first_le (unhide HUX)) (by have : (64 : Int) < Vc.first x' := hgt; omega)
      | cons d y1 =>
        obtain ⟨p, c⟩ := d
        obtain ⟨g, o, rfl, hg, hcell⟩ := unhide HSY (by simp)
        obtain ⟨A1, hsl, hA1⟩ := slice1 g o y1.length cb' h2
        have HT := hide ((unhide HSY).cut hA1)
        clear hA1
        have c0 : wr.cell? ⟨g, o, none⟩ = some (.int .i64 p) := (hcell 0 _ rfl).1
        have c1 : wr.cell? ⟨g, o + 1, none⟩ = some (.int .i64 c) := (hcell 0 _ rfl).2
        clear hg hcell
        have hfy : Vc.first ((p, c) :: y1) = p := rfl
        rw [hfy] at hgt KY
        clear hfy
        have hgt0 := hide hgt
        obtain ⟨fx, hfx⟩ : ∃ fx, Vc.first x' = fx := ⟨_, rfl⟩
        rw [hfx] at hgt KX
        clear hfx
        have hmn : min fx p = p := by omega
        have hne : (fx == p) = false := by rw [beq_eq_false_iff_ne]; omega
        have hlen : pre.length < 128 := by
          have := unhide HLl
          rw [unhide HL1, List.length_append, Vc.sides_right (p, c) x' y1 (unhide hgt0), List.length_cons] at this
          omega
        rw [List.length_cons] at KY h2 h4
        cases x' with
        | nil =>
          rw [List.length_nil] at KX h1 h3
          rw [List.length_nil, List.length_cons]
          gi_wp2_with fail
          refine ⟨fun _ => by omega, (unhide KX wr ((unhide HSX).sl hw0)).mono ?_⟩
          rintro e w1 ⟨rfl, hw⟩
          have hw' := hw.symm
          subst hw'
          gi_wp2_with fail
          refine ⟨fun _ => by omega, (unhide KY wr ((unhide HSY).sl hw0)).mono ?_⟩
          rintro e w1 ⟨rfl, hw⟩
          have hw' := hw.symm
          subst hw'
          gi_wp2_with fail
          have HB2 := hide (((Below.refl wr.heap.size wr).alloc (Nat.le_refl _) (.cells #[.int .i64 p, .int .i64 0] 61)).alloc (by simp) (.cells #[.int .i64 p, .int .i64 0] 61))
          refine ⟨fun _ => by omega, (unhide KX _ (((unhide HSX).sl hw0).after (unhide HB2))).mono ?_⟩
          rintro e w1 ⟨rfl, hw⟩
          have hw' := hw.symm
          subst hw'
          gi_wp2_with fail
          refine ⟨fun _ => by omega, (unhide KY _ (((unhide HSY).sl hw0).after (unhide HB2))).mono ?_⟩
          rintro e w1 ⟨rfl, hw⟩
          have hw' := hw.symm
          subst hw'
          have c0' := ((unhide HB2).cell (block_lt_of_cell c0)).trans c0
          have c1' := ((unhide HB2).cell (block_lt_of_cell c1)).trans c1
          gi_wp2_with fail
          gi_region
          have HB3 := hide (below_drew (((Below.refl wr.heap.size wr).alloc (Nat.le_refl _) (.cells #[.int .i64 p, .int .i64 0] 61)).alloc (by simp) (.cells #[.int .i64 p, .int .i64 c] 61)))
          obtain ⟨fn, tmps, assign, body, hy, hR⟩ := unhide HY pre ((p, 0), (p, c)) _ (unhide HJ _ _ _ (unhide HJ1) (unhide HB3)) hlen
          simp only [dotV] at hy
          gi_wp2_with fail
          refine ⟨fun _ => by omega, hR.mono ?_⟩
          rintro e W3 (⟨rfl, hJ3, hk3⟩ | ⟨rfl, hJx3⟩)
          · have HB4 := hide (((unhide HB3).mono hw0).trans hk3)
            have HJ3 := hide hJ3
            clear hJ3 hk3 hy hR c0 c1 c0' c1' hsl
            gi_wp2_with fail
            go_roundw
            case rel => exact ⟨pre ++ [((p, 0), (p, c))], [], y1, a', A1, ca', cb' - 1, p, rfl, rfl, h1, by omega, h3, by omega, up_first (unhide HUX) (unhide hgt0), (unhide HUY).2.2, (unhide HSX).below (unhide HB4), (unhide HT).below (unhide HB4), by rw [unhide HL1, Vc.sides_right (p, c) [] y1 (unhide hgt0)]; simp, Nat.le_trans hw0 (unhide HB4).size, unhide HJ3⟩
            case measure => simp only [lenOf]; omega
          · have HJx3 := hide hJx3
            clear hJx3 hy hR c0 c1 c0' c1' hsl
            gi_wp2_with fail
            refine bodyPost_ret (results_none rfl _ _ _) rfl ?_
            exact ⟨⟨_, rfl⟩, .inr ⟨pre ++ [((p, 0), (p, c))], prefix_one _ _ (Vc.sides [] y1) _ (by rw [unhide HL1, Vc.sides_right (p, c) [] y1 (unhide hgt0)]), unhide HJx3⟩⟩
        | cons e0 x2 =>
          rw [List.length_cons] at KX h1 h3
          rw [List.length_cons, List.length_cons]
          gi_wp2_with fail
          refine ⟨fun _ => by omega, (unhide KX wr ((unhide HSX).sl hw0)).mono ?_⟩
          rintro e w1 ⟨rfl, hw⟩
          have hw' := hw.symm
          subst hw'
          gi_wp2_with fail
          refine ⟨fun _ => by omega, (unhide KY wr ((unhide HSY).sl hw0)).mono ?_⟩
          rintro e w1 ⟨rfl, hw⟩
          have hw' := hw.symm
          subst hw'
          gi_wp2_with fail
          have HB2 := hide (((Below.refl wr.heap.size wr).alloc (Nat.le_refl _) (.cells #[.int .i64 p, .int .i64 0] 61)).alloc (by simp) (.cells #[.int .i64 p, .int .i64 0] 61))
          refine ⟨fun _ => by omega, (unhide KX _ (((unhide HSX).sl hw0).after (unhide HB2))).mono ?_⟩
          rintro e w1 ⟨rfl, hw⟩
          have hw' := hw.symm
          subst hw'
          gi_wp2_with fail
          refine ⟨fun _ => by omega, (unhide KY _ (((unhide HSY).sl hw0).after (unhide HB2))).mono ?_⟩
          rintro e w1 ⟨rfl, hw⟩
          have hw' := hw.symm
          subst hw'
          have c0' := ((unhide HB2).cell (block_lt_of_cell c0)).trans c0
          have c1' := ((unhide HB2).cell (block_lt_of_cell c1)).trans c1
          gi_wp2_with fail
          gi_region
          have HB3 := hide (below_drew (((Below.refl wr.heap.size wr).alloc (Nat.le_refl _) (.cells #[.int .i64 p, .int .i64 0] 61)).alloc (by simp) (.cells #[.int .i64 p, .int .i64 c] 61)))
          obtain ⟨fn, tmps, assign, body, hy, hR⟩ := unhide HY pre ((p, 0), (p, c)) _ (unhide HJ _ _ _ (unhide HJ1) (unhide HB3)) hlen
          simp only [dotV] at hy
          gi_wp2_with fail
          refine ⟨fun _ => by omega, hR.mono ?_⟩
          rintro e W3 (⟨rfl, hJ3, hk3⟩ | ⟨rfl, hJx3⟩)
          · have HB4 := hide (((unhide HB3).mono hw0).trans hk3)
            have HJ3 := hide hJ3
            clear hJ3 hk3 hy hR c0 c1 c0' c1' hsl
            gi_wp2_with fail
            go_roundw
            case rel => exact ⟨pre ++ [((p, 0), (p, c))], (e0 :: x2), y1, a', A1, ca', cb' - 1, p, rfl, rfl, h1, by omega, h3, by omega, up_first (unhide HUX) (unhide hgt0), (unhide HUY).2.2, (unhide HSX).below (unhide HB4), (unhide HT).below (unhide HB4), by rw [unhide HL1, Vc.sides_right (p, c) (e0 :: x2) y1 (unhide hgt0)]; simp, Nat.le_trans hw0 (unhide HB4).size, unhide HJ3⟩
            case measure => simp only [lenOf]; omega
          · have HJx3 := hide hJx3
            clear hJx3 hy hR c0 c1 c0' c1' hsl
            gi_wp2_with fail
            refine bodyPost_ret (results_none rfl _ _ _) rfl ?_
            exact ⟨⟨_, rfl⟩, .inr ⟨pre ++ [((p, 0), (p, c))], prefix_one _ _ (Vc.sides (e0 :: x2) y1) _ (by rw [unhide HL1, Vc.sides_right (p, c) (e0 :: x2) y1 (unhide hgt0)]), unhide HJx3⟩⟩
end Go.Proofs.YtebjlmnhpfoglaaGreatDoor
