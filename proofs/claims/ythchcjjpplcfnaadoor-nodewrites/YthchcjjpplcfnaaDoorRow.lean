/-
  Rows of values in a block: their cells, a store into one, what stays as it was; a row as a whole.
-/
import Derived.Test.YthchcjjpplcfnaaDoorCMath
import Derived.Deep.MidRow
import Derived.Deep.WholeRow
import Derived.RegionTactic
import Derived.BigRegion
import Derived.OwnWalk
import Derived.Laws.ResultCell
import Derived.RangeFuncNested
import Derived.RangeFuncBound
import Derived.RangeFuncCalls
import Derived.RangeFuncLeaves
import Derived.RangeFuncBox
import Derived.Shelf.Abstract
import Derived.Shelf.RegionOpen
import Derived.OwnWalkIn
import Derived.TacticsInMore
import Derived.LoopNIn
import Derived.LoopIn
import Derived.Maps.AppendAt
import Derived.BigRegionIn
import Derived.WalkSmall
import Derived.Lib.SliceRun
namespace Go.Proofs.YthchcjjpplcfnaaDoor
open Go.RowKit

def VRow (W : World) (B T : Nat) (vs : List Value) : Prop := W.heap[B]? = some (.cells vs.toArray T (0, 0))

theorem VRow.cell {W : World} {B T : Nat} {vs : List Value} (h : VRow W B T vs) (k : Nat) (v : Value) (hv : vs[k]? = some v) : W.cell? ⟨B, k, none⟩ = some v := by
  rw [cell_of_row W B k vs.toArray T (0, 0) h]
  simpa using hv
theorem VRow.frozen {W : World} {B T : Nat} {vs : List Value} (h : VRow W B T vs) (k : Nat) : W.frozen? ⟨B, k, none⟩ = false := frozen_of_row W B k vs.toArray T h
theorem VRow.set {W : World} {B T : Nat} {vs : List Value} (h : VRow W B T vs) (k : Nat) (v : Value) : VRow (W.setCell ⟨B, k, none⟩ v) B T (vs.set k v) := by
  have := heap_setCell_same W B k vs.toArray T v h
  simpa [VRow] using this
theorem VRow.below {W W' : World} {n B T : Nat} {vs : List Value} (h : VRow W B T vs) (hb : Below n W W') (hn : B < n) : VRow W' B T vs := (hb.block B hn).trans h
theorem VRow.lt {W : World} {B T : Nat} {vs : List Value} (h : VRow W B T vs) : B < W.heap.size := (Array.getElem?_eq_some_iff.1 h).1
theorem VRow.new (W : World) (T : Nat) (vs : List Value) : VRow (W.alloc (.cells vs.toArray T)) W.heap.size T vs := heap_alloc_new W _
theorem VRow.newAt {W : World} {T n : Nat} {vs : List Value} (hn : n = W.heap.size) : VRow (W.alloc (.cells vs.toArray T)) n T vs := by subst hn; exact VRow.new W T vs
theorem VRow.alloc {W : World} {B T : Nat} {vs : List Value} (h : VRow W B T vs) (o : Obj) : VRow (W.alloc o) B T vs := (Below.heap_alloc W o B h.lt).trans h
theorem VRow.drewN {W : World} {B T : Nat} {vs : List Value} (h : VRow W B T vs) (n : Nat) : VRow (W.drewN n) B T vs := h

/-- Nothing turns but block B. -/
structure Only (B : Nat) (w w' : World) : Prop where
  os : w'.os = w.os
  tape : w'.tape = w.tape
  output : w'.output = w.output
  size : w'.heap.size = w.heap.size
  block : ∀ j, j ≠ B → w'.heap[j]? = w.heap[j]?
theorem Only.below {B n : Nat} {w w' : World} (h : Only B w w') (hn : n ≤ B) : Below n w w' := ⟨h.os, h.tape, h.output, Nat.le_of_eq h.size.symm, fun k hk => h.block k (by omega)⟩
theorem VRow.only {W W' : World} {A B T : Nat} {vs : List Value} (h : VRow W A T vs) (ho : Only B W W') (hne : A ≠ B) : VRow W' A T vs := (ho.block A hne).trans h
theorem below_drewN {B : Nat} {a w : World} (h : Below B a w) (q : Nat) : Below B a (w.drewN q) := ⟨h.os, h.tape, h.output, h.size, h.block⟩

theorem load_row {ops : Array Oper} {rest : List Oper} {o : Oper} {a : Act} {w : World} {Q : Exit → Act → World → Prop} (hgd : o.guard = none) (T : TypeId) (x : Operand) (ho : o.op = .load T x)
    (B : Nat) (hx : a.eval x = .pointer (some ⟨B, 0, none⟩)) (T' : TypeId) (vs : List Value) (hr : VRow w B T' vs) (n m : Nat) (e : TypeId) (hu : Tryd.prog.underlying T = some (.array m e))
    (hi : (Tryd.prog.info? T).map (·.size) = some n) (hn : vs.length = n)
    (h : wpList Tryd.prog ops Q rest (a.put o.dst (.agg vs.toArray)) w) : wpList Tryd.prog ops Q (o :: rest) a w :=
  wpList_load_row hgd T x ho B hx T' vs.toArray (0, 0) _ hr hu rfl (by rw [hi]; simp [hn]) h

theorem store_row {ops : Array Oper} {rest : List Oper} {o : Oper} {a : Act} {w : World} {Q : Exit → Act → World → Prop} (hgd : o.guard = none) (T : TypeId) (x y : Operand) (ho : o.op = .store T x y)
    (B : Nat) (vs : List Value) (hx : a.eval x = .pointer (some ⟨B, 0, none⟩)) (hy : a.eval y = .agg vs.toArray) (T' : TypeId) (olds : List Value) (hr : VRow w B T' olds) (n : Nat)
    (hi : (Tryd.prog.info? T).map (·.size) = some n) (hn : vs.length = n) (ho' : olds.length = n) (h1 : ∀ v ∈ vs, v.oneCell' = true)
    (h : ∀ w', Only B w w' → VRow w' B T' vs → wpList Tryd.prog ops Q rest (a.put o.dst undef) w') : wpList Tryd.prog ops Q (o :: rest) a w := by
  refine wpList_store_row hgd T x y ho B vs.toArray hx hy T' olds.toArray hr (by rw [hi]; simp [hn]) (by simp [hn, ho']) (all_oneCell_toArray h1) (h _ ?_ ?_)
  · exact ⟨rfl, rfl, rfl, by simp, fun j hj => setRow_other w B j _ hj⟩
  · exact setRow_heap w B olds.toArray _ T' (0, 0) hr

/-- A result in a row and one in a slot. -/
theorem results_row_int {fn : Func} {p q : Tmp} {ty : TypeId} (h : fn.results = #[.cell p ty, .tmp q]) (tmps : Array Value) (w : World) (g : Nat) (T : TypeId) (vs : List Value) {v : Value}
    (hp : tmps.getD p undef = .pointer (some ⟨g, 0, none⟩)) (hq : tmps.getD q undef = v) (hr : VRow w g T vs) (n m : Nat) (e : TypeId) (hu : Tryd.prog.underlying ty = some (.array m e))
    (hi : (Tryd.prog.info? ty).map (·.size) = some n) (hn : vs.length = n) : (results fn tmps).run Tryd.prog w = .ok (.tuple #[.agg vs.toArray, v]) w := by
  rw [results_cell_tmp h, hp, hq]
  simp only [asAddr, Sem.run_pure, Result.andThen_ok, run_loadVar_row w g T ty vs.toArray (0, 0) _ hr hu rfl (by rw [hi]; simp [hn])]

theorem wrap_small {n : Int} (h0 : -9223372036854775808 ≤ n) (h1 : n < 9223372036854775808) : IntKind.i64.wrap n = n := by rw [IntKind.wrap_i64]; omega
theorem new0 (W : World) (x y : Value) (T : Nat) : (W.alloc (.cells #[x, y] T)).cell? ⟨W.heap.size, 0, none⟩ = some x := (VRow.new W T [x, y]).cell 0 x rfl
theorem new1 (W : World) (x y : Value) (T : Nat) : (W.alloc (.cells #[x, y] T)).cell? ⟨W.heap.size, 1, none⟩ = some y := (VRow.new W T [x, y]).cell 1 y rfl
theorem lt_new (W : World) (o : Obj) : W.heap.size < (W.alloc o).heap.size := by simp
end Go.Proofs.YthchcjjpplcfnaaDoor

namespace Go.Proofs.YthchcjjpplcfnaaDoor
open Go.RowKit

/-- The peer ahead of a place. -/
def prevP (ds : List Vc.D) : Nat → Int
  | 0 => -1
  | k + 1 => (ds.getD k (0, 0)).1

theorem chk_end (ds : List Vc.D) (p : Int) : Vc.chk p (ds.drop ds.length) = 0 := by rw [List.drop_length]; rfl
theorem chk_step (ds : List Vc.D) (k : Nat) (d : Vc.D) (h : ds[k]? = some d) : Vc.chk (prevP ds k) (ds.drop k) = if Vc.dotErr d ≠ 0 then Vc.dotErr d else if d.1 ≤ prevP ds k then 8 else Vc.chk (prevP ds (k + 1)) (ds.drop (k + 1)) := by
  have hk := (List.getElem?_eq_some_iff.1 h).1
  rw [List.drop_eq_getElem_cons hk]
  have e : ds[k] = d := (List.getElem?_eq_some_iff.1 h).2
  rw [e]
  have e2 : prevP ds (k + 1) = d.1 := by simp [prevP, List.getD, h]
  rw [e2]
  rfl
theorem prev_at (ds : List Vc.D) (k : Nat) (d : Vc.D) (h : ds[k]? = some d) : prevP ds (k + 1) = d.1 := by simp [prevP, List.getD, h]

set_option maxRecDepth 100000 in
set_option maxHeartbeats 1000000 in
theorem check_any (a : Option Addr) (cap : Nat) (ds : List Vc.D) (hl : ds.length ≤ 9223372036854775807) (w : World) (h : Sl w a ds) :
    Calls Tryd.prog 65 #[.slice a ds.length cap] w fun e w' => e = .returned (.int .i64 (Vc.check ds)) ∧ Below w.heap.size w w' := by
  have HS := hide h
  have HC := hide (show Vc.check ds = Vc.chk (prevP ds 0) (ds.drop 0) from rfl)
  obtain ⟨C, hC⟩ : ∃ C, Vc.check ds = C := ⟨_, rfl⟩
  rw [hC] at HC ⊢
  clear h hC
  go_enter Tryd.func65, Tryd.ntmps65
  go_wp2_with fail
  go_loopw [8] (fun i wr => ∃ k : Nat, k ≤ ds.length ∧ i = .int .i64 k ∧ C = Vc.chk (prevP ds k) (ds.drop k) ∧ Below w.heap.size w wr) (fun i _ => ds.length - (intOf i).toNat)
  case atStart => exact ⟨0, Nat.zero_le _, rfl, unhide HC, Below.refl _ _⟩
  case round =>
    obtain ⟨k, hk, rfl, hc, hb⟩ := hrel
    have HC1 := hide hc
    have HB := hide hb
    clear hc hb HC
    by_cases hlt : k < ds.length
    · obtain ⟨d, hd⟩ : ∃ d, ds[k]? = some d := ⟨_, List.getElem?_eq_getElem hlt⟩
      obtain ⟨g, o, rfl, hg, hcell⟩ := unhide HS (by omega)
      have HG := hide hg
      have HCell := hide hcell
      have HD := hide hd
      obtain ⟨p, c⟩ := d
      have c0 : wr.cell? ⟨g, o + k * 2, none⟩ = some (.int .i64 p) := ((unhide HB).cell (p := ⟨g, o + k * 2, none⟩) hg).trans (hcell k _ hd).1
      have c1 : wr.cell? ⟨g, o + k * 2 + 1, none⟩ = some (.int .i64 c) := ((unhide HB).cell (p := ⟨g, o + k * 2 + 1, none⟩) hg).trans (hcell k _ hd).2
      clear hd hg hcell
      have KD := hide (dot_any p c)
      have HST := hide (chk_step ds k (p, c) (unhide HD))
      by_cases he : Vc.dotErr (p, c) = 0
      · have hok := (Vc.dotErr_zero (p, c)).1 he
        have hp0 : 0 ≤ p := hok.1
        clear hok
        rw [he] at KD
        rw [if_neg (by simpa using he)] at HST
        clear he
        by_cases hk0 : 0 < k
        · obtain ⟨m, hm⟩ : ∃ m, k = m + 1 := ⟨k - 1, by omega⟩
          obtain ⟨⟨p', c'⟩, hd'⟩ : ∃ d, ds[m]? = some d := ⟨_, List.getElem?_eq_getElem (by omega)⟩
          have e' : prevP ds k = p' := by rw [hm]; exact prev_at ds m _ hd'
          rw [e'] at HST
          have HM : Hid (w.cell? ⟨g, o + m * 2, none⟩ = some (.int .i64 p')) := ((unhide HCell) m _ hd').1
          have hmi : (k : Int) - 1 = (m : Int) := by omega
          have hmw : IntKind.i64.wrap ((k : Int) - 1) = (m : Int) := by rw [hmi]; exact wrap_small (by omega) (by omega)
          have hml : m < ds.length := by omega
          have hgi : (0 : Int) < (k : Int) := by omega
          have HMK : Hid (k = m + 1) := hm
          clear hd' hm
          by_cases hle : p ≤ p'
          · have HNX : Hid (C = 8) := by
              have h := unhide HST
              rw [if_pos (show (p, c).1 ≤ p' from hle)] at h
              exact hide (by rw [unhide HC1, e', h])
            clear e'
            go_wp2_with (go_at_call 80; refine (unhide KD _).mono ?_; rintro e w2 ⟨rfl, hb2⟩; have HB2 := hide ((((unhide HB).alloc (unhide HB).size _)).trans (hb2.mono (by have := (unhide HB).size; simp; omega))); have c2 : w2.cell? ⟨wr.heap.size, 0, none⟩ = some (.int .i64 p) := (hb2.cell (p := ⟨wr.heap.size, 0, none⟩) (lt_new _ _)).trans (new0 _ _ _ _); have c3 := ((unhide HB2).cell (p := ⟨g, o + m * 2, none⟩) (unhide HG)).trans (unhide HM); clear hb2 c0 c1)
            go_quiet (fail)
            go_wp2_with fail
            go_ret
            exact ⟨ret_int (unhide HNX).symm, below_drewN (unhide HB2) _⟩
          · have HNX : Hid (C = Vc.chk (prevP ds (k + 1)) (ds.drop (k + 1))) := by
              have h := unhide HST
              rw [if_neg (show ¬ (p, c).1 ≤ p' from hle)] at h
              exact hide (by rw [unhide HC1, e', h])
            clear e'
            go_wp2_with (go_at_call 80; refine (unhide KD _).mono ?_; rintro e w2 ⟨rfl, hb2⟩; have HB2 := hide ((((unhide HB).alloc (unhide HB).size _)).trans (hb2.mono (by have := (unhide HB).size; simp; omega))); have c2 : w2.cell? ⟨wr.heap.size, 0, none⟩ = some (.int .i64 p) := (hb2.cell (p := ⟨wr.heap.size, 0, none⟩) (lt_new _ _)).trans (new0 _ _ _ _); have c3 := ((unhide HB2).cell (p := ⟨g, o + m * 2, none⟩) (unhide HG)).trans (unhide HM); clear hb2 c0 c1)
            go_quiet (fail)
            go_wp2_with fail
            go_roundw
            case rel => exact ⟨k + 1, by omega, by go_num, unhide HNX, below_drewN (unhide HB2) _⟩
            case measure => simp [intOf]; omega
        · have HNX : Hid (C = Vc.chk (prevP ds (k + 1)) (ds.drop (k + 1))) := by
            have h := unhide HST
            have e : prevP ds k = -1 := by rw [show k = 0 by omega]; rfl
            rw [e, if_neg (show ¬ (p, c).1 ≤ -1 by show ¬ p ≤ -1; omega)] at h
            rw [unhide HC1, e]
            exact h
          have hgd : decide (0 < (k : Int)) = false := decide_eq_false (by omega)
          go_wp2_with (go_at_call 80; refine (unhide KD _).mono ?_; rintro e w2 ⟨rfl, hb2⟩; have HB2 := hide ((((unhide HB).alloc (unhide HB).size _)).trans (hb2.mono (by have := (unhide HB).size; simp; omega))); clear hb2 c0 c1)
          go_quiet (fail)
          go_wp2_with fail
          go_roundw
          case rel => exact ⟨k + 1, by omega, by go_num, unhide HNX, below_drewN (unhide HB2) _⟩
          case measure => simp [intOf]; omega
      · have HNX : Hid (C = Vc.dotErr (p, c)) := by
          have h := unhide HST
          rw [if_pos (by simpa using he)] at h
          exact hide (by rw [unhide HC1, h])
        have heb : (Vc.dotErr (p, c) != 0) = true := bne_iff_ne.2 he
        generalize Vc.dotErr (p, c) = E at *
        clear he
        go_wp2_with (go_at_call 80; refine (unhide KD _).mono ?_; rintro e w2 ⟨rfl, hb2⟩; have HB2 := hide ((((unhide HB).alloc (unhide HB).size _)).trans (hb2.mono (by have := (unhide HB).size; simp; omega))); clear hb2 c0 c1)
        go_ret
        exact ⟨ret_int (unhide HNX).symm, unhide HB2⟩
    · obtain rfl : k = ds.length := by omega
      have HNX : Hid (C = 0) := by rw [unhide HC1]; exact chk_end ds _
      go_wp2_with fail
      go_ret
      exact ⟨ret_int (unhide HNX).symm, unhide HB⟩
set_option maxRecDepth 100000 in
set_option maxHeartbeats 1000000 in
theorem refCheck_any (a : Option Addr) (cap : Nat) (ds : List Vc.D) (hl : ds.length ≤ 9223372036854775807) (w : World) (h : Sl w a ds) :
    Calls Tryd.prog 63 #[.slice a ds.length cap] w fun e w' => e = .returned (.int .i64 (Vc.check ds)) ∧ Below w.heap.size w w' := by
  have HS := hide h
  have HC := hide (show Vc.check ds = Vc.chk (prevP ds 0) (ds.drop 0) from rfl)
  obtain ⟨C, hC⟩ : ∃ C, Vc.check ds = C := ⟨_, rfl⟩
  rw [hC] at HC ⊢
  clear h hC
  go_enter Tryd.func63, Tryd.ntmps63
  go_wp2_with fail
  go_loopw [3] (fun i wr => ∃ k : Nat, k ≤ ds.length ∧ i = .int .i64 k ∧ C = Vc.chk (prevP ds k) (ds.drop k) ∧ Below w.heap.size w wr) (fun i _ => ds.length - (intOf i).toNat)
  case atStart => exact ⟨0, Nat.zero_le _, rfl, unhide HC, Below.refl _ _⟩
  case round =>
    obtain ⟨k, hk, rfl, hc, hb⟩ := hrel
    have HC1 := hide hc
    have HB := hide hb
    clear hc hb HC
    by_cases hlt : k < ds.length
    · obtain ⟨d, hd⟩ : ∃ d, ds[k]? = some d := ⟨_, List.getElem?_eq_getElem hlt⟩
      obtain ⟨g, o, rfl, hg, hcell⟩ := unhide HS (by omega)
      have HG := hide hg
      have HCell := hide hcell
      have HD := hide hd
      obtain ⟨p, c⟩ := d
      have c0 : wr.cell? ⟨g, o + k * 2, none⟩ = some (.int .i64 p) := ((unhide HB).cell (p := ⟨g, o + k * 2, none⟩) hg).trans (hcell k _ hd).1
      have c1 : wr.cell? ⟨g, o + k * 2 + 1, none⟩ = some (.int .i64 c) := ((unhide HB).cell (p := ⟨g, o + k * 2 + 1, none⟩) hg).trans (hcell k _ hd).2
      clear hd hg hcell
      have KD := hide (refDot_any p c)
      have HST := hide (chk_step ds k (p, c) (unhide HD))
      by_cases he : Vc.dotErr (p, c) = 0
      · have hok := (Vc.dotErr_zero (p, c)).1 he
        have hp0 : 0 ≤ p := hok.1
        clear hok
        rw [he] at KD
        rw [if_neg (by simpa using he)] at HST
        clear he
        by_cases hk0 : 0 < k
        · obtain ⟨m, hm⟩ : ∃ m, k = m + 1 := ⟨k - 1, by omega⟩
          obtain ⟨⟨p', c'⟩, hd'⟩ : ∃ d, ds[m]? = some d := ⟨_, List.getElem?_eq_getElem (by omega)⟩
          have e' : prevP ds k = p' := by rw [hm]; exact prev_at ds m _ hd'
          rw [e'] at HST
          have HM : Hid (w.cell? ⟨g, o + m * 2, none⟩ = some (.int .i64 p')) := ((unhide HCell) m _ hd').1
          have HK : Hid (w.cell? ⟨g, o + k * 2, none⟩ = some (.int .i64 p)) := ((unhide HCell) k _ (unhide HD)).1
          have hmi : (k : Int) - 1 = (m : Int) := by omega
          have hmw : IntKind.i64.wrap ((k : Int) - 1) = (m : Int) := by rw [hmi]; exact wrap_small (by omega) (by omega)
          have hml : m < ds.length := by omega
          have hgi : (0 : Int) < (k : Int) := by omega
          have HMK : Hid (k = m + 1) := hm
          clear hd' hm
          by_cases hle : p ≤ p'
          · have HNX : Hid (C = 8) := by
              have h := unhide HST
              rw [if_pos (show (p, c).1 ≤ p' from hle)] at h
              exact hide (by rw [unhide HC1, e', h])
            clear e'
            go_wp2_with (go_at_call 71; refine (unhide KD _).mono ?_; rintro e w2 ⟨rfl, hb2⟩; have HB2 := hide (below_grow (unhide HB) (Nat.le_refl _) hb2); have c2 := ((unhide HB2).cell (p := ⟨g, o + k * 2, none⟩) (unhide HG)).trans (unhide HK); have c3 := ((unhide HB2).cell (p := ⟨g, o + m * 2, none⟩) (unhide HG)).trans (unhide HM); clear hb2 c0 c1)
            go_quiet (fail)
            go_wp2_with fail
            go_ret
            exact ⟨ret_int (unhide HNX).symm, below_drewN (unhide HB2) _⟩
          · have HNX : Hid (C = Vc.chk (prevP ds (k + 1)) (ds.drop (k + 1))) := by
              have h := unhide HST
              rw [if_neg (show ¬ (p, c).1 ≤ p' from hle)] at h
              exact hide (by rw [unhide HC1, e', h])
            clear e'
            go_wp2_with (go_at_call 71; refine (unhide KD _).mono ?_; rintro e w2 ⟨rfl, hb2⟩; have HB2 := hide (below_grow (unhide HB) (Nat.le_refl _) hb2); have c2 := ((unhide HB2).cell (p := ⟨g, o + k * 2, none⟩) (unhide HG)).trans (unhide HK); have c3 := ((unhide HB2).cell (p := ⟨g, o + m * 2, none⟩) (unhide HG)).trans (unhide HM); clear hb2 c0 c1)
            go_quiet (fail)
            go_wp2_with fail
            go_roundw
            case rel => exact ⟨k + 1, by omega, by go_num, unhide HNX, below_drewN (unhide HB2) _⟩
            case measure => simp [intOf]; omega
        · have HNX : Hid (C = Vc.chk (prevP ds (k + 1)) (ds.drop (k + 1))) := by
            have h := unhide HST
            have e : prevP ds k = -1 := by rw [show k = 0 by omega]; rfl
            rw [e, if_neg (show ¬ (p, c).1 ≤ -1 by show ¬ p ≤ -1; omega)] at h
            rw [unhide HC1, e]
            exact h
          have hgd : decide (0 < (k : Int)) = false := decide_eq_false (by omega)
          go_wp2_with (go_at_call 71; refine (unhide KD _).mono ?_; rintro e w2 ⟨rfl, hb2⟩; have HB2 := hide (below_grow (unhide HB) (Nat.le_refl _) hb2); clear hb2 c0 c1)
          go_quiet (fail)
          go_wp2_with fail
          go_roundw
          case rel => exact ⟨k + 1, by omega, by go_num, unhide HNX, below_drewN (unhide HB2) _⟩
          case measure => simp [intOf]; omega
      · have HNX : Hid (C = Vc.dotErr (p, c)) := by
          have h := unhide HST
          rw [if_pos (by simpa using he)] at h
          exact hide (by rw [unhide HC1, h])
        have heb : (Vc.dotErr (p, c) != 0) = true := bne_iff_ne.2 he
        generalize Vc.dotErr (p, c) = E at *
        clear he
        go_wp2_with (go_at_call 71; refine (unhide KD _).mono ?_; rintro e w2 ⟨rfl, hb2⟩; have HB2 := hide (below_grow (unhide HB) (Nat.le_refl _) hb2); clear hb2 c0 c1)
        go_ret
        exact ⟨ret_int (unhide HNX).symm, unhide HB2⟩
    · obtain rfl : k = ds.length := by omega
      have HNX : Hid (C = 0) := by rw [unhide HC1]; exact chk_end ds _
      go_wp2_with fail
      go_ret
      exact ⟨ret_int (unhide HNX).symm, unhide HB⟩
end Go.Proofs.YthchcjjpplcfnaaDoor

namespace Go.Proofs.YthchcjjpplcfnaaDoor
open Go.RowKit Go.Shelf

attribute [local go_sem] Oper.semAt_some

theorem below_drew {B : Nat} {a w : World} (h : Below B a w) : Below B a w.drew := ⟨h.os, h.tape, h.output, h.size, h.block⟩

/-- A slice of dots below a block. -/
def SlB (n : Nat) (W : World) (a : Option Addr) (ds : List Vc.D) : Prop :=
  0 < ds.length → ∃ g o, a = some ⟨g, o, none⟩ ∧ g < n ∧ ∀ (j : Nat) (d : Vc.D), ds[j]? = some d → W.cell? ⟨g, o + j * 2, none⟩ = some (.int .i64 d.1) ∧ W.cell? ⟨g, o + j * 2 + 1, none⟩ = some (.int .i64 d.2)
theorem Sl.b {W : World} {a : Option Addr} {ds : List Vc.D} (h : Sl W a ds) : SlB W.heap.size W a ds := h
theorem SlB.sl {n : Nat} {W : World} {a : Option Addr} {ds : List Vc.D} (h : SlB n W a ds) (hn : n ≤ W.heap.size) : Sl W a ds := fun h0 => by
  obtain ⟨g, o, e, hg, hc⟩ := h h0
  exact ⟨g, o, e, by omega, hc⟩
theorem SlB.below {n : Nat} {W W' : World} {a : Option Addr} {ds : List Vc.D} (h : SlB n W a ds) (hb : Below n W W') : SlB n W' a ds := fun h0 => by
  obtain ⟨g, o, e, hg, hc⟩ := h h0
  refine ⟨g, o, e, hg, fun j d hj => ?_⟩
  rw [hb.cell (p := ⟨g, o + j * 2, none⟩) hg, hb.cell (p := ⟨g, o + j * 2 + 1, none⟩) hg]
  exact hc j d hj
theorem SlB.tail {n g o : Nat} {W : World} {d : Vc.D} {ds : List Vc.D} (h : SlB n W (some ⟨g, o, none⟩) (d :: ds)) : SlB n W (some ⟨g, o + 2, none⟩) ds := fun _ => by
  obtain ⟨g', o', e, hg, hc⟩ := h (by simp)
  cases e
  refine ⟨g, o + 2, rfl, hg, fun j x hj => ?_⟩
  have := hc (j + 1) x (by simpa using hj)
  rw [show o + 2 + j * 2 = o + (j + 1) * 2 by omega]
  exact this

/-- 's[1:]', whatever room is behind it. -/
theorem slice1 (g o n cap : Nat) (h : n + 1 ≤ cap) : ∃ A, (∀ w, (Instr.slice 62 (.slice (some ⟨g, o, none⟩) (n + 1) cap) (some (.int .i64 1)) none none).run Tryd.prog w = .ok (.slice A n (cap - 1)) w) ∧ (0 < n → A = some ⟨g, o + 2, none⟩) := by
  by_cases hc : cap = 1
  · subst hc
    refine ⟨some ⟨g, o, none⟩, fun w => ?_, fun h => by omega⟩
    go_simp
    rw [if_pos (by omega)]
    obtain rfl : n = 0 := by omega
    rfl
  · refine ⟨some ⟨g, o + 2, none⟩, fun w => ?_, fun h => rfl⟩
    go_simp
    intro h'
    omega
theorem SlB.cut {n g o : Nat} {W : World} {d : Vc.D} {ds : List Vc.D} (h : SlB n W (some ⟨g, o, none⟩) (d :: ds)) {A : Option Addr} (hA : 0 < ds.length → A = some ⟨g, o + 2, none⟩) : SlB n W A ds := fun h0 => by
  rw [hA h0]
  exact h.tail h0

theorem first_le {m : Int} {ds : List Vc.D} (h : Vc.Up m ds) : Vc.first ds ≤ 64 := by
  cases ds with
  | nil => exact Int.le_refl _
  | cons d l => have := h.1.2.1; show d.1 ≤ 64; omega
theorem first_cons {m : Int} {d : Vc.D} {ds : List Vc.D} (h : Vc.Up m (d :: ds)) : d.1 ≤ 63 := h.1.2.1
theorem up_first {m p : Int} {ds : List Vc.D} (h : Vc.Up m ds) (hp : p < Vc.first ds) : Vc.Up p ds := by
  cases ds with
  | nil => trivial
  | cons d l => exact ⟨h.1, hp, h.2.2⟩
theorem prefix_one {α : Type} (L pre r : List α) (s : α) (h : L = pre ++ s :: r) : pre ++ [s] <+: L := ⟨r, by rw [h]; simp⟩

def lenOf : Value → Nat
  | .slice _ n _ => n
  | _ => 0

set_option maxHeartbeats 400000 in
theorem sides_in (F : Fence) (n : Nat) (h67 : F.fn 88) (hro : F.round = none) (a b : Option Addr) (la ca lb cb : Nat) (w : World) :
    CallsIn F n Tryd.prog 88 #[.slice a la ca, .slice b lb cb] w fun e w' => e = .returned (.func (.func 90) #[] #[.pointer (some ⟨w.heap.size, 0, none⟩), .pointer (some ⟨w.heap.size + 1, 0, none⟩)]) ∧ w' = (w.alloc (.cells #[.slice a la ca] 62)).alloc (.cells #[.slice b lb cb] 62) := by
  refine callsIn_of_wp Tryd.func88 rfl h67 ?_ hro
  simp only [Tryd.ntmps88, List.size_toArray, List.length_cons, List.length_nil, Nat.reduceAdd, Nat.reduceSub, Array.replicate_succ, Array.replicate_zero, List.push_toArray, List.append_toArray, List.nil_append, List.cons_append]
  gi_wp2
  go_ret
  exact ⟨rfl, rfl⟩

set_option maxRecDepth 100000 in
set_option maxHeartbeats 400000 in
theorem first_in (F : Fence) (n : Nat) (h59 : F.fn 91) (hro : F.round = none) (a : Option Addr) (cap : Nat) (ds : List Vc.D) (hb : ds.length ≤ 9223372036854775807) (w : World) (h : Sl w a ds) :
    CallsIn F n Tryd.prog 91 #[.slice a ds.length cap] w fun e w' => e = .returned (.int .i64 (Vc.first ds)) ∧ w' = w := by
  cases ds with
  | nil =>
    refine callsIn_of_wp Tryd.func91 rfl h59 ?_ hro
    simp only [Tryd.ntmps91, List.size_toArray, List.length_cons, List.length_nil, Nat.reduceAdd, Nat.reduceSub, Array.replicate_succ, Array.replicate_zero, List.push_toArray, List.append_toArray, List.nil_append, List.cons_append]
    gi_wp2
    go_ret
    exact ⟨rfl, rfl⟩
  | cons d l =>
    obtain ⟨g, o, rfl, hg, hc⟩ := h (by simp)
    have c0 : w.cell? ⟨g, o, none⟩ = some (.int .i64 d.1) := (hc 0 d rfl).1
    obtain ⟨m, hm⟩ : ∃ m, (d :: l).length = m := ⟨_, rfl⟩
    have h0 : 0 < m := by rw [← hm]; simp
    rw [hm] at hb ⊢
    obtain ⟨f, hf⟩ : ∃ f, Vc.first (d :: l) = f := ⟨_, rfl⟩
    have e : d.1 = f := hf
    rw [hf]
    rw [e] at c0
    clear h hc hf hm e
    refine callsIn_of_wp Tryd.func91 rfl h59 ?_ hro
    simp only [Tryd.ntmps91, List.size_toArray, List.length_cons, List.length_nil, Nat.reduceAdd, Nat.reduceSub, Array.replicate_succ, Array.replicate_zero, List.push_toArray, List.append_toArray, List.nil_append, List.cons_append]
    gi_wp2
    go_ret
    exact ⟨rfl, rfl⟩

set_option maxRecDepth 100000 in
set_option maxHeartbeats 4000000 in
theorem sides1_in (n : Nat) (hn : 2 ≤ n) (l B1 B2 n₀ : Nat) (a b : Option Addr) (ca cb : Nat) (xs ys : List Vc.D) (hla : xs.length ≤ 64) (hlb : ys.length ≤ 64) (hca : xs.length ≤ ca) (hcb : ys.length ≤ cb)
    (ua : Vc.Up (-1) xs) (ub : Vc.Up (-1) ys) (J Jx : List (Vc.D × Vc.D) → World → Prop) (hJ : ∀ pre A B, J pre A → Below A.heap.size A B → J pre B)
    (hY : ∀ pre s W, J pre W → pre.length < 128 → YieldAt Fence.wide (n - 1) Tryd.prog l #[dotV s.1, dotV s.2] W fun e W' =>
      (e = .returned (.bool true) ∧ J (pre ++ [s]) W' ∧ Below n₀ W W') ∨ (e = .returned (.bool false) ∧ Jx (pre ++ [s]) W'))
    (W : World) (hn₀ : n₀ ≤ W.heap.size) (hB1 : W.cell? ⟨B1, 0, none⟩ = some (.slice a xs.length ca)) (hB2 : W.cell? ⟨B2, 0, none⟩ = some (.slice b ys.length cb)) (sa : SlB n₀ W a xs) (sb : SlB n₀ W b ys) (h0 : J [] W) :
    CallsIn Fence.wide n Tryd.prog 90 #[.func (.yield l) #[] #[], .pointer (some ⟨B1, 0, none⟩), .pointer (some ⟨B2, 0, none⟩)] W fun e W' => (∃ v, e = .returned v) ∧
      ((∃ zs, zs = Vc.sides xs ys ∧ J zs W') ∨ (∃ pre, pre <+: Vc.sides xs ys ∧ Jx pre W')) := by
  have HY := hide hY
  have HSA := hide sa
  have HSB := hide sb
  have HJ := hide hJ
  have HUA := hide ua
  have HUB := hide ub
  obtain ⟨L, hL⟩ : ∃ L, Vc.sides xs ys = L := ⟨_, rfl⟩
  have HLl : Hid (L.length ≤ 128) := hide (by rw [← hL]; have := Vc.sides_len xs ys; omega)
  have HL := hide hL
  rw [hL]
  clear hY sa sb hJ ua ub hL
  have h59 : Fence.wide.fn 91 := trivial
  refine callsIn_of_wp Tryd.func90 rfl trivial ?_ rfl
  simp only [Tryd.ntmps90, List.size_toArray, List.length_cons, List.length_nil, Nat.reduceAdd, Nat.reduceSub, Array.replicate_succ, Array.replicate_zero, List.push_toArray, List.append_toArray, List.nil_append, List.cons_append]
  gi_wp2
  gi_region
  gi_wp2
  gi_loopw [4, 5] (fun p q wr => ∃ (pre : List (Vc.D × Vc.D)) (x' y' : List Vc.D) (a' b' : Option Addr) (ca' cb' : Nat) (m : Int), p = .slice a' x'.length ca' ∧ q = .slice b' y'.length cb' ∧ x'.length ≤ ca' ∧ y'.length ≤ cb' ∧ x'.length ≤ 64 ∧ y'.length ≤ 64 ∧
      Vc.Up m x' ∧ Vc.Up m y' ∧ SlB n₀ wr a' x' ∧ SlB n₀ wr b' y' ∧ L = pre ++ Vc.sides x' y' ∧ n₀ ≤ wr.heap.size ∧ J pre wr) (fun p q _ => lenOf p + lenOf q)
  case atStart =>
    exact ⟨[], xs, ys, a, b, ca, cb, -1, rfl, rfl, hca, hcb, hla, hlb, unhide HUA, unhide HUB, (unhide HSA).below (below_drew (Below.refl _ _)), (unhide HSB).below (below_drew (Below.refl _ _)), (unhide HL).symm, hn₀, unhide HJ _ _ _ h0 (below_drew (Below.refl _ _))⟩
  case round =>
    obtain ⟨pre, x', y', a', b', ca', cb', m, rfl, rfl, h1, h2, h3, h4, hux, huy, hsx, hsy, hL1, hw0, hJ1⟩ := hrel
    have HUX := hide hux
    have HUY := hide huy
    have HSX := hide hsx
    have HSY := hide hsy
    have HL1 := hide hL1
    have HJ1 := hide hJ1
    have KX := hide fun W' (h : Sl W' a' x') => first_in Fence.wide (n - 1) trivial rfl a' ca' x' (by omega) W' h
    have KY := hide fun W' (h : Sl W' b' y') => first_in Fence.wide (n - 1) trivial rfl b' cb' y' (by omega) W' h
    clear hux huy hsx hsy hL1 hJ1 HUA HUB HL HSA HSB hB1 hB2 h0
    rcases Int.lt_trichotomy (Vc.first x') (Vc.first y') with hlt | heq | hgt
    · cases x' with
      | nil => exact absurd (first_le (unhide HUY)) (by have : (64 : Int) < Vc.first y' := hlt; omega)
      | cons d x1 =>
        obtain ⟨p, c⟩ := d
        obtain ⟨g, o, rfl, hg, hcell⟩ := unhide HSX (by simp)
        obtain ⟨A1, hsl, hA1⟩ := slice1 g o x1.length ca' h1
        have HT := hide ((unhide HSX).cut hA1)
        clear hA1
        have c0 : wr.cell? ⟨g, o, none⟩ = some (.int .i64 p) := (hcell 0 _ rfl).1
        have c1 : wr.cell? ⟨g, o + 1, none⟩ = some (.int .i64 c) := (hcell 0 _ rfl).2
        have HG := hide hg
        clear hg hcell
        have hfx : Vc.first ((p, c) :: x1) = p := rfl
        rw [hfx] at hlt KX
        clear hfx
        have hlt0 := hide hlt
        obtain ⟨fy, hfy⟩ : ∃ fy, Vc.first y' = fy := ⟨_, rfl⟩
        rw [hfy] at hlt KY
        clear hfy
        have hmn : min p fy = p := by omega
        rw [List.length_cons] at KX ⊢ h1 h3
        gi_wp2_with fail
        refine ⟨fun _ => by omega, (unhide KX wr ((unhide HSX).sl hw0)).mono ?_⟩
        rintro e w1 ⟨rfl, hw⟩
        have hw' := hw.symm
        subst hw'
        gi_wp2_with fail
        refine ⟨fun _ => by omega, (unhide KY wr ((unhide HSY).sl hw0)).mono ?_⟩
        rintro e w1 ⟨rfl, hw⟩
        have hw' := hw.symm
        subst hw'
        gi_wp2_with fail
        have HB2 := hide (((Below.refl wr.heap.size wr).alloc (Nat.le_refl _) (.cells #[.int .i64 p, .int .i64 0] 61)).alloc (by simp) (.cells #[.int .i64 p, .int .i64 0] 61))
        refine ⟨fun _ => by omega, (unhide KX _ (((unhide HSX).sl hw0).after (unhide HB2))).mono ?_⟩
        rintro e w1 ⟨rfl, hw⟩
        have hw' := hw.symm
        subst hw'
        have c0' := ((unhide HB2).cell (block_lt_of_cell c0)).trans c0
        have c1' := ((unhide HB2).cell (block_lt_of_cell c1)).trans c1
        gi_wp2_with fail
        gi_region
        gi_wp2_with fail
        have HB3 := hide (below_drew (((Below.refl wr.heap.size wr).alloc (Nat.le_refl _) (.cells #[.int .i64 p, .int .i64 c] 61)).alloc (by simp) (.cells #[.int .i64 p, .int .i64 0] 61)))
        refine ⟨fun _ => by omega, (unhide KY _ (((unhide HSY).sl hw0).after (unhide HB3))).mono ?_⟩
        rintro e w1 ⟨rfl, hw⟩
        have hw' := hw.symm
        subst hw'
        have hlen : pre.length < 128 := by
          have := unhide HLl
          rw [unhide HL1, List.length_append, Vc.sides_left (p, c) x1 y' (unhide hlt0), List.length_cons] at this
          omega
        obtain ⟨fn, tmps, assign, body, hy, hR⟩ := unhide HY pre ((p, c), (p, 0)) _ (unhide HJ _ _ _ (unhide HJ1) (unhide HB3)) hlen
        have hne : (fy == p) = false := by rw [beq_eq_false_iff_ne]; omega
        simp only [dotV] at hy
        gi_wp2_with fail
        refine ⟨fun _ => by omega, hR.mono ?_⟩
        rintro e W3 (⟨rfl, hJ3, hk3⟩ | ⟨rfl, hJx3⟩)
        · have HB4 := hide (((unhide HB3).mono hw0).trans hk3)
          have HJ3 := hide hJ3
          clear hJ3 hk3 hy hR c0 c1 c0' c1' hsl
          gi_wp2_with fail
          go_roundw
          case rel => exact ⟨pre ++ [((p, c), (p, 0))], x1, y', A1, b', ca' - 1, cb', p, rfl, rfl, by omega, h2, by omega, h4, (unhide HUX).2.2, up_first (unhide HUY) (unhide hlt0), (unhide HT).below (unhide HB4), (unhide HSY).below (unhide HB4), by rw [unhide HL1, Vc.sides_left (p, c) x1 y' (unhide hlt0)]; simp, Nat.le_trans hw0 (unhide HB4).size, unhide HJ3⟩
          case measure => simp only [lenOf]; omega
        · have HJx3 := hide hJx3
          clear hJx3 hy hR c0 c1 c0' c1' hsl
          gi_wp2_with fail
          refine bodyPost_ret (results_none rfl _ _ _) rfl ?_
          exact ⟨⟨_, rfl⟩, .inr ⟨pre ++ [((p, c), (p, 0))], prefix_one _ _ (Vc.sides x1 y') _ (by rw [unhide HL1, Vc.sides_left (p, c) x1 y' (unhide hlt0)]), unhide HJx3⟩⟩
    · cases x' with
      | nil =>
        cases y' with
        | nil =>
          rw [show Vc.sides [] [] = [] by rw [Vc.sides], List.append_nil] at HL1
          gi_wp2_with fail
          go_end0
          exact ⟨⟨_, rfl⟩, .inl (by rw [unhide HL1]; exact unhide HJ1)⟩
        | cons d y1 => exact absurd (first_cons (unhide HUY)) (by have : (64 : Int) = d.1 := heq; omega)
      | cons d x1 =>
        cases y' with
        | nil => exact absurd (first_cons (unhide HUX)) (by have : d.1 = (64 : Int) := heq; omega)
        | cons d' y1 =>
          obtain ⟨p, c⟩ := d
          obtain ⟨p', c'⟩ := d'
          have hpp : p = p' := heq
          subst hpp
          obtain ⟨g, o, rfl, hg, hcell⟩ := unhide HSX (by simp)
          obtain ⟨g2, o2, rfl, hg2, hcell2⟩ := unhide HSY (by simp)
          obtain ⟨A1, hsl, hA1⟩ := slice1 g o x1.length ca' h1
          have HT := hide ((unhide HSX).cut hA1)
          clear hA1
          obtain ⟨A2, hsl2, hA2⟩ := slice1 g2 o2 y1.length cb' h2
          have HT2 := hide ((unhide HSY).cut hA2)
          clear hA2
          have c0 : wr.cell? ⟨g, o, none⟩ = some (.int .i64 p) := (hcell 0 _ rfl).1
          have c1 : wr.cell? ⟨g, o + 1, none⟩ = some (.int .i64 c) := (hcell 0 _ rfl).2
          have c2 : wr.cell? ⟨g2, o2, none⟩ = some (.int .i64 p) := (hcell2 0 _ rfl).1
          have c3 : wr.cell? ⟨g2, o2 + 1, none⟩ = some (.int .i64 c') := (hcell2 0 _ rfl).2
          clear hg hcell hg2 hcell2 heq
          have hfx : Vc.first ((p, c) :: x1) = p := rfl
          have hfy : Vc.first ((p, c') :: y1) = p := rfl
          rw [hfx] at KX
          rw [hfy] at KY
          clear hfx hfy
          have hmn : min p p = p := by omega
          rw [List.length_cons] at KX h1 h3
          rw [List.length_cons] at KY h2 h4
          rw [List.length_cons, List.length_cons]
          gi_wp2_with fail
          refine ⟨fun _ => by omega, (unhide KX wr ((unhide HSX).sl hw0)).mono ?_⟩
          rintro e w1 ⟨rfl, hw⟩
          have hw' := hw.symm
          subst hw'
          gi_wp2_with fail
          refine ⟨fun _ => by omega, (unhide KY wr ((unhide HSY).sl hw0)).mono ?_⟩
          rintro e w1 ⟨rfl, hw⟩
          have hw' := hw.symm
          subst hw'
          gi_wp2_with fail
          have HB2 := hide (((Below.refl wr.heap.size wr).alloc (Nat.le_refl _) (.cells #[.int .i64 p, .int .i64 0] 61)).alloc (by simp) (.cells #[.int .i64 p, .int .i64 0] 61))
          refine ⟨fun _ => by omega, (unhide KX _ (((unhide HSX).sl hw0).after (unhide HB2))).mono ?_⟩
          rintro e w1 ⟨rfl, hw⟩
          have hw' := hw.symm
          subst hw'
          have c0' := ((unhide HB2).cell (block_lt_of_cell c0)).trans c0
          have c1' := ((unhide HB2).cell (block_lt_of_cell c1)).trans c1
          gi_wp2_with fail
          gi_region
          gi_wp2_with fail
          have HB3 := hide (below_drew (((Below.refl wr.heap.size wr).alloc (Nat.le_refl _) (.cells #[.int .i64 p, .int .i64 c] 61)).alloc (by simp) (.cells #[.int .i64 p, .int .i64 0] 61)))
          refine ⟨fun _ => by omega, (unhide KY _ (((unhide HSY).sl hw0).after (unhide HB3))).mono ?_⟩
          rintro e w1 ⟨rfl, hw⟩
          have hw' := hw.symm
          subst hw'
          have c2' := ((unhide HB3).cell (block_lt_of_cell c2)).trans c2
          have c3' := ((unhide HB3).cell (block_lt_of_cell c3)).trans c3
          gi_wp2_with fail
          gi_region
          have HB5 := hide (below_drew (below_drew (((Below.refl wr.heap.size wr).alloc (Nat.le_refl _) (.cells #[.int .i64 p, .int .i64 c] 61)).alloc (by simp) (.cells #[.int .i64 p, .int .i64 c'] 61))))
          have hlen : pre.length < 128 := by
            have := unhide HLl
            rw [unhide HL1, List.length_append, Vc.sides_both (p, c) (p, c') x1 y1 rfl, List.length_cons] at this
            omega
          obtain ⟨fn, tmps, assign, body, hy, hR⟩ := unhide HY pre ((p, c), (p, c')) _ (unhide HJ _ _ _ (unhide HJ1) (unhide HB5)) hlen
          simp only [dotV] at hy
          gi_wp2_with fail
          refine ⟨fun _ => by omega, hR.mono ?_⟩
          rintro e W3 (⟨rfl, hJ3, hk3⟩ | ⟨rfl, hJx3⟩)
          · have HB4 := hide (((unhide HB5).mono hw0).trans hk3)
            have HJ3 := hide hJ3
            clear hJ3 hk3 hy hR c0 c1 c0' c1' c2 c3 c2' c3' hsl hsl2
            gi_wp2_with fail
            go_roundw
            case rel => exact ⟨pre ++ [((p, c), (p, c'))], x1, y1, A1, A2, ca' - 1, cb' - 1, p, rfl, rfl, by omega, by omega, by omega, by omega, (unhide HUX).2.2, (unhide HUY).2.2, (unhide HT).below (unhide HB4), (unhide HT2).below (unhide HB4), by rw [unhide HL1, Vc.sides_both (p, c) (p, c') x1 y1 rfl]; simp, Nat.le_trans hw0 (unhide HB4).size, unhide HJ3⟩
            case measure => simp only [lenOf]; omega
          · have HJx3 := hide hJx3
            clear hJx3 hy hR c0 c1 c0' c1' c2 c3 c2' c3' hsl hsl2
            gi_wp2_with fail
            refine bodyPost_ret (results_none rfl _ _ _) rfl ?_
            exact ⟨⟨_, rfl⟩, .inr ⟨pre ++ [((p, c), (p, c'))], prefix_one _ _ (Vc.sides x1 y1) _ (by rw [unhide HL1, Vc.sides_both (p, c) (p, c') x1 y1 rfl]), unhide HJx3⟩⟩
    · cases y' with
      | nil => exact absurd (first_le (unhide HUX)) (by have : (64 : Int) < Vc.first x' := hgt; omega)
      | cons d y1 =>
        obtain ⟨p, c⟩ := d
        obtain ⟨g, o, rfl, hg, hcell⟩ := unhide HSY (by simp)
        obtain ⟨A1, hsl, hA1⟩ := slice1 g o y1.length cb' h2
        have HT := hide ((unhide HSY).cut hA1)
        clear hA1
        have c0 : wr.cell? ⟨g, o, none⟩ = some (.int .i64 p) := (hcell 0 _ rfl).1
        have c1 : wr.cell? ⟨g, o + 1, none⟩ = some (.int .i64 c) := (hcell 0 _ rfl).2
        clear hg hcell
        have hfy : Vc.first ((p, c) :: y1) = p := rfl
        rw [hfy] at hgt KY
        clear hfy
        have hgt0 := hide hgt
        obtain ⟨fx, hfx⟩ : ∃ fx, Vc.first x' = fx := ⟨_, rfl⟩
        rw [hfx] at hgt KX
        clear hfx
        have hmn : min fx p = p := by omega
        have hne : (fx == p) = false := by rw [beq_eq_false_iff_ne]; omega
        have hlen : pre.length < 128 := by
          have := unhide HLl
          rw [unhide HL1, List.length_append, Vc.sides_right (p, c) x' y1 (unhide hgt0), List.length_cons] at this
          omega
        rw [List.length_cons] at KY h2 h4
        cases x' with
        | nil =>
          rw [List.length_nil] at KX h1 h3
          rw [List.length_nil, List.length_cons]
          gi_wp2_with fail
          refine ⟨fun _ => by omega, (unhide KX wr ((unhide HSX).sl hw0)).mono ?_⟩
          rintro e w1 ⟨rfl, hw⟩
          have hw' := hw.symm
          subst hw'
          gi_wp2_with fail
          refine ⟨fun _ => by omega, (unhide KY wr ((unhide HSY).sl hw0)).mono ?_⟩
          rintro e w1 ⟨rfl, hw⟩
          have hw' := hw.symm
          subst hw'
          gi_wp2_with fail
          have HB2 := hide (((Below.refl wr.heap.size wr).alloc (Nat.le_refl _) (.cells #[.int .i64 p, .int .i64 0] 61)).alloc (by simp) (.cells #[.int .i64 p, .int .i64 0] 61))
          refine ⟨fun _ => by omega, (unhide KX _ (((unhide HSX).sl hw0).after (unhide HB2))).mono ?_⟩
          rintro e w1 ⟨rfl, hw⟩
          have hw' := hw.symm
          subst hw'
          gi_wp2_with fail
          refine ⟨fun _ => by omega, (unhide KY _ (((unhide HSY).sl hw0).after (unhide HB2))).mono ?_⟩
          rintro e w1 ⟨rfl, hw⟩
          have hw' := hw.symm
          subst hw'
          have c0' := ((unhide HB2).cell (block_lt_of_cell c0)).trans c0
          have c1' := ((unhide HB2).cell (block_lt_of_cell c1)).trans c1
          gi_wp2_with fail
          gi_region
          have HB3 := hide (below_drew (((Below.refl wr.heap.size wr).alloc (Nat.le_refl _) (.cells #[.int .i64 p, .int .i64 0] 61)).alloc (by simp) (.cells #[.int .i64 p, .int .i64 c] 61)))
          obtain ⟨fn, tmps, assign, body, hy, hR⟩ := unhide HY pre ((p, 0), (p, c)) _ (unhide HJ _ _ _ (unhide HJ1) (unhide HB3)) hlen
          simp only [dotV] at hy
          gi_wp2_with fail
          refine ⟨fun _ => by omega, hR.mono ?_⟩
          rintro e W3 (⟨rfl, hJ3, hk3⟩ | ⟨rfl, hJx3⟩)
          · have HB4 := hide (((unhide HB3).mono hw0).trans hk3)
            have HJ3 := hide hJ3
            clear hJ3 hk3 hy hR c0 c1 c0' c1' hsl
            gi_wp2_with fail
            go_roundw
            case rel => exact ⟨pre ++ [((p, 0), (p, c))], [], y1, a', A1, ca', cb' - 1, p, rfl, rfl, h1, by omega, h3, by omega, up_first (unhide HUX) (unhide hgt0), (unhide HUY).2.2, (unhide HSX).below (unhide HB4), (unhide HT).below (unhide HB4), by rw [unhide HL1, Vc.sides_right (p, c) [] y1 (unhide hgt0)]; simp, Nat.le_trans hw0 (unhide HB4).size, unhide HJ3⟩
            case measure => simp only [lenOf]; omega
          · have HJx3 := hide hJx3
            clear hJx3 hy hR c0 c1 c0' c1' hsl
            gi_wp2_with fail
            refine bodyPost_ret (results_none rfl _ _ _) rfl ?_
            exact ⟨⟨_, rfl⟩, .inr ⟨pre ++ [((p, 0), (p, c))], prefix_one _ _ (Vc.sides [] y1) _ (by rw [unhide HL1, Vc.sides_right (p, c) [] y1 (unhide hgt0)]), unhide HJx3⟩⟩
        | cons e0 x2 =>
          rw [List.length_cons] at KX h1 h3
          rw [List.length_cons, List.length_cons]
          gi_wp2_with fail
          refine ⟨fun _ => by omega, (unhide KX wr ((unhide HSX).sl hw0)).mono ?_⟩
          rintro e w1 ⟨rfl, hw⟩
          have hw' := hw.symm
          subst hw'
          gi_wp2_with fail
          refine ⟨fun _ => by omega, (unhide KY wr ((unhide HSY).sl hw0)).mono ?_⟩
          rintro e w1 ⟨rfl, hw⟩
          have hw' := hw.symm
          subst hw'
          gi_wp2_with fail
          have HB2 := hide (((Below.refl wr.heap.size wr).alloc (Nat.le_refl _) (.cells #[.int .i64 p, .int .i64 0] 61)).alloc (by simp) (.cells #[.int .i64 p, .int .i64 0] 61))
          refine ⟨fun _ => by omega, (unhide KX _ (((unhide HSX).sl hw0).after (unhide HB2))).mono ?_⟩
          rintro e w1 ⟨rfl, hw⟩
          have hw' := hw.symm
          subst hw'
          gi_wp2_with fail
          refine ⟨fun _ => by omega, (unhide KY _ (((unhide HSY).sl hw0).after (unhide HB2))).mono ?_⟩
          rintro e w1 ⟨rfl, hw⟩
          have hw' := hw.symm
          subst hw'
          have c0' := ((unhide HB2).cell (block_lt_of_cell c0)).trans c0
          have c1' := ((unhide HB2).cell (block_lt_of_cell c1)).trans c1
          gi_wp2_with fail
          gi_region
          have HB3 := hide (below_drew (((Below.refl wr.heap.size wr).alloc (Nat.le_refl _) (.cells #[.int .i64 p, .int .i64 0] 61)).alloc (by simp) (.cells #[.int .i64 p, .int .i64 c] 61)))
          obtain ⟨fn, tmps, assign, body, hy, hR⟩ := unhide HY pre ((p, 0), (p, c)) _ (unhide HJ _ _ _ (unhide HJ1) (unhide HB3)) hlen
          simp only [dotV] at hy
          gi_wp2_with fail
          refine ⟨fun _ => by omega, hR.mono ?_⟩
          rintro e W3 (⟨rfl, hJ3, hk3⟩ | ⟨rfl, hJx3⟩)
          · have HB4 := hide (((unhide HB3).mono hw0).trans hk3)
            have HJ3 := hide hJ3
            clear hJ3 hk3 hy hR c0 c1 c0' c1' hsl
            gi_wp2_with fail
            go_roundw
            case rel => exact ⟨pre ++ [((p, 0), (p, c))], (e0 :: x2), y1, a', A1, ca', cb' - 1, p, rfl, rfl, h1, by omega, h3, by omega, up_first (unhide HUX) (unhide hgt0), (unhide HUY).2.2, (unhide HSX).below (unhide HB4), (unhide HT).below (unhide HB4), by rw [unhide HL1, Vc.sides_right (p, c) (e0 :: x2) y1 (unhide hgt0)]; simp, Nat.le_trans hw0 (unhide HB4).size, unhide HJ3⟩
            case measure => simp only [lenOf]; omega
          · have HJx3 := hide hJx3
            clear hJx3 hy hR c0 c1 c0' c1' hsl
            gi_wp2_with fail
            refine bodyPost_ret (results_none rfl _ _ _) rfl ?_
            exact ⟨⟨_, rfl⟩, .inr ⟨pre ++ [((p, 0), (p, c))], prefix_one _ _ (Vc.sides (e0 :: x2) y1) _ (by rw [unhide HL1, Vc.sides_right (p, c) (e0 :: x2) y1 (unhide hgt0)]), unhide HJx3⟩⟩
end Go.Proofs.YthchcjjpplcfnaaDoor

namespace Go.Proofs.YthchcjjpplcfnaaDoor
open Go.RowKit Go.Shelf

attribute [local go_sem] Oper.semAt_some

def isVec (xs ys : List Vc.D) : Bool := (Vc.check xs == 0) && (Vc.check ys == 0)
theorem isVec_iff (xs ys : List Vc.D) : isVec xs ys = true ↔ Vc.check xs = 0 ∧ Vc.check ys = 0 := by
  unfold isVec
  rw [Bool.and_eq_true, beq_iff_eq, beq_iff_eq]

set_option maxRecDepth 100000 in
set_option maxHeartbeats 400000 in
theorem vectors_any (a b : Option Addr) (ca cb : Nat) (xs ys : List Vc.D) (hx : xs.length ≤ 9223372036854775807) (hy : ys.length ≤ 9223372036854775807) (w : World) (sa : Sl w a xs) (sb : Sl w b ys) :
    Calls Tryd.prog 87 #[.slice a xs.length ca, .slice b ys.length cb] w fun e w' => e = .returned (.bool (isVec xs ys)) ∧ Below w.heap.size w w' := by
  have K1 := hide (check_any a ca xs hx w sa)
  have K2 := hide fun w' (h : Sl w' b ys) => check_any b cb ys hy w' h
  have HSB := hide sb
  unfold isVec
  clear sa sb hx hy
  by_cases hz : Vc.check xs = 0
  · rw [hz] at K1 ⊢
    obtain ⟨C, hC⟩ : ∃ C, Vc.check ys = C := ⟨_, rfl⟩
    rw [hC] at K2 ⊢
    clear hC hz
    go_enter Tryd.func87, Tryd.ntmps87
    go_wp2_with fail
    refine (unhide K1).mono ?_
    rintro e w1 ⟨rfl, hb1⟩
    have HB1 := hide hb1
    have HS1 := hide ((unhide HSB).after hb1)
    clear hb1
    go_wp2_with fail
    refine (unhide K2 _ (unhide HS1)).mono ?_
    rintro e w2 ⟨rfl, hb2⟩
    have HB2 := hide (below_grow (unhide HB1) (Nat.le_refl _) hb2)
    clear hb2
    go_wp2_with fail
    go_ret
    exact ⟨by first | rfl | simp, unhide HB2⟩
  · have hzb : (Vc.check xs == 0) = false := beq_eq_false_iff_ne.2 hz
    rw [hzb, Bool.false_and]
    generalize Vc.check xs = C at *
    clear hz
    go_enter Tryd.func87, Tryd.ntmps87
    go_wp2_with fail
    refine (unhide K1).mono ?_
    rintro e w1 ⟨rfl, hb1⟩
    have HB1 := hide hb1
    clear hb1
    go_wp2_with fail
    go_ret
    exact ⟨rfl, unhide HB1⟩

/-- The cells of dots. -/
def flat : List Vc.D → List Value
  | [] => []
  | d :: l => .int .i64 d.1 :: .int .i64 d.2 :: flat l
theorem flat_len : ∀ l : List Vc.D, (flat l).length = l.length * 2
  | [] => rfl
  | d :: l => by simp [flat, flat_len l]; omega
theorem flat_append : ∀ l m : List Vc.D, flat (l ++ m) = flat l ++ flat m
  | [], _ => rfl
  | d :: l, m => by simp [flat, flat_append l m]
theorem flat_get : ∀ (l : List Vc.D) (j : Nat) (d : Vc.D), l[j]? = some d → (flat l)[j * 2]? = some (.int .i64 d.1) ∧ (flat l)[j * 2 + 1]? = some (.int .i64 d.2)
  | [], j, d, h => by simp at h
  | e :: l, 0, d, h => by
    simp at h
    subst h
    exact ⟨rfl, rfl⟩
  | e :: l, j + 1, d, h => by
    have := flat_get l j d (by simpa using h)
    rw [show (j + 1) * 2 = j * 2 + 1 + 1 by omega]
    simpa [flat] using this

theorem own_sl {W : World} {base : Nat} {v : Value} {n : Nat} {ds : List Vc.D} (hn : ds.length = n) (h : W.ownsRow base 61 2 v n (flat ds)) : ∃ a cap, v = .slice a ds.length cap ∧ ds.length ≤ cap ∧ Sl W a ds := by
  subst hn
  rcases h.2 with ⟨rfl, h0⟩ | ⟨g, cap, cur, rfl, hg, hh, h1, h2, h3, h4⟩
  · exact ⟨none, 0, by rw [h0], by omega, fun h => by omega⟩
  · refine ⟨_, cap, rfl, h1, fun _ => ⟨g, 0, rfl, (Array.getElem?_eq_some_iff.1 hh).1, fun j d hj => ?_⟩⟩
    have hjl : j < ds.length := (List.getElem?_eq_some_iff.1 hj).1
    obtain ⟨f1, f2⟩ := flat_get ds j d hj
    have e1 : ∀ k u, k < ds.length * 2 → (flat ds)[k]? = some u → W.cell? ⟨g, k, none⟩ = some u := by
      intro k u hk hu
      rw [cell_of_row W g k cur 61 (0, 0) hh]
      have h5 : (cur.toList.take (ds.length * 2))[k]? = (flat ds)[k]? := by rw [h4]
      rw [List.getElem?_take_of_lt hk, hu] at h5
      simpa using h5
    rw [Nat.zero_add]
    exact ⟨e1 _ _ (by omega) f1, e1 _ _ (by omega) f2⟩

/-- What lies in blocks that are new. -/
def Fresh (n : Nat) (r : Option Addr) (ds : List Vc.D) : Prop := ∀ ad, r = some ad → 0 < ds.length → n ≤ ad.block
theorem own_slF {W : World} {base : Nat} {v : Value} {n : Nat} {ds : List Vc.D} (hn : ds.length = n) (h : W.ownsRow base 61 2 v n (flat ds)) : ∃ a cap, v = .slice a ds.length cap ∧ ds.length ≤ cap ∧ Sl W a ds ∧ Fresh base a ds := by
  obtain ⟨a, cap, rfl, h1, h2⟩ := own_sl hn h
  refine ⟨a, cap, rfl, h1, h2, fun ad e h0 => ?_⟩
  rcases h.2 with ⟨e1, h0'⟩ | ⟨g, cap', cur, e1, hg, _⟩
  · omega
  · injection e1 with e1
    rw [e] at e1
    injection e1 with e1
    subst e1
    exact hg

theorem sides_stops (n : Nat) (hn : 2 ≤ n) (B1 B2 n₀ : Nat) (a b : Option Addr) (ca cb : Nat) (xs ys : List Vc.D) (hla : xs.length ≤ 64) (hlb : ys.length ≤ 64) (hca : xs.length ≤ ca) (hcb : ys.length ≤ cb)
    (ua : Vc.Up (-1) xs) (ub : Vc.Up (-1) ys) (w : World) (hn₀ : n₀ ≤ w.heap.size) (h1 : Boxed w B1 62 (.slice a xs.length ca)) (h2 : Boxed w B2 62 (.slice b ys.length cb)) (sa : SlB n₀ w a xs) (sb : SlB n₀ w b ys) :
    SeqStopsK Fence.wide n Tryd.prog 90 #[.pointer (some ⟨B1, 0, none⟩), .pointer (some ⟨B2, 0, none⟩)] (fun s : Vc.D × Vc.D => #[dotV s.1, dotV s.2]) (Below n₀) (fun zs => zs = Vc.sides xs ys) (fun pre => pre <+: Vc.sides xs ys) 128 w := fun l J Jx W hW hJ _ hY h0 =>
  sides1_in n hn l B1 B2 n₀ a b ca cb xs ys hla hlb hca hcb ua ub J Jx (fun pre A B h hb => hJ pre A B none h ⟨hb.os, hb.tape, hb.output, hb.size, fun k hk _ => hb.block k hk⟩ (fun r e => by cases e)) hY
    W (Nat.le_trans hn₀ hW.size) ((hW.cell (p := ⟨B1, 0, none⟩) h1.lt).trans h1.cell) ((hW.cell (p := ⟨B2, 0, none⟩) h2.lt).trans h2.cell) (sa.below (hW.mono hn₀)) (sb.below (hW.mono hn₀)) h0

theorem VRow.own {β : Type} (B T : Nat) (vs : List Value) : Own (fun (_ : β) W => VRow W B T vs) := fun _ X _ _ hs hg hrow =>
  (hg.block B hs.lt (fun e' => by obtain ⟨o, ho, hc⟩ := hrow B e'.symm; rw [show X.heap[B]? = _ from hs] at ho; cases ho; cases hc)).trans hs

theorem info61 : (Tryd.prog.info? 61).map (fun i => (i.zero, i.size, i.bytes)) = some (some (.agg #[.int .i64 0, .int .i64 0]), 2, 16) := by kernel_rfl

set_option maxRecDepth 100000 in
set_option maxHeartbeats 2000000 in
theorem join_in (a b : Option Addr) (ca cb : Nat) (xs ys : List Vc.D) (hx : xs.length ≤ 9223372036854775807) (hy : ys.length ≤ 9223372036854775807) (hca : xs.length ≤ ca) (hcb : ys.length ≤ cb) (w : World) (sa : Sl w a xs) (sb : Sl w b ys) :
    CallsIn Fence.wide 3 Tryd.prog 82 #[.slice a xs.length ca, .slice b ys.length cb] w fun e w' => ∃ r cap, e = .returned (.slice r (Vc.joins xs ys).length cap) ∧ (Vc.joins xs ys).length ≤ cap ∧ Sl w' r (Vc.joins xs ys) ∧ Below w.heap.size w w' ∧ Fresh w.heap.size r (Vc.joins xs ys) := by
  have h53 : Fence.wide.fn 87 := trivial
  have h67 : Fence.wide.fn 88 := trivial
  obtain ⟨i0, hi, hz0, hz1, hz2⟩ := info_parts info61
  have KV := hide (vectors_any a b ca cb xs ys hx hy w sa sb)
  have HSA := hide sa.b
  have HSB := hide sb.b
  clear sa sb
  by_cases hv : isVec xs ys = true
  · have hvs := (isVec_iff xs ys).1 hv
    have ua := (Vc.check_zero xs).1 hvs.1
    have ub := (Vc.check_zero ys).1 hvs.2
    have HJ : Hid (Vc.joins xs ys = (Vc.sides xs ys).map Vc.jn) := by unfold Vc.joins; rw [if_pos hvs]; exact hide rfl
    have hla := Vc.vec_len ua
    have hlb := Vc.vec_len ub
    have HUA := hide ua
    have HUB := hide ub
    rw [hv] at KV
    clear hv hvs ua ub
    refine callsIn_of_wp_marks Tryd.func82 rfl trivial ?_ rfl
    simp only [Tryd.ntmps82, List.size_toArray, List.length_cons, List.length_nil, Nat.reduceAdd, Nat.reduceSub, Array.replicate_succ, Array.replicate_zero, List.push_toArray, List.append_toArray, List.nil_append, List.cons_append]
    gi_wp2_with (first
      | (gi_at_call 87; refine (callsIn_wide.2 (unhide KV)).mono ?_; rintro e w1 ⟨rfl, hb1⟩; have HB1 := hide hb1; clear hb1)
      | (gi_at_call 88; refine (sides_in Fence.wide 2 h67 rfl _ _ _ _ _ _ _).mono ?_; rintro e w' ⟨rfl, rfl⟩))
    have hs1 := (unhide HB1).size
    have bO := ((Boxed.new w1 62 (.slice none 0 0)).alloc (.cells #[.slice a xs.length ca] 62)).alloc (.cells #[.slice b ys.length cb] 62)
    have bA := (Boxed.new (w1.alloc (.cells #[.slice none 0 0] 62)) 62 (.slice a xs.length ca)).alloc (.cells #[.slice b ys.length cb] 62)
    have bB := Boxed.new ((w1.alloc (.cells #[.slice none 0 0] 62)).alloc (.cells #[.slice a xs.length ca] 62)) 62 (.slice b ys.length cb)
    simp only [World.size_alloc] at bA bB
    have hB0 : Below w.heap.size w (((w1.alloc (.cells #[.slice none 0 0] 62)).alloc (.cells #[.slice a xs.length ca] 62)).alloc (.cells #[.slice b ys.length cb] 62)) := (((unhide HB1).alloc hs1 _).alloc (by simp; omega) _).alloc (by simp; omega) _
    have hsz : (((w1.alloc (.cells #[.slice none 0 0] 62)).alloc (.cells #[.slice a xs.length ca] 62)).alloc (.cells #[.slice b ys.length cb] 62)).heap.size = w1.heap.size + 3 := by simp
    obtain ⟨W0, hW0⟩ : ∃ W0, ((w1.alloc (.cells #[.slice none 0 0] 62)).alloc (.cells #[.slice a xs.length ca] 62)).alloc (.cells #[.slice b ys.length cb] 62) = W0 := ⟨_, rfl⟩
    rw [hW0] at bO bA bB hB0 hsz ⊢
    clear hW0
    refine wpIn_rangeFunc_ownH rfl (by decide) (gf := 90) (lb := #[.pointer (some ⟨w1.heap.size + 1, 0, none⟩), .pointer (some ⟨w1.heap.size + 1 + 1, 0, none⟩)]) rfl trivial (enters_of Tryd.func90 (by kernel_rfl) rfl)
      (sides_stops 2 (Nat.le_refl _) (w1.heap.size + 1) (w1.heap.size + 1 + 1) w.heap.size a b ca cb xs ys hla hlb hca hcb (unhide HUA) (unhide HUB) W0 hB0.size bA bB ((unhide HSA).below hB0) ((unhide HSB).below hB0)) belowK_t (belowK_b (by omega)) (Below.refl _ _) (fun _ => rfl)
      (fun pre W => (∃ u, Boxed W w1.heap.size 62 u ∧ W.ownsRow w.heap.size 61 2 u pre.length (flat (pre.map Vc.jn)) ∧ True) ∧ Below w.heap.size w W)
      (fun _ _ _ => False)
      (OwnFrom.and (Own.from (holdsRow_own w.heap.size w1.heap.size 62 61 2 (fun pre : List (Vc.D × Vc.D) => pre.length) (fun pre => flat (pre.map Vc.jn)) (fun _ _ => True)) _) (ownFrom_below (Nat.le_refl _) (by omega)))
      (fun _ _ _ _ _ hs _ _ => hs)
      ⟨⟨_, bO, World.ownsRow_nil _ _ _ _, trivial⟩, hB0⟩
      (fun s a' W => ∃ Bx, w1.heap.size < Bx ∧ VRow W Bx 61 [.int .i64 s.1.1, .int .i64 s.1.2] ∧ VRow W (Bx + 1) 61 [.int .i64 s.2.1, .int .i64 s.2.2] ∧ a' = { tmps := #[.slice a xs.length ca, .slice b ys.length cb, undef, undef, .slice none 0 0, .pointer (some ⟨w1.heap.size, 0, none⟩), .pointer (some ⟨Bx, 0, none⟩), .pointer (some ⟨Bx + 1, 0, none⟩), .slice a xs.length ca, .slice b ys.length cb, .bool true, .bool false, .slice a xs.length ca, .slice b ys.length cb, .func (.func 90) #[] #[.pointer (some ⟨w1.heap.size + 1, 0, none⟩), .pointer (some ⟨w1.heap.size + 1 + 1, 0, none⟩)], dotV s.1, dotV s.2, undef, undef, undef, undef, undef, undef, undef, undef, undef, undef, undef, undef], defers := [] })
      (fun s a' _ X Y row hs hg hr => by obtain ⟨Bx, h1, h2, h3, h4⟩ := hs; exact ⟨Bx, h1, VRow.own Bx 61 _ () X Y row h2 hg (fun r e => (hr r e).2), VRow.own (Bx + 1) 61 _ () X Y row h3 hg (fun r e => (hr r e).2), h4⟩)
      ?assign ?body ?done ?stop
    case assign =>
      rintro l pre ⟨⟨p, c⟩, ⟨p', c'⟩⟩ W K ⟨⟨u, hv, hrow, _⟩, hB⟩ hK
      simp only [dotV]
      gi_wp2
      have hsW := hB.size
      exact hK _ _ (((KeepsOthers.alloc _ _).trans (KeepsOthers.alloc _ _)).from _) (((Below.refl _ W).alloc hsW _).alloc (by simp; omega) _) ⟨⟨u, (hv.alloc _).alloc _, (hrow.alloc _).alloc _, trivial⟩, (hB.alloc hsW _).alloc (by simp; omega) _⟩
        ⟨W.heap.size, hv.lt, (VRow.new W 61 [.int .i64 p, .int .i64 c]).alloc _, VRow.newAt (vs := [.int .i64 p', .int .i64 c']) (by simp), rfl⟩
    case body =>
      rintro l pre ⟨⟨p, c⟩, ⟨p', c'⟩⟩ a' W hl _ ⟨⟨u, hv, hrow, _⟩, hB⟩ ⟨Bx, hBx, hX, hY, rfl⟩ hlt
      have hc := hv.cell
      have x0 : W.cell? ⟨Bx, 0, none⟩ = some (.int .i64 p) := hX.cell 0 _ rfl
      have x1 : W.cell? ⟨Bx, 1, none⟩ = some (.int .i64 c) := hX.cell 1 _ rfl
      have y1 : W.cell? ⟨Bx + 1, 1, none⟩ = some (.int .i64 c') := hY.cell 1 _ rfl
      have HJN : Hid (flat ((pre ++ [((p, c), (p', c'))]).map Vc.jn) = flat (pre.map Vc.jn) ++ [.int .i64 p, .int .i64 (max c c')]) := hide (by rw [List.map_append, flat_append]; rfl)
      clear hX hY
      obtain ⟨m, hm⟩ : ∃ m, (if c < c' then c' else c) = m := ⟨_, rfl⟩
      rw [show max c c' = m by rw [← hm]; split <;> omega] at HJN
      gi_wp2_with (gi_at_builtin; refine wpListIn_append_own _ rfl _ _ 62 rfl w.heap.size 61 i0 _ 2 16 Tryd.underlying62 hi hz0 hz1 hz2 rfl (by decide) _ _ _ rfl (hrow.alloc _) ⟨W.heap.size, 0, none⟩ 1 1 [.int .i64 p, .int .i64 m] rfl rfl (cell_two_new _ _ _ _) (by simp [Value.oneCell']) (by unfold maxLen; omega) (by omega) (by have := hB.size; simp; omega) ?_; intro v' w2 hown' hgrow _; obtain ⟨g', cap', rfl⟩ := ownsRow_succ hown'; obtain ⟨hv1, hv2, hr2, hk2, hb2⟩ := hv.appended (by decide) hrow hB.size hs1 hown' hgrow; have hc1 := hv1.cell; have hf1 := hv1.frozen)
      have hr3 : (w2.setCell ⟨w1.heap.size, 0, none⟩ (.slice (some ⟨g', 0, none⟩) (pre.length + 1) cap')).ownsRow w.heap.size 61 2 (.slice (some ⟨g', 0, none⟩) (pre.length + 1) cap') (pre ++ [((p, c), (p', c'))]).length (flat ((pre ++ [((p, c), (p', c'))]).map Vc.jn)) := by
        rw [unhide HJN, List.length_append]
        exact hr2
      exact ⟨hk2.from _, hb2, ⟨_, hv2, by first | exact hr3 | exact ⟨hr3, trivial⟩⟩, hB.trans hb2⟩
    case done =>
      rintro D zs W hD rfl ⟨⟨u, hv, hrow, _⟩, hB⟩ hK
      have hc := hv.cell
      gi_wp2
      refine ⟨by simp, .inl ⟨_, _, rfl, run_takeDeferred hK, ?_⟩⟩
      have hlen : (Vc.joins xs ys).length = (Vc.sides xs ys).length := by rw [unhide HJ]; simp
      rw [← unhide HJ] at hrow
      obtain ⟨r, cap, rfl, hcap, hsl, hfr⟩ := own_slF hlen (ownsRow_putObj hrow (.deferred none) hK rfl)
      exact ⟨_, results_tmp rfl _ _ _, r, cap, rfl, hcap, hsl, hB.trans (belowK_b (w := w) (Nat.le_refl _) W D _ _ (by omega) hK rfl rfl), hfr⟩
    case stop =>
      rintro D c pre W _ _ h _
      exact h.elim
  · have hvs : ¬ (Vc.check xs = 0 ∧ Vc.check ys = 0) := fun h => hv ((isVec_iff xs ys).2 h)
    have hvf : isVec xs ys = false := by cases h : isVec xs ys with
      | false => rfl
      | true => exact absurd h hv
    have HJ : Hid (Vc.joins xs ys = []) := by unfold Vc.joins; rw [if_neg hvs]; exact hide rfl
    rw [hvf] at KV
    clear hv hvs hvf
    refine callsIn_of_wp_marks Tryd.func82 rfl trivial ?_ rfl
    simp only [Tryd.ntmps82, List.size_toArray, List.length_cons, List.length_nil, Nat.reduceAdd, Nat.reduceSub, Array.replicate_succ, Array.replicate_zero, List.push_toArray, List.append_toArray, List.nil_append, List.cons_append]
    gi_wp2_with (gi_at_call 87; refine (callsIn_wide.2 (unhide KV)).mono ?_; rintro e w1 ⟨rfl, hb1⟩; have HB1 := hide hb1; clear hb1)
    exact ⟨_, results_tmp rfl _ _ _, none, 0, by rw [unhide HJ]; rfl, by rw [unhide HJ]; exact Nat.le_refl _, by rw [unhide HJ]; exact Sl.none _ _, unhide HB1, fun _ e => by cases e⟩

theorem join_any (a b : Option Addr) (ca cb : Nat) (xs ys : List Vc.D) (hx : xs.length ≤ 9223372036854775807) (hy : ys.length ≤ 9223372036854775807) (hca : xs.length ≤ ca) (hcb : ys.length ≤ cb) (w : World) (sa : Sl w a xs) (sb : Sl w b ys) :
    Calls Tryd.prog 82 #[.slice a xs.length ca, .slice b ys.length cb] w fun e w' => ∃ r cap, e = .returned (.slice r (Vc.joins xs ys).length cap) ∧ (Vc.joins xs ys).length ≤ cap ∧ Sl w' r (Vc.joins xs ys) ∧ Below w.heap.size w w' :=
  (callsIn_wide.1 (join_in a b ca cb xs ys hx hy hca hcb w sa sb)).mono fun _ _ ⟨r, cap, h1, h2, h3, h4, _⟩ => ⟨r, cap, h1, h2, h3, h4⟩
theorem join_fresh (a b : Option Addr) (ca cb : Nat) (xs ys : List Vc.D) (hx : xs.length ≤ 9223372036854775807) (hy : ys.length ≤ 9223372036854775807) (hca : xs.length ≤ ca) (hcb : ys.length ≤ cb) (w : World) (sa : Sl w a xs) (sb : Sl w b ys) :
    Calls Tryd.prog 82 #[.slice a xs.length ca, .slice b ys.length cb] w fun e w' => ∃ r cap, e = .returned (.slice r (Vc.joins xs ys).length cap) ∧ (Vc.joins xs ys).length ≤ cap ∧ Sl w' r (Vc.joins xs ys) ∧ Below w.heap.size w w' ∧ Fresh w.heap.size r (Vc.joins xs ys) :=
  callsIn_wide.1 (join_in a b ca cb xs ys hx hy hca hcb w sa sb)
end Go.Proofs.YthchcjjpplcfnaaDoor

namespace Go.Proofs.YthchcjjpplcfnaaDoor
open Go.RowKit

theorem look_step (ds : List Vc.D) (k : Nat) (d : Vc.D) (p : Int) (h : ds[k]? = some d) : Vc.look (ds.drop k) p = if d.1 = p then d.2 else Vc.look (ds.drop (k + 1)) p := by
  have hk := (List.getElem?_eq_some_iff.1 h).1
  rw [List.drop_eq_getElem_cons hk, (List.getElem?_eq_some_iff.1 h).2]
  rfl
theorem look_end (ds : List Vc.D) (p : Int) : Vc.look (ds.drop ds.length) p = 0 := by rw [List.drop_length]; rfl

set_option maxRecDepth 100000 in
set_option maxHeartbeats 1000000 in
theorem get_any (a : Option Addr) (cap : Nat) (ds : List Vc.D) (hl : ds.length ≤ 9223372036854775807) (q : Int) (w : World) (h : Sl w a ds) :
    Calls Tryd.prog 81 #[.slice a ds.length cap, .int .i64 q] w fun e w' => e = .returned (.int .i64 (Vc.get ds q)) ∧ Below w.heap.size w w' := by
  have HS := hide h
  have KC := hide (check_any a cap ds hl w h)
  obtain ⟨G, hG⟩ : ∃ G, Vc.get ds q = G := ⟨_, rfl⟩
  rw [hG]
  by_cases hz : Vc.check ds = 0
  · have HC : Hid (G = Vc.look (ds.drop 0) q) := by rw [← hG]; unfold Vc.get; rw [if_pos hz]; exact hide rfl
    rw [hz] at KC
    clear h hG hz
    go_enter Tryd.func81, Tryd.ntmps81
    go_wp2_with (go_at_call 65; refine (unhide KC).mono ?_; rintro e w1 ⟨rfl, hb1⟩; have HB1 := hide hb1; clear hb1)
    go_loopw [12] (fun i wr => ∃ k : Nat, k ≤ ds.length ∧ i = .int .i64 k ∧ G = Vc.look (ds.drop k) q ∧ Below w.heap.size w wr) (fun i _ => ds.length - (intOf i).toNat)
    case atStart => exact ⟨0, Nat.zero_le _, rfl, unhide HC, unhide HB1⟩
    case round =>
      obtain ⟨k, hk, rfl, hc, hb⟩ := hrel
      have HC1 := hide hc
      have HB := hide hb
      clear hc hb HC
      by_cases hlt : k < ds.length
      · obtain ⟨⟨p, c⟩, hd⟩ : ∃ d, ds[k]? = some d := ⟨_, List.getElem?_eq_getElem hlt⟩
        obtain ⟨g, o, rfl, hg, hcell⟩ := unhide HS (by omega)
        have c0 : wr.cell? ⟨g, o + k * 2, none⟩ = some (.int .i64 p) := ((unhide HB).cell (p := ⟨g, o + k * 2, none⟩) hg).trans (hcell k _ hd).1
        have c1 : wr.cell? ⟨g, o + k * 2 + 1, none⟩ = some (.int .i64 c) := ((unhide HB).cell (p := ⟨g, o + k * 2 + 1, none⟩) hg).trans (hcell k _ hd).2
        have HST := hide (look_step ds k (p, c) q hd)
        clear hd hg hcell
        by_cases he : p = q
        · have HNX : Hid (G = c) := by
            have h := unhide HST
            rw [if_pos (show (p, c).1 = q from he)] at h
            exact hide (by rw [unhide HC1, h])
          have heb : (p == q) = true := beq_iff_eq.2 he
          clear he
          go_wp2_with fail
          go_ret
          exact ⟨ret_int (unhide HNX).symm, (unhide HB).alloc (unhide HB).size _⟩
        · have HNX : Hid (G = Vc.look (ds.drop (k + 1)) q) := by
            have h := unhide HST
            rw [if_neg (show ¬ (p, c).1 = q from he)] at h
            exact hide (by rw [unhide HC1, h])
          have heb : (p == q) = false := beq_eq_false_iff_ne.2 he
          clear he
          go_wp2_with fail
          go_roundw
          case rel => exact ⟨k + 1, by omega, by go_num, unhide HNX, (unhide HB).alloc (unhide HB).size _⟩
          case measure => simp [intOf]; omega
      · obtain rfl : k = ds.length := by omega
        have HNX : Hid (G = 0) := by rw [unhide HC1]; exact look_end ds q
        go_wp2_with fail
        go_ret
        exact ⟨ret_int (unhide HNX).symm, unhide HB⟩
  · have HC : Hid (G = 0) := by rw [← hG]; unfold Vc.get; rw [if_neg hz]; exact hide rfl
    have hzb : (Vc.check ds != 0) = true := bne_iff_ne.2 hz
    generalize Vc.check ds = C at *
    clear h hG hz
    go_enter Tryd.func81, Tryd.ntmps81
    go_wp2_with (go_at_call 65; refine (unhide KC).mono ?_; rintro e w1 ⟨rfl, hb1⟩; have HB1 := hide hb1; clear hb1)
    go_ret
    exact ⟨ret_int (unhide HC).symm, unhide HB1⟩

set_option maxRecDepth 100000 in
set_option maxHeartbeats 1000000 in
theorem refGet_any (a : Option Addr) (cap : Nat) (ds : List Vc.D) (hl : ds.length ≤ 9223372036854775807) (q : Int) (w : World) (h : Sl w a ds) :
    Calls Tryd.prog 84 #[.slice a ds.length cap, .int .i64 q] w fun e w' => e = .returned (.int .i64 (Vc.get ds q)) ∧ Below w.heap.size w w' := by
  have HS := hide h
  have KC := hide (refCheck_any a cap ds hl w h)
  obtain ⟨G, hG⟩ : ∃ G, Vc.get ds q = G := ⟨_, rfl⟩
  rw [hG]
  by_cases hz : Vc.check ds = 0
  · have HC : Hid (G = Vc.look (ds.drop 0) q) := by rw [← hG]; unfold Vc.get; rw [if_pos hz]; exact hide rfl
    rw [hz] at KC
    clear h hG hz
    go_enter Tryd.func84, Tryd.ntmps84
    go_wp2_with (go_at_call 63; refine (unhide KC).mono ?_; rintro e w1 ⟨rfl, hb1⟩; have HB1 := hide hb1; clear hb1)
    go_loopw [5] (fun i wr => ∃ k : Nat, k ≤ ds.length ∧ i = .int .i64 k ∧ G = Vc.look (ds.drop k) q ∧ Below w.heap.size w wr) (fun i _ => ds.length - (intOf i).toNat)
    case atStart => exact ⟨0, Nat.zero_le _, rfl, unhide HC, unhide HB1⟩
    case round =>
      obtain ⟨k, hk, rfl, hc, hb⟩ := hrel
      have HC1 := hide hc
      have HB := hide hb
      clear hc hb HC
      by_cases hlt : k < ds.length
      · obtain ⟨⟨p, c⟩, hd⟩ : ∃ d, ds[k]? = some d := ⟨_, List.getElem?_eq_getElem hlt⟩
        obtain ⟨g, o, rfl, hg, hcell⟩ := unhide HS (by omega)
        have c0 : wr.cell? ⟨g, o + k * 2, none⟩ = some (.int .i64 p) := ((unhide HB).cell (p := ⟨g, o + k * 2, none⟩) hg).trans (hcell k _ hd).1
        have c1 : wr.cell? ⟨g, o + k * 2 + 1, none⟩ = some (.int .i64 c) := ((unhide HB).cell (p := ⟨g, o + k * 2 + 1, none⟩) hg).trans (hcell k _ hd).2
        have HST := hide (look_step ds k (p, c) q hd)
        clear hd hg hcell
        by_cases he : p = q
        · have HNX : Hid (G = c) := by
            have h := unhide HST
            rw [if_pos (show (p, c).1 = q from he)] at h
            exact hide (by rw [unhide HC1, h])
          have heb : (p == q) = true := beq_iff_eq.2 he
          clear he
          go_wp2_with fail
          go_ret
          exact ⟨ret_int (unhide HNX).symm, unhide HB⟩
        · have HNX : Hid (G = Vc.look (ds.drop (k + 1)) q) := by
            have h := unhide HST
            rw [if_neg (show ¬ (p, c).1 = q from he)] at h
            exact hide (by rw [unhide HC1, h])
          have heb : (p == q) = false := beq_eq_false_iff_ne.2 he
          clear he
          go_wp2_with fail
          go_roundw
          case rel => exact ⟨k + 1, by omega, by go_num, unhide HNX, unhide HB⟩
          case measure => simp [intOf]; omega
      · obtain rfl : k = ds.length := by omega
        have HNX : Hid (G = 0) := by rw [unhide HC1]; exact look_end ds q
        go_wp2_with fail
        go_ret
        exact ⟨ret_int (unhide HNX).symm, unhide HB⟩
  · have HC : Hid (G = 0) := by rw [← hG]; unfold Vc.get; rw [if_neg hz]; exact hide rfl
    have hzb : (Vc.check ds != 0) = true := bne_iff_ne.2 hz
    generalize Vc.check ds = C at *
    clear h hG hz
    go_enter Tryd.func84, Tryd.ntmps84
    go_wp2_with (go_at_call 63; refine (unhide KC).mono ?_; rintro e w1 ⟨rfl, hb1⟩; have HB1 := hide hb1; clear hb1)
    go_ret
    exact ⟨ret_int (unhide HC).symm, unhide HB1⟩
end Go.Proofs.YthchcjjpplcfnaaDoor

namespace Go.Proofs.YthchcjjpplcfnaaDoor
open Go.RowKit

theorem below_alloc' {w : World} (o : Obj) : Below w.heap.size w (w.alloc o) := (Below.refl _ _).alloc (Nat.le_refl _) o
theorem own_after {w w' : World} {base e size n : Nat} {v : Value} {xs : List Value} (h : w.ownsRow base e size v n xs) (hb : Below w.heap.size w w') : w'.ownsRow base e size v n xs := by
  refine ⟨h.1, ?_⟩
  rcases h.2 with h2 | ⟨g, cap, cur, e1, e2, e3, e4⟩
  · exact .inl h2
  · exact .inr ⟨g, cap, cur, e1, e2, (hb.block g (Array.getElem?_eq_some_iff.1 e3).1).trans e3, e4⟩
theorem own_set {w : World} {base e size n : Nat} {v : Value} {xs : List Value} (h : w.ownsRow base e size v n xs) {B : Nat} (hB : B < base) (k : Nat) (u : Value) : (w.setCell ⟨B, k, none⟩ u).ownsRow base e size v n xs := by
  refine ⟨h.1, ?_⟩
  rcases h.2 with h2 | ⟨g, cap, cur, e1, e2, e3, e4⟩
  · exact .inl h2
  · exact .inr ⟨g, cap, cur, e1, e2, (heap_setCell_other w ⟨B, k, none⟩ g u (by show g ≠ B; omega)).trans e3, e4⟩
theorem VRow.setNe {W : World} {A T : Nat} {vs : List Value} (h : VRow W A T vs) {B : Nat} (hne : A ≠ B) (k : Nat) (u : Value) : VRow (W.setCell ⟨B, k, none⟩ u) A T vs := (heap_setCell_other W ⟨B, k, none⟩ A u hne).trans h
theorem VRow.after {W W' : World} {A T : Nat} {vs : List Value} (h : VRow W A T vs) (hb : Below W.heap.size W W') : VRow W' A T vs := h.below hb h.lt
theorem VRow.grown {W W' : World} {A T : Nat} {vs : List Value} {row : Option Nat} (h : VRow W A T vs) (hg : W.grownBy W' row) (hne : some A ≠ row) : VRow W' A T vs := (hg.block A h.lt hne).trans h
theorem below_set {w W : World} {n B : Nat} (h : Below n w W) (hB : n ≤ B) (k : Nat) (u : Value) : Below n w (W.setCell ⟨B, k, none⟩ u) := h.setCell (p := ⟨B, k, none⟩) hB u

theorem Sl.only {w w' : World} {B T : Nat} {vs : List Value} {r : Option Addr} {ds : List Vc.D} (h : Sl w r ds) (hr : VRow w B T vs) (hv : ∀ v ∈ vs, ∀ k n, v ≠ .int k n) (ho : Only B w w') : Sl w' r ds := fun h0 => by
  obtain ⟨g, o, e, hg, hc⟩ := h h0
  have hne : g ≠ B := by
    rintro rfl
    obtain ⟨d, hd⟩ : ∃ d, ds[0]? = some d := ⟨_, List.getElem?_eq_getElem h0⟩
    have h1 := (hc 0 d hd).1
    rw [cell_of_row w g _ vs.toArray T (0, 0) hr] at h1
    exact hv _ (List.mem_of_getElem? (by simpa using h1)) _ _ rfl
  have e1 : ∀ k, w'.cell? ⟨g, k, Option.none⟩ = w.cell? ⟨g, k, Option.none⟩ := fun k => World.cell?_of_block (w := w) (ho.block g hne)
  refine ⟨g, o, e, by rw [ho.size]; exact hg, fun j d hj => ?_⟩
  rw [e1, e1]
  exact hc j d hj
theorem two_slices (x y : Option Addr) (a b c d : Nat) : ∀ v ∈ [Value.slice x a b, .slice y c d], ∀ k n, v ≠ .int k n := by
  intro v hv k n e
  subst e
  simp at hv
theorem two_one (x y : Option Addr) (a b c d : Nat) : ∀ v ∈ [Value.slice x a b, .slice y c d], v.oneCell' = true := by simp [Value.oneCell']

theorem Only.trans {B : Nat} {w w' w'' : World} (h : Only B w w') (h' : Only B w' w'') : Only B w w'' :=
  ⟨h'.os.trans h.os, h'.tape.trans h.tape, h'.output.trans h.output, h'.size.trans h.size, fun j hj => (h'.block j hj).trans (h.block j hj)⟩
theorem only_set (w : World) (B k : Nat) (v : Value) : Only B w (w.setCell ⟨B, k, none⟩ v) :=
  ⟨rfl, rfl, rfl, by simp, fun j hj => heap_setCell_other w ⟨B, k, none⟩ j v hj⟩
theorem flat_one : ∀ (l : List Vc.D), ∀ v ∈ flat l, v.oneCell' = true
  | [], _, h => by cases h
  | d :: l, v, h => by
    rcases List.mem_cons.1 h with rfl | h
    · rfl
    · rcases List.mem_cons.1 h with rfl | h
      · rfl
      · exact flat_one l v h
theorem sl_cells {W : World} {g o : Nat} {ds : List Vc.D} (hc : ∀ (j : Nat) (d : Vc.D), ds[j]? = some d → W.cell? ⟨g, o + j * 2, none⟩ = some (.int .i64 d.1) ∧ W.cell? ⟨g, o + j * 2 + 1, none⟩ = some (.int .i64 d.2)) :
    ∀ j u, (flat ds)[j]? = some u → W.cell? ((⟨g, o, none⟩ : Addr).add j) = some u := by
  intro j u hu
  have hj := (List.getElem?_eq_some_iff.1 hu).1
  rw [flat_len] at hj
  obtain ⟨d, hd⟩ : ∃ d, ds[j / 2]? = some d := ⟨_, List.getElem?_eq_getElem (by omega)⟩
  obtain ⟨f1, f2⟩ := flat_get ds (j / 2) d hd
  obtain ⟨c1, c2⟩ := hc (j / 2) d hd
  rw [show (⟨g, o, none⟩ : Addr).add j = ⟨g, o + j, none⟩ by unfold Addr.add; split <;> simp_all]
  rcases (show j = j / 2 * 2 ∨ j = j / 2 * 2 + 1 by omega) with e | e
  · rw [← e] at f1 c1
    rw [f1] at hu
    rw [c1, hu]
  · rw [← e] at f2
    rw [show o + j / 2 * 2 + 1 = o + j by omega] at c2
    rw [f2] at hu
    rw [c2, hu]
theorem keep_alloc' {w w' : World} (h : Below w.heap.size w w') (o : Obj) : Below w.heap.size w (w'.alloc o) := h.alloc h.size o
theorem take_snocA {α : Type} {E : List α} {k : Nat} {d : α} (h : E[k]? = some d) : E.take (k + 1) = E.take k ++ [d] := by
  have hk := (List.getElem?_eq_some_iff.1 h).1
  rw [List.take_succ_eq_append_getElem hk, (List.getElem?_eq_some_iff.1 h).2]
end Go.Proofs.YthchcjjpplcfnaaDoor
