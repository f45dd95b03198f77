/-
  Rows of values in a block: their cells, a store into one, what stays as it was; a row as a whole.
-/
import Derived.Test.YthecijjmgfempaaCMath
import Derived.Deep.MidRow
import Derived.Deep.WholeRow
import Derived.RegionTactic
import Derived.BigRegion
import Derived.OwnWalk
import Derived.Laws.ResultCell
import Derived.RangeFuncNested
import Derived.RangeFuncBound
import Derived.RangeFuncCalls
import Derived.RangeFuncLeaves
import Derived.RangeFuncBox
import Derived.Shelf.Abstract
import Derived.Shelf.RegionOpen
import Derived.OwnWalkIn
import Derived.TacticsInMore
import Derived.LoopNIn
import Derived.LoopIn
import Derived.Maps.AppendAt
import Derived.BigRegionIn
import Derived.WalkSmall
import Derived.Lib.SliceRun
namespace Go.Proofs.Ythecijjmgfempaa
open Go.RowKit

def VRow (W : World) (B T : Nat) (vs : List Value) : Prop := W.heap[B]? = some (.cells vs.toArray T (0, 0))

theorem VRow.cell {W : World} {B T : Nat} {vs : List Value} (h : VRow W B T vs) (k : Nat) (v : Value) (hv : vs[k]? = some v) : W.cell? ⟨B, k, none⟩ = some v := by
  rw [cell_of_row W B k vs.toArray T (0, 0) h]
  simpa using hv
theorem VRow.frozen {W : World} {B T : Nat} {vs : List Value} (h : VRow W B T vs) (k : Nat) : W.frozen? ⟨B, k, none⟩ = false := frozen_of_row W B k vs.toArray T h
theorem VRow.set {W : World} {B T : Nat} {vs : List Value} (h : VRow W B T vs) (k : Nat) (v : Value) : VRow (W.setCell ⟨B, k, none⟩ v) B T (vs.set k v) := by
  have := heap_setCell_same W B k vs.toArray T v h
  simpa [VRow] using this
theorem VRow.below {W W' : World} {n B T : Nat} {vs : List Value} (h : VRow W B T vs) (hb : Below n W W') (hn : B < n) : VRow W' B T vs := (hb.block B hn).trans h
theorem VRow.lt {W : World} {B T : Nat} {vs : List Value} (h : VRow W B T vs) : B < W.heap.size := (Array.getElem?_eq_some_iff.1 h).1
theorem VRow.new (W : World) (T : Nat) (vs : List Value) : VRow (W.alloc (.cells vs.toArray T)) W.heap.size T vs := heap_alloc_new W _
theorem VRow.newAt {W : World} {T n : Nat} {vs : List Value} (hn : n = W.heap.size) : VRow (W.alloc (.cells vs.toArray T)) n T vs := by subst hn; exact VRow.new W T vs
theorem VRow.alloc {W : World} {B T : Nat} {vs : List Value} (h : VRow W B T vs) (o : Obj) : VRow (W.alloc o) B T vs := (Below.heap_alloc W o B h.lt).trans h
theorem VRow.drewN {W : World} {B T : Nat} {vs : List Value} (h : VRow W B T vs) (n : Nat) : VRow (W.drewN n) B T vs := h

/-- Nothing turns but block B. -/
structure Only (B : Nat) (w w' : World) : Prop where
  os : w'.os = w.os
  tape : w'.tape = w.tape
  output : w'.output = w.output
  size : w'.heap.size = w.heap.size
  block : ∀ j, j ≠ B → w'.heap[j]? = w.heap[j]?
theorem Only.below {B n : Nat} {w w' : World} (h : Only B w w') (hn : n ≤ B) : Below n w w' := ⟨h.os, h.tape, h.output, Nat.le_of_eq h.size.symm, fun k hk => h.block k (by omega)⟩
theorem VRow.only {W W' : World} {A B T : Nat} {vs : List Value} (h : VRow W A T vs) (ho : Only B W W') (hne : A ≠ B) : VRow W' A T vs := (ho.block A hne).trans h
theorem below_drewN {B : Nat} {a w : World} (h : Below B a w) (q : Nat) : Below B a (w.drewN q) := ⟨h.os, h.tape, h.output, h.size, h.block⟩

theorem load_row {ops : Array Oper} {rest : List Oper} {o : Oper} {a : Act} {w : World} {Q : Exit → Act → World → Prop} (hgd : o.guard = none) (T : TypeId) (x : Operand) (ho : o.op = .load T x)
    (B : Nat) (hx : a.eval x = .pointer (some ⟨B, 0, none⟩)) (T' : TypeId) (vs : List Value) (hr : VRow w B T' vs) (n m : Nat) (e : TypeId) (hu : Try.prog.underlying T = some (.array m e))
    (hi : (Try.prog.info? T).map (·.size) = some n) (hn : vs.length = n)
    (h : wpList Try.prog ops Q rest (a.put o.dst (.agg vs.toArray)) w) : wpList Try.prog ops Q (o :: rest) a w :=
  wpList_load_row hgd T x ho B hx T' vs.toArray (0, 0) _ hr hu rfl (by rw [hi]; simp [hn]) h

theorem store_row {ops : Array Oper} {rest : List Oper} {o : Oper} {a : Act} {w : World} {Q : Exit → Act → World → Prop} (hgd : o.guard = none) (T : TypeId) (x y : Operand) (ho : o.op = .store T x y)
    (B : Nat) (vs : List Value) (hx : a.eval x = .pointer (some ⟨B, 0, none⟩)) (hy : a.eval y = .agg vs.toArray) (T' : TypeId) (olds : List Value) (hr : VRow w B T' olds) (n : Nat)
    (hi : (Try.prog.info? T).map (·.size) = some n) (hn : vs.length = n) (ho' : olds.length = n) (h1 : ∀ v ∈ vs, v.oneCell' = true)
    (h : ∀ w', Only B w w' → VRow w' B T' vs → wpList Try.prog ops Q rest (a.put o.dst undef) w') : wpList Try.prog ops Q (o :: rest) a w := by
  refine wpList_store_row hgd T x y ho B vs.toArray hx hy T' olds.toArray hr (by rw [hi]; simp [hn]) (by simp [hn, ho']) (all_oneCell_toArray h1) (h _ ?_ ?_)
  · exact ⟨rfl, rfl, rfl, by simp, fun j hj => setRow_other w B j _ hj⟩
  · exact setRow_heap w B olds.toArray _ T' (0, 0) hr

/-- A result in a row and one in a slot. -/
theorem results_row_int {fn : Func} {p q : Tmp} {ty : TypeId} (h : fn.results = #[.cell p ty, .tmp q]) (tmps : Array Value) (w : World) (g : Nat) (T : TypeId) (vs : List Value) {v : Value}
    (hp : tmps.getD p undef = .pointer (some ⟨g, 0, none⟩)) (hq : tmps.getD q undef = v) (hr : VRow w g T vs) (n m : Nat) (e : TypeId) (hu : Try.prog.underlying ty = some (.array m e))
    (hi : (Try.prog.info? ty).map (·.size) = some n) (hn : vs.length = n) : (results fn tmps).run Try.prog w = .ok (.tuple #[.agg vs.toArray, v]) w := by
  rw [results_cell_tmp h, hp, hq]
  simp only [asAddr, Sem.run_pure, Result.andThen_ok, run_loadVar_row w g T ty vs.toArray (0, 0) _ hr hu rfl (by rw [hi]; simp [hn])]

theorem wrap_small {n : Int} (h0 : -9223372036854775808 ≤ n) (h1 : n < 9223372036854775808) : IntKind.i64.wrap n = n := by rw [IntKind.wrap_i64]; omega
theorem new0 (W : World) (x y : Value) (T : Nat) : (W.alloc (.cells #[x, y] T)).cell? ⟨W.heap.size, 0, none⟩ = some x := (VRow.new W T [x, y]).cell 0 x rfl
theorem new1 (W : World) (x y : Value) (T : Nat) : (W.alloc (.cells #[x, y] T)).cell? ⟨W.heap.size, 1, none⟩ = some y := (VRow.new W T [x, y]).cell 1 y rfl
theorem lt_new (W : World) (o : Obj) : W.heap.size < (W.alloc o).heap.size := by simp
end Go.Proofs.Ythecijjmgfempaa

namespace Go.Proofs.Ythecijjmgfempaa
open Go.RowKit

/-- The peer ahead of a place. -/
def prevP (ds : List Vc.D) : Nat → Int
  | 0 => -1
  | k + 1 => (ds.getD k (0, 0)).1

theorem chk_end (ds : List Vc.D) (p : Int) : Vc.chk p (ds.drop ds.length) = 0 := by rw [List.drop_length]; rfl
theorem chk_step (ds : List Vc.D) (k : Nat) (d : Vc.D) (h : ds[k]? = some d) : Vc.chk (prevP ds k) (ds.drop k) = if Vc.dotErr d ≠ 0 then Vc.dotErr d else if d.1 ≤ prevP ds k then 8 else Vc.chk (prevP ds (k + 1)) (ds.drop (k + 1)) := by
  have hk := (List.getElem?_eq_some_iff.1 h).1
  rw [List.drop_eq_getElem_cons hk]
  have e : ds[k] = d := (List.getElem?_eq_some_iff.1 h).2
  rw [e]
  have e2 : prevP ds (k + 1) = d.1 := by simp [prevP, List.getD, h]
  rw [e2]
  rfl
theorem prev_at (ds : List Vc.D) (k : Nat) (d : Vc.D) (h : ds[k]? = some d) : prevP ds (k + 1) = d.1 := by simp [prevP, List.getD, h]

set_option maxRecDepth 100000 in
set_option maxHeartbeats 1000000 in
theorem check_any (a : Option Addr) (cap : Nat) (ds : List Vc.D) (hl : ds.length ≤ 9223372036854775807) (w : World) (h : Sl w a ds) :
    Calls Try.prog 43 #[.slice a ds.length cap] w fun e w' => e = .returned (.int .i64 (Vc.check ds)) ∧ Below w.heap.size w w' := by
  have HS := hide h
  have HC := hide (show Vc.check ds = Vc.chk (prevP ds 0) (ds.drop 0) from rfl)
  obtain ⟨C, hC⟩ : ∃ C, Vc.check ds = C := ⟨_, rfl⟩
  rw [hC] at HC ⊢
  clear h hC
  go_enter Try.func43, Try.ntmps43
  go_wp2_with fail
  go_loopw [8] (fun i wr => ∃ k : Nat, k ≤ ds.length ∧ i = .int .i64 k ∧ C = Vc.chk (prevP ds k) (ds.drop k) ∧ Below w.heap.size w wr) (fun i _ => ds.length - (intOf i).toNat)
  case atStart => exact ⟨0, Nat.zero_le _, rfl, unhide HC, Below.refl _ _⟩
  case round =>
    obtain ⟨k, hk, rfl, hc, hb⟩ := hrel
    have HC1 := hide hc
    have HB := hide hb
    clear hc hb HC
    by_cases hlt : k < ds.length
    · obtain ⟨d, hd⟩ : ∃ d, ds[k]? = some d := ⟨_, List.getElem?_eq_getElem hlt⟩
      obtain ⟨g, o, rfl, hg, hcell⟩ := unhide HS (by omega)
      have HG := hide hg
      have HCell := hide hcell
      have HD := hide hd
      obtain ⟨p, c⟩ := d
      have c0 : wr.cell? ⟨g, o + k * 2, none⟩ = some (.int .i64 p) := ((unhide HB).cell (p := ⟨g, o + k * 2, none⟩) hg).trans (hcell k _ hd).1
      have c1 : wr.cell? ⟨g, o + k * 2 + 1, none⟩ = some (.int .i64 c) := ((unhide HB).cell (p := ⟨g, o + k * 2 + 1, none⟩) hg).trans (hcell k _ hd).2
      clear hd hg hcell
      have KD := hide (dot_any p c)
      have HST := hide (chk_step ds k (p, c) (unhide HD))
      by_cases he : Vc.dotErr (p, c) = 0
      · have hok := (Vc.dotErr_zero (p, c)).1 he
        have hp0 : 0 ≤ p := hok.1
        clear hok
        rw [he] at KD
        rw [if_neg (by simpa using he)] at HST
        clear he
        by_cases hk0 : 0 < k
        · obtain ⟨m, hm⟩ : ∃ m, k = m + 1 := ⟨k - 1, by omega⟩
          obtain ⟨⟨p', c'⟩, hd'⟩ : ∃ d, ds[m]? = some d := ⟨_, List.getElem?_eq_getElem (by omega)⟩
          have e' : prevP ds k = p' := by rw [hm]; exact prev_at ds m _ hd'
          rw [e'] at HST
          have HM : Hid (w.cell? ⟨g, o + m * 2, none⟩ = some (.int .i64 p')) := ((unhide HCell) m _ hd').1
          have hmi : (k : Int) - 1 = (m : Int) := by omega
          have hmw : IntKind.i64.wrap ((k : Int) - 1) = (m : Int) := by rw [hmi]; exact wrap_small (by omega) (by omega)
          have hml : m < ds.length := by omega
          have hgi : (0 : Int) < (k : Int) := by omega
          have HMK : Hid (k = m + 1) := hm
          clear hd' hm
          by_cases hle : p ≤ p'
          · have HNX : Hid (C = 8) := by
              have h := unhide HST
              rw [if_pos (show (p, c).1 ≤ p' from hle)] at h
              exact hide (by rw [unhide HC1, e', h])
            clear e'
            go_wp2_with (go_at_call 51; refine (unhide KD _).mono ?_; rintro e w2 ⟨rfl, hb2⟩; have HB2 := hide ((((unhide HB).alloc (unhide HB).size _)).trans (hb2.mono (by have := (unhide HB).size; simp; omega))); have c2 : w2.cell? ⟨wr.heap.size, 0, none⟩ = some (.int .i64 p) := (hb2.cell (p := ⟨wr.heap.size, 0, none⟩) (lt_new _ _)).trans (new0 _ _ _ _); have c3 := ((unhide HB2).cell (p := ⟨g, o + m * 2, none⟩) (unhide HG)).trans (unhide HM); clear hb2 c0 c1)
            go_quiet (fail)
            go_wp2_with fail
            go_ret
            exact ⟨ret_int (unhide HNX).symm, below_drewN (unhide HB2) _⟩
          · have HNX : Hid (C = Vc.chk (prevP ds (k + 1)) (ds.drop (k + 1))) := by
              have h := unhide HST
              rw [if_neg (show ¬ (p, c).1 ≤ p' from hle)] at h
              exact hide (by rw [unhide HC1, e', h])
            clear e'
            go_wp2_with (go_at_call 51; refine (unhide KD _).mono ?_; rintro e w2 ⟨rfl, hb2⟩; have HB2 := hide ((((unhide HB).alloc (unhide HB).size _)).trans (hb2.mono (by have := (unhide HB).size; simp; omega))); have c2 : w2.cell? ⟨wr.heap.size, 0, none⟩ = some (.int .i64 p) := (hb2.cell (p := ⟨wr.heap.size, 0, none⟩) (lt_new _ _)).trans (new0 _ _ _ _); have c3 := ((unhide HB2).cell (p := ⟨g, o + m * 2, none⟩) (unhide HG)).trans (unhide HM); clear hb2 c0 c1)
            go_quiet (fail)
            go_wp2_with fail
            go_roundw
            case rel => exact ⟨k + 1, by omega, by go_num, unhide HNX, below_drewN (unhide HB2) _⟩
            case measure => simp [intOf]; omega
        · have HNX : Hid (C = Vc.chk (prevP ds (k + 1)) (ds.drop (k + 1))) := by
            have h := unhide HST
            have e : prevP ds k = -1 := by rw [show k = 0 by omega]; rfl
            rw [e, if_neg (show ¬ (p, c).1 ≤ -1 by show ¬ p ≤ -1; omega)] at h
            rw [unhide HC1, e]
            exact h
          have hgd : decide (0 < (k : Int)) = false := decide_eq_false (by omega)
          go_wp2_with (go_at_call 51; refine (unhide KD _).mono ?_; rintro e w2 ⟨rfl, hb2⟩; have HB2 := hide ((((unhide HB).alloc (unhide HB).size _)).trans (hb2.mono (by have := (unhide HB).size; simp; omega))); clear hb2 c0 c1)
          go_quiet (fail)
          go_wp2_with fail
          go_roundw
          case rel => exact ⟨k + 1, by omega, by go_num, unhide HNX, below_drewN (unhide HB2) _⟩
          case measure => simp [intOf]; omega
      · have HNX : Hid (C = Vc.dotErr (p, c)) := by
          have h := unhide HST
          rw [if_pos (by simpa using he)] at h
          exact hide (by rw [unhide HC1, h])
        have heb : (Vc.dotErr (p, c) != 0) = true := bne_iff_ne.2 he
        generalize Vc.dotErr (p, c) = E at *
        clear he
        go_wp2_with (go_at_call 51; refine (unhide KD _).mono ?_; rintro e w2 ⟨rfl, hb2⟩; have HB2 := hide ((((unhide HB).alloc (unhide HB).size _)).trans (hb2.mono (by have := (unhide HB).size; simp; omega))); clear hb2 c0 c1)
        go_ret
        exact ⟨ret_int (unhide HNX).symm, unhide HB2⟩
    · obtain rfl : k = ds.length := by omega
      have HNX : Hid (C = 0) := by rw [unhide HC1]; exact chk_end ds _
      go_wp2_with fail
      go_ret
      exact ⟨ret_int (unhide HNX).symm, unhide HB⟩
set_option maxRecDepth 100000 in
set_option maxHeartbeats 1000000 in
theorem refCheck_any (a : Option Addr) (cap : Nat) (ds : List Vc.D) (hl : ds.length ≤ 9223372036854775807) (w : World) (h : Sl w a ds) :
    Calls Try.prog 39 #[.slice a ds.length cap] w fun e w' => e = .returned (.int .i64 (Vc.check ds)) ∧ Below w.heap.size w w' := by
  have HS := hide h
  have HC := hide (show Vc.check ds = Vc.chk (prevP ds 0) (ds.drop 0) from rfl)
  obtain ⟨C, hC⟩ : ∃ C, Vc.check ds = C := ⟨_, rfl⟩
  rw [hC] at HC ⊢
  clear h hC
  go_enter Try.func39, Try.ntmps39
  go_wp2_with fail
  go_loopw [3] (fun i wr => ∃ k : Nat, k ≤ ds.length ∧ i = .int .i64 k ∧ C = Vc.chk (prevP ds k) (ds.drop k) ∧ Below w.heap.size w wr) (fun i _ => ds.length - (intOf i).toNat)
  case atStart => exact ⟨0, Nat.zero_le _, rfl, unhide HC, Below.refl _ _⟩
  case round =>
    obtain ⟨k, hk, rfl, hc, hb⟩ := hrel
    have HC1 := hide hc
    have HB := hide hb
    clear hc hb HC
    by_cases hlt : k < ds.length
    · obtain ⟨d, hd⟩ : ∃ d, ds[k]? = some d := ⟨_, List.getElem?_eq_getElem hlt⟩
      obtain ⟨g, o, rfl, hg, hcell⟩ := unhide HS (by omega)
      have HG := hide hg
      have HCell := hide hcell
      have HD := hide hd
      obtain ⟨p, c⟩ := d
      have c0 : wr.cell? ⟨g, o + k * 2, none⟩ = some (.int .i64 p) := ((unhide HB).cell (p := ⟨g, o + k * 2, none⟩) hg).trans (hcell k _ hd).1
      have c1 : wr.cell? ⟨g, o + k * 2 + 1, none⟩ = some (.int .i64 c) := ((unhide HB).cell (p := ⟨g, o + k * 2 + 1, none⟩) hg).trans (hcell k _ hd).2
      clear hd hg hcell
      have KD := hide (refDot_any p c)
      have HST := hide (chk_step ds k (p, c) (unhide HD))
      by_cases he : Vc.dotErr (p, c) = 0
      · have hok := (Vc.dotErr_zero (p, c)).1 he
        have hp0 : 0 ≤ p := hok.1
        clear hok
        rw [he] at KD
        rw [if_neg (by simpa using he)] at HST
        clear he
        by_cases hk0 : 0 < k
        · obtain ⟨m, hm⟩ : ∃ m, k = m + 1 := ⟨k - 1, by omega⟩
          obtain ⟨⟨p', c'⟩, hd'⟩ : ∃ d, ds[m]? = some d := ⟨_, List.getElem?_eq_getElem (by omega)⟩
          have e' : prevP ds k = p' := by rw [hm]; exact prev_at ds m _ hd'
          rw [e'] at HST
          have HM : Hid (w.cell? ⟨g, o + m * 2, none⟩ = some (.int .i64 p')) := ((unhide HCell) m _ hd').1
          have HK : Hid (w.cell? ⟨g, o + k * 2, none⟩ = some (.int .i64 p)) := ((unhide HCell) k _ (unhide HD)).1
          have hmi : (k : Int) - 1 = (m : Int) := by omega
          have hmw : IntKind.i64.wrap ((k : Int) - 1) = (m : Int) := by rw [hmi]; exact wrap_small (by omega) (by omega)
          have hml : m < ds.length := by omega
          have hgi : (0 : Int) < (k : Int) := by omega
          have HMK : Hid (k = m + 1) := hm
          clear hd' hm
          by_cases hle : p ≤ p'
          · have HNX : Hid (C = 8) := by
              have h := unhide HST
              rw [if_pos (show (p, c).1 ≤ p' from hle)] at h
              exact hide (by rw [unhide HC1, e', h])
            clear e'
            go_wp2_with (go_at_call 47; refine (unhide KD _).mono ?_; rintro e w2 ⟨rfl, hb2⟩; have HB2 := hide (below_grow (unhide HB) (Nat.le_refl _) hb2); have c2 := ((unhide HB2).cell (p := ⟨g, o + k * 2, none⟩) (unhide HG)).trans (unhide HK); have c3 := ((unhide HB2).cell (p := ⟨g, o + m * 2, none⟩) (unhide HG)).trans (unhide HM); clear hb2 c0 c1)
            go_quiet (fail)
            go_wp2_with fail
            go_ret
            exact ⟨ret_int (unhide HNX).symm, below_drewN (unhide HB2) _⟩
          · have HNX : Hid (C = Vc.chk (prevP ds (k + 1)) (ds.drop (k + 1))) := by
              have h := unhide HST
              rw [if_neg (show ¬ (p, c).1 ≤ p' from hle)] at h
              exact hide (by rw [unhide HC1, e', h])
            clear e'
            go_wp2_with (go_at_call 47; refine (unhide KD _).mono ?_; rintro e w2 ⟨rfl, hb2⟩; have HB2 := hide (below_grow (unhide HB) (Nat.le_refl _) hb2); have c2 := ((unhide HB2).cell (p := ⟨g, o + k * 2, none⟩) (unhide HG)).trans (unhide HK); have c3 := ((unhide HB2).cell (p := ⟨g, o + m * 2, none⟩) (unhide HG)).trans (unhide HM); clear hb2 c0 c1)
            go_quiet (fail)
            go_wp2_with fail
            go_roundw
            case rel => exact ⟨k + 1, by omega, by go_num, unhide HNX, below_drewN (unhide HB2) _⟩
            case measure => simp [intOf]; omega
        · have HNX : Hid (C = Vc.chk (prevP ds (k + 1)) (ds.drop (k + 1))) := by
            have h := unhide HST
            have e : prevP ds k = -1 := by rw [show k = 0 by omega]; rfl
            rw [e, if_neg (show ¬ (p, c).1 ≤ -1 by show ¬ p ≤ -1; omega)] at h
            rw [unhide HC1, e]
            exact h
          have hgd : decide (0 < (k : Int)) = false := decide_eq_false (by omega)
          go_wp2_with (go_at_call 47; refine (unhide KD _).mono ?_; rintro e w2 ⟨rfl, hb2⟩; have HB2 := hide (below_grow (unhide HB) (Nat.le_refl _) hb2); clear hb2 c0 c1)
          go_quiet (fail)
          go_wp2_with fail
          go_roundw
          case rel => exact ⟨k + 1, by omega, by go_num, unhide HNX, below_drewN (unhide HB2) _⟩
          case measure => simp [intOf]; omega
      · have HNX : Hid (C = Vc.dotErr (p, c)) := by
          have h := unhide HST
          rw [if_pos (by simpa using he)] at h
          exact hide (by rw [unhide HC1, h])
        have heb : (Vc.dotErr (p, c) != 0) = true := bne_iff_ne.2 he
        generalize Vc.dotErr (p, c) = E at *
        clear he
        go_wp2_with (go_at_call 47; refine (unhide KD _).mono ?_; rintro e w2 ⟨rfl, hb2⟩; have HB2 := hide (below_grow (unhide HB) (Nat.le_refl _) hb2); clear hb2 c0 c1)
        go_ret
        exact ⟨ret_int (unhide HNX).symm, unhide HB2⟩
    · obtain rfl : k = ds.length := by omega
      have HNX : Hid (C = 0) := by rw [unhide HC1]; exact chk_end ds _
      go_wp2_with fail
      go_ret
      exact ⟨ret_int (unhide HNX).symm, unhide HB⟩
end Go.Proofs.Ythecijjmgfempaa

namespace Go.Proofs.Ythecijjmgfempaa
open Go.RowKit Go.Shelf

attribute [local go_sem] Oper.semAt_some

theorem below_drew {B : Nat} {a w : World} (h : Below B a w) : Below B a w.drew := ⟨h.os, h.tape, h.output, h.size, h.block⟩

/-- A slice of dots below a block. -/
def SlB (n : Nat) (W : World) (a : Option Addr) (ds : List Vc.D) : Prop :=
  0 < ds.length → ∃ g o, a = some ⟨g, o, none⟩ ∧ g < n ∧ ∀ (j : Nat) (d : Vc.D), ds[j]? = some d → W.cell? ⟨g, o + j * 2, none⟩ = some (.int .i64 d.1) ∧ W.cell? ⟨g, o + j * 2 + 1, none⟩ = some (.int .i64 d.2)
theorem Sl.b {W : World} {a : Option Addr} {ds : List Vc.D} (h : Sl W a ds) : SlB W.heap.size W a ds := h
theorem SlB.sl {n : Nat} {W : World} {a : Option Addr} {ds : List Vc.D} (h : SlB n W a ds) (hn : n ≤ W.heap.size) : Sl W a ds := fun h0 => by
  obtain ⟨g, o, e, hg, hc⟩ := h h0
  exact ⟨g, o, e, by omega, hc⟩
theorem SlB.below {n : Nat} {W W' : World} {a : Option Addr} {ds : List Vc.D} (h : SlB n W a ds) (hb : Below n W W') : SlB n W' a ds := fun h0 => by
  obtain ⟨g, o, e, hg, hc⟩ := h h0
  refine ⟨g, o, e, hg, fun j d hj => ?_⟩
  rw [hb.cell (p := ⟨g, o + j * 2, none⟩) hg, hb.cell (p := ⟨g, o + j * 2 + 1, none⟩) hg]
  exact hc j d hj
theorem SlB.tail {n g o : Nat} {W : World} {d : Vc.D} {ds : List Vc.D} (h : SlB n W (some ⟨g, o, none⟩) (d :: ds)) : SlB n W (some ⟨g, o + 2, none⟩) ds := fun _ => by
  obtain ⟨g', o', e, hg, hc⟩ := h (by simp)
  cases e
  refine ⟨g, o + 2, rfl, hg, fun j x hj => ?_⟩
  have := hc (j + 1) x (by simpa using hj)
  rw [show o + 2 + j * 2 = o + (j + 1) * 2 by omega]
  exact this

/-- 's[1:]', whatever room is behind it. -/
theorem slice1 (g o n cap : Nat) (h : n + 1 ≤ cap) : ∃ A, (∀ w, (Instr.slice 24 (.slice (some ⟨g, o, none⟩) (n + 1) cap) (some (.int .i64 1)) none none).run Try.prog w = .ok (.slice A n (cap - 1)) w) ∧ (0 < n → A = some ⟨g, o + 2, none⟩) := by
  by_cases hc : cap = 1
  · subst hc
    refine ⟨some ⟨g, o, none⟩, fun w => ?_, fun h => by omega⟩
    go_simp
    rw [if_pos (by omega)]
    obtain rfl : n = 0 := by omega
    rfl
  · refine ⟨some ⟨g, o + 2, none⟩, fun w => ?_, fun h => rfl⟩
    go_simp
    intro h'
    omega
theorem SlB.cut {n g o : Nat} {W : World} {d : Vc.D} {ds : List Vc.D} (h : SlB n W (some ⟨g, o, none⟩) (d :: ds)) {A : Option Addr} (hA : 0 < ds.length → A = some ⟨g, o + 2, none⟩) : SlB n W A ds := fun h0 => by
  rw [hA h0]
  exact h.tail h0

theorem first_le {m : Int} {ds : List Vc.D} (h : Vc.Up m ds) : Vc.first ds ≤ 64 := by
  cases ds with
  | nil => exact Int.le_refl _
  | cons d l => have := h.1.2.1; show d.1 ≤ 64; omega
theorem first_cons {m : Int} {d : Vc.D} {ds : List Vc.D} (h : Vc.Up m (d :: ds)) : d.1 ≤ 63 := h.1.2.1
theorem up_first {m p : Int} {ds : List Vc.D} (h : Vc.Up m ds) (hp : p < Vc.first ds) : Vc.Up p ds := by
  cases ds with
  | nil => trivial
  | cons d l => exact ⟨h.1, hp, h.2.2⟩
theorem prefix_one {α : Type} (L pre r : List α) (s : α) (h : L = pre ++ s :: r) : pre ++ [s] <+: L := ⟨r, by rw [h]; simp⟩

def lenOf : Value → Nat
  | .slice _ n _ => n
  | _ => 0

end Go.Proofs.Ythecijjmgfempaa

namespace Go.Proofs.Ythecijjmgfempaa
open Go.RowKit Go.Shelf

attribute [local go_sem] Oper.semAt_some

def isVec (xs ys : List Vc.D) : Bool := (Vc.check xs == 0) && (Vc.check ys == 0)
theorem isVec_iff (xs ys : List Vc.D) : isVec xs ys = true ↔ Vc.check xs = 0 ∧ Vc.check ys = 0 := by
  unfold isVec
  rw [Bool.and_eq_true, beq_iff_eq, beq_iff_eq]

/-- The cells of dots. -/
def flat : List Vc.D → List Value
  | [] => []
  | d :: l => .int .i64 d.1 :: .int .i64 d.2 :: flat l
theorem flat_len : ∀ l : List Vc.D, (flat l).length = l.length * 2
  | [] => rfl
  | d :: l => by simp [flat, flat_len l]; omega
theorem flat_append : ∀ l m : List Vc.D, flat (l ++ m) = flat l ++ flat m
  | [], _ => rfl
  | d :: l, m => by simp [flat, flat_append l m]
theorem flat_get : ∀ (l : List Vc.D) (j : Nat) (d : Vc.D), l[j]? = some d → (flat l)[j * 2]? = some (.int .i64 d.1) ∧ (flat l)[j * 2 + 1]? = some (.int .i64 d.2)
  | [], j, d, h => by simp at h
  | e :: l, 0, d, h => by
    simp at h
    subst h
    exact ⟨rfl, rfl⟩
  | e :: l, j + 1, d, h => by
    have := flat_get l j d (by simpa using h)
    rw [show (j + 1) * 2 = j * 2 + 1 + 1 by omega]
    simpa [flat] using this

theorem own_sl {W : World} {base : Nat} {v : Value} {n : Nat} {ds : List Vc.D} (hn : ds.length = n) (h : W.ownsRow base 86 2 v n (flat ds)) : ∃ a cap, v = .slice a ds.length cap ∧ ds.length ≤ cap ∧ Sl W a ds := by
  subst hn
  rcases h.2 with ⟨rfl, h0⟩ | ⟨g, cap, cur, rfl, hg, hh, h1, h2, h3, h4⟩
  · exact ⟨none, 0, by rw [h0], by omega, fun h => by omega⟩
  · refine ⟨_, cap, rfl, h1, fun _ => ⟨g, 0, rfl, (Array.getElem?_eq_some_iff.1 hh).1, fun j d hj => ?_⟩⟩
    have hjl : j < ds.length := (List.getElem?_eq_some_iff.1 hj).1
    obtain ⟨f1, f2⟩ := flat_get ds j d hj
    have e1 : ∀ k u, k < ds.length * 2 → (flat ds)[k]? = some u → W.cell? ⟨g, k, none⟩ = some u := by
      intro k u hk hu
      rw [cell_of_row W g k cur 86 (0, 0) hh]
      have h5 : (cur.toList.take (ds.length * 2))[k]? = (flat ds)[k]? := by rw [h4]
      rw [List.getElem?_take_of_lt hk, hu] at h5
      simpa using h5
    rw [Nat.zero_add]
    exact ⟨e1 _ _ (by omega) f1, e1 _ _ (by omega) f2⟩

/-- What lies in blocks that are new. -/
def Fresh (n : Nat) (r : Option Addr) (ds : List Vc.D) : Prop := ∀ ad, r = some ad → 0 < ds.length → n ≤ ad.block
theorem own_slF {W : World} {base : Nat} {v : Value} {n : Nat} {ds : List Vc.D} (hn : ds.length = n) (h : W.ownsRow base 86 2 v n (flat ds)) : ∃ a cap, v = .slice a ds.length cap ∧ ds.length ≤ cap ∧ Sl W a ds ∧ Fresh base a ds := by
  obtain ⟨a, cap, rfl, h1, h2⟩ := own_sl hn h
  refine ⟨a, cap, rfl, h1, h2, fun ad e h0 => ?_⟩
  rcases h.2 with ⟨e1, h0'⟩ | ⟨g, cap', cur, e1, hg, _⟩
  · omega
  · injection e1 with e1
    rw [e] at e1
    injection e1 with e1
    subst e1
    exact hg

theorem VRow.own {β : Type} (B T : Nat) (vs : List Value) : Own (fun (_ : β) W => VRow W B T vs) := fun _ X _ _ hs hg hrow =>
  (hg.block B hs.lt (fun e' => by obtain ⟨o, ho, hc⟩ := hrow B e'.symm; rw [show X.heap[B]? = _ from hs] at ho; cases ho; cases hc)).trans hs

theorem info81 : (Try.prog.info? 86).map (fun i => (i.zero, i.size, i.bytes)) = some (some (.agg #[.int .i64 0, .int .i64 0]), 2, 16) := by kernel_rfl

end Go.Proofs.Ythecijjmgfempaa

namespace Go.Proofs.Ythecijjmgfempaa
open Go.RowKit

theorem look_step (ds : List Vc.D) (k : Nat) (d : Vc.D) (p : Int) (h : ds[k]? = some d) : Vc.look (ds.drop k) p = if d.1 = p then d.2 else Vc.look (ds.drop (k + 1)) p := by
  have hk := (List.getElem?_eq_some_iff.1 h).1
  rw [List.drop_eq_getElem_cons hk, (List.getElem?_eq_some_iff.1 h).2]
  rfl
theorem look_end (ds : List Vc.D) (p : Int) : Vc.look (ds.drop ds.length) p = 0 := by rw [List.drop_length]; rfl

end Go.Proofs.Ythecijjmgfempaa

namespace Go.Proofs.Ythecijjmgfempaa
open Go.RowKit

theorem below_alloc' {w : World} (o : Obj) : Below w.heap.size w (w.alloc o) := (Below.refl _ _).alloc (Nat.le_refl _) o
theorem own_after {w w' : World} {base e size n : Nat} {v : Value} {xs : List Value} (h : w.ownsRow base e size v n xs) (hb : Below w.heap.size w w') : w'.ownsRow base e size v n xs := by
  refine ⟨h.1, ?_⟩
  rcases h.2 with h2 | ⟨g, cap, cur, e1, e2, e3, e4⟩
  · exact .inl h2
  · exact .inr ⟨g, cap, cur, e1, e2, (hb.block g (Array.getElem?_eq_some_iff.1 e3).1).trans e3, e4⟩
theorem own_set {w : World} {base e size n : Nat} {v : Value} {xs : List Value} (h : w.ownsRow base e size v n xs) {B : Nat} (hB : B < base) (k : Nat) (u : Value) : (w.setCell ⟨B, k, none⟩ u).ownsRow base e size v n xs := by
  refine ⟨h.1, ?_⟩
  rcases h.2 with h2 | ⟨g, cap, cur, e1, e2, e3, e4⟩
  · exact .inl h2
  · exact .inr ⟨g, cap, cur, e1, e2, (heap_setCell_other w ⟨B, k, none⟩ g u (by show g ≠ B; omega)).trans e3, e4⟩
theorem VRow.setNe {W : World} {A T : Nat} {vs : List Value} (h : VRow W A T vs) {B : Nat} (hne : A ≠ B) (k : Nat) (u : Value) : VRow (W.setCell ⟨B, k, none⟩ u) A T vs := (heap_setCell_other W ⟨B, k, none⟩ A u hne).trans h
theorem VRow.after {W W' : World} {A T : Nat} {vs : List Value} (h : VRow W A T vs) (hb : Below W.heap.size W W') : VRow W' A T vs := h.below hb h.lt
theorem VRow.grown {W W' : World} {A T : Nat} {vs : List Value} {row : Option Nat} (h : VRow W A T vs) (hg : W.grownBy W' row) (hne : some A ≠ row) : VRow W' A T vs := (hg.block A h.lt hne).trans h
theorem below_set {w W : World} {n B : Nat} (h : Below n w W) (hB : n ≤ B) (k : Nat) (u : Value) : Below n w (W.setCell ⟨B, k, none⟩ u) := h.setCell (p := ⟨B, k, none⟩) hB u

theorem Sl.only {w w' : World} {B T : Nat} {vs : List Value} {r : Option Addr} {ds : List Vc.D} (h : Sl w r ds) (hr : VRow w B T vs) (hv : ∀ v ∈ vs, ∀ k n, v ≠ .int k n) (ho : Only B w w') : Sl w' r ds := fun h0 => by
  obtain ⟨g, o, e, hg, hc⟩ := h h0
  have hne : g ≠ B := by
    rintro rfl
    obtain ⟨d, hd⟩ : ∃ d, ds[0]? = some d := ⟨_, List.getElem?_eq_getElem h0⟩
    have h1 := (hc 0 d hd).1
    rw [cell_of_row w g _ vs.toArray T (0, 0) hr] at h1
    exact hv _ (List.mem_of_getElem? (by simpa using h1)) _ _ rfl
  have e1 : ∀ k, w'.cell? ⟨g, k, Option.none⟩ = w.cell? ⟨g, k, Option.none⟩ := fun k => World.cell?_of_block (w := w) (ho.block g hne)
  refine ⟨g, o, e, by rw [ho.size]; exact hg, fun j d hj => ?_⟩
  rw [e1, e1]
  exact hc j d hj
theorem two_slices (x y : Option Addr) (a b c d : Nat) : ∀ v ∈ [Value.slice x a b, .slice y c d], ∀ k n, v ≠ .int k n := by
  intro v hv k n e
  subst e
  simp at hv
theorem two_one (x y : Option Addr) (a b c d : Nat) : ∀ v ∈ [Value.slice x a b, .slice y c d], v.oneCell' = true := by simp [Value.oneCell']

theorem Only.trans {B : Nat} {w w' w'' : World} (h : Only B w w') (h' : Only B w' w'') : Only B w w'' :=
  ⟨h'.os.trans h.os, h'.tape.trans h.tape, h'.output.trans h.output, h'.size.trans h.size, fun j hj => (h'.block j hj).trans (h.block j hj)⟩
theorem only_set (w : World) (B k : Nat) (v : Value) : Only B w (w.setCell ⟨B, k, none⟩ v) :=
  ⟨rfl, rfl, rfl, by simp, fun j hj => heap_setCell_other w ⟨B, k, none⟩ j v hj⟩
theorem flat_one : ∀ (l : List Vc.D), ∀ v ∈ flat l, v.oneCell' = true
  | [], _, h => by cases h
  | d :: l, v, h => by
    rcases List.mem_cons.1 h with rfl | h
    · rfl
    · rcases List.mem_cons.1 h with rfl | h
      · rfl
      · exact flat_one l v h
theorem sl_cells {W : World} {g o : Nat} {ds : List Vc.D} (hc : ∀ (j : Nat) (d : Vc.D), ds[j]? = some d → W.cell? ⟨g, o + j * 2, none⟩ = some (.int .i64 d.1) ∧ W.cell? ⟨g, o + j * 2 + 1, none⟩ = some (.int .i64 d.2)) :
    ∀ j u, (flat ds)[j]? = some u → W.cell? ((⟨g, o, none⟩ : Addr).add j) = some u := by
  intro j u hu
  have hj := (List.getElem?_eq_some_iff.1 hu).1
  rw [flat_len] at hj
  obtain ⟨d, hd⟩ : ∃ d, ds[j / 2]? = some d := ⟨_, List.getElem?_eq_getElem (by omega)⟩
  obtain ⟨f1, f2⟩ := flat_get ds (j / 2) d hd
  obtain ⟨c1, c2⟩ := hc (j / 2) d hd
  rw [show (⟨g, o, none⟩ : Addr).add j = ⟨g, o + j, none⟩ by unfold Addr.add; split <;> simp_all]
  rcases (show j = j / 2 * 2 ∨ j = j / 2 * 2 + 1 by omega) with e | e
  · rw [← e] at f1 c1
    rw [f1] at hu
    rw [c1, hu]
  · rw [← e] at f2
    rw [show o + j / 2 * 2 + 1 = o + j by omega] at c2
    rw [f2] at hu
    rw [c2, hu]
theorem keep_alloc' {w w' : World} (h : Below w.heap.size w w') (o : Obj) : Below w.heap.size w (w'.alloc o) := h.alloc h.size o
theorem take_snocA {α : Type} {E : List α} {k : Nat} {d : α} (h : E[k]? = some d) : E.take (k + 1) = E.take k ++ [d] := by
  have hk := (List.getElem?_eq_some_iff.1 h).1
  rw [List.take_succ_eq_append_getElem hk, (List.getElem?_eq_some_iff.1 h).2]
end Go.Proofs.Ythecijjmgfempaa
