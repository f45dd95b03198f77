/-
  What the Go functions count.bytesOf (the iterator), count.Size and count.Put answer, for every number: the bytes, and how many; nothing that lay in memory turns.
-/
import Derived.Test.YtklkacmeopfmhaaGreatCTake
import Derived.RangeFuncNested
import Derived.RangeFuncBound
import Derived.RangeFuncCalls
import Derived.RangeFuncLeaves
import Derived.RangeFuncBox
import Derived.Shelf.Abstract
import Derived.Shelf.RegionOpen
import Derived.OwnWalkIn
import Derived.TacticsInMore
import Derived.LoopNIn
import Derived.LoopIn
import Derived.Maps.AppendAt
import Derived.Deep.RegionWith
import Derived.Deep.QuietTactic
import Derived.BigQuiet
namespace Go.Proofs.YtklkacmeopfmhaaGreat
open Go.RowKit Go.Shelf

attribute [local go_sem] Oper.semAt_some

set_option maxRecDepth 100000 in
set_option maxHeartbeats 1000000 in
theorem bytes1_in (F : Fence) (n : Nat) (h17 : F.fn 95) (hro : F.round = none) (hn : 1 ≤ n) (l Bn n₀ : Nat) (v : Int) (J Jx : List UInt8 → World → Prop)
    (hY : ∀ pre x W, J pre W → pre.length < 5 → YieldAt F (n - 1) Tryz.prog l #[.int .u8 (x.toNat : Int)] W fun e W' =>
      (e = .returned (.bool true) ∧ J (pre ++ [x]) W' ∧ Below n₀ W W') ∨ (e = .returned (.bool false) ∧ Jx (pre ++ [x]) W'))
    (W : World) (hBn : W.cell? ⟨Bn, 0, none⟩ = some (.int .i64 v)) (h0 : J [] W) :
    CallsIn F n Tryz.prog 95 #[.func (.yield l) #[] #[], .pointer (some ⟨Bn, 0, none⟩)] W fun e W' => (∃ v, e = .returned v) ∧
      ((∃ ys, ys = Cnt.putL v ∧ J ys W') ∨ (∃ pre, pre <+: Cnt.putL v ∧ Jx pre W')) := by
  have HY := hide hY
  clear hY
  have hlen5 := Cnt.putL_len v
  by_cases hneg : v < 0
  · have HP := hide (Cnt.putL_no v (.inl hneg))
    refine callsIn_of_wp Tryz.func95 rfl h17 ?_ hro
    simp only [Tryz.ntmps95, List.size_toArray, List.length_cons, List.length_nil, Nat.reduceAdd, Nat.reduceSub, Array.replicate_succ, Array.replicate_zero, List.push_toArray, List.append_toArray, List.nil_append, List.cons_append]
    gi_wp2
    refine bodyPost_ret (results_none rfl _ _ _) rfl ?_
    refine ⟨⟨_, rfl⟩, .inl ?_⟩
    first | exact ⟨[], (unhide HP).symm, h0⟩ | (rw [unhide HP]; exact h0)
  · by_cases hbig : 1073741824 < v
    · have HP := hide (Cnt.putL_no v (.inr hbig))
      refine callsIn_of_wp Tryz.func95 rfl h17 ?_ hro
      simp only [Tryz.ntmps95, List.size_toArray, List.length_cons, List.length_nil, Nat.reduceAdd, Nat.reduceSub, Array.replicate_succ, Array.replicate_zero, List.push_toArray, List.append_toArray, List.nil_append, List.cons_append]
      gi_wp2
      refine bodyPost_ret (results_none rfl _ _ _) rfl ?_
      refine ⟨⟨_, rfl⟩, .inl ?_⟩
      first | exact ⟨[], (unhide HP).symm, h0⟩ | (rw [unhide HP]; exact h0)
    · refine callsIn_of_wp Tryz.func95 rfl h17 ?_ hro
      simp only [Tryz.ntmps95, List.size_toArray, List.length_cons, List.length_nil, Nat.reduceAdd, Nat.reduceSub, Array.replicate_succ, Array.replicate_zero, List.push_toArray, List.append_toArray, List.nil_append, List.cons_append]
      gi_wp2
      gi_loopw [3] (fun p wr => ∃ (pre : List UInt8) (r : Int), p = .int .i64 r ∧ 0 ≤ r ∧ r ≤ 1073741824 ∧ Cnt.putL v = pre ++ Cnt.putL r ∧ J pre wr)
        (fun p _ => (intOf p).toNat)
      case atStart =>
        exact ⟨[], v, rfl, by omega, by omega, rfl, h0⟩
      case round =>
        obtain ⟨pre, r, rfl, hr0, hr1, hx, hJs⟩ := hrel
        have HX := hide hx
        have hl : (Cnt.putL v).length = pre.length + (Cnt.putL r).length := by rw [hx]; simp
        clear hx
        by_cases hge : 128 ≤ r
        · have hb := Cnt.putL_big r hge hr1
          obtain ⟨x, hxx⟩ : ∃ x, UInt8.ofNat (r.toNat % 128 + 128) = x := ⟨_, rfl⟩
          have hxi : (x.toNat : Int) = r % 128 + 128 := by rw [← hxx, Cnt.u8_lt (by omega)]; omega
          rw [hxx] at hb
          have hl1 : (Cnt.putL r).length = (Cnt.putL (r / 128)).length + 1 := by rw [hb]; simp
          have HBb := hide hb
          have HXI := hide hxi
          clear hb hxx hxi
          have hlt5 : pre.length < 5 := by omega
          clear hl hl1
          obtain ⟨fn, tmps, assign, body, hy, hR⟩ := (unhide HY) pre x wr hJs hlt5
          rw [unhide HXI] at hy
          gi_wp2
          refine hR.mono ?_
          rintro e W3 (⟨rfl, hJ3, hk3⟩ | ⟨rfl, hJx3⟩)
          · gi_wp2
            go_roundw
            case rel => exact ⟨pre ++ [x], r / 128, rfl, by omega, by omega, by rw [unhide HX, unhide HBb]; simp, hJ3⟩
            case measure => simp [intOf]; omega
          · gi_wp2
            refine bodyPost_ret (results_none rfl _ _ _) rfl ?_
            exact ⟨⟨_, rfl⟩, .inr ⟨pre ++ [x], ⟨Cnt.putL (r / 128), by rw [unhide HX, unhide HBb]; simp⟩, hJx3⟩⟩
        · have hb := Cnt.putL_small r hr0 (by omega)
          obtain ⟨x, hxx⟩ : ∃ x, UInt8.ofNat r.toNat = x := ⟨_, rfl⟩
          have hxi : (x.toNat : Int) = r := by rw [← hxx, Cnt.u8_lt (by omega)]; omega
          rw [hxx] at hb
          have hl1 : (Cnt.putL r).length = 1 := by rw [hb]; simp
          have HBb := hide hb
          have HXI := hide hxi
          clear hb hxx hxi
          have hlt5 : pre.length < 5 := by omega
          clear hl hl1
          obtain ⟨fn, tmps, assign, body, hy, hR⟩ := (unhide HY) pre x wr hJs hlt5
          rw [unhide HXI] at hy
          gi_wp2
          refine hR.mono ?_
          rintro e W3 (⟨rfl, hJ3, hk3⟩ | ⟨rfl, hJx3⟩)
          · gi_wp2
            go_end0
            exact ⟨⟨_, rfl⟩, .inl ⟨pre ++ [x], by rw [unhide HX, unhide HBb], hJ3⟩⟩
          · gi_wp2
            go_end0
            exact ⟨⟨_, rfl⟩, .inr ⟨pre ++ [x], ⟨[], by rw [unhide HX, unhide HBb]; simp⟩, hJx3⟩⟩

set_option maxHeartbeats 1000000 in
theorem bytesOf_in (F : Fence) (n : Nat) (h14 : F.fn 79) (hro : F.round = none) (v : Int) (w : World) :
    CallsIn F n Tryz.prog 79 #[.int .i64 v] w fun e w' => e = .returned (.func (.func 95) #[] #[.pointer (some ⟨w.heap.size, 0, none⟩)]) ∧ w' = w.alloc (.cells #[.int .i64 v] 3) := by
  refine callsIn_of_wp Tryz.func79 rfl h14 ?_ hro
  simp only [Tryz.ntmps79, List.size_toArray, List.length_cons, List.length_nil, Nat.reduceAdd, Nat.reduceSub, Array.replicate_succ, Array.replicate_zero, List.push_toArray, List.append_toArray, List.nil_append, List.cons_append]
  gi_wp2
  go_ret
  exact ⟨rfl, rfl⟩

theorem bytes_stops (F : Fence) (n : Nat) (h17 : F.fn 95) (hro : F.round = none) (hn : 1 ≤ n) (Bn n₀ : Nat) (v : Int) (w : World) (hBn : Bn < w.heap.size)
    (hc : w.cell? ⟨Bn, 0, none⟩ = some (.int .i64 v)) :
    SeqStopsK F n Tryz.prog 95 #[.pointer (some ⟨Bn, 0, none⟩)] (fun x : UInt8 => #[Value.int .u8 (x.toNat : Int)]) (Below n₀) (fun ys => ys = Cnt.putL v) (fun pre => pre <+: Cnt.putL v) 5 w := fun l J Jx W hW _ _ hY h0 =>
  bytes1_in F n h17 hro hn l Bn n₀ v J Jx hY W ((hW.cell (p := ⟨Bn, 0, none⟩) hBn).trans hc) h0

theorem info5 : (Tryz.prog.info? 5).map (fun i => (i.zero, i.size, i.bytes)) = some (some (.int .u8 0), 1, 1) := by kernel_rfl

def byteVal (b : UInt8) : Value := .int .u8 (b.toNat : Int)

/-- 'string(put)', where put owns the bytes. -/
theorem run_string_own {W : World} {base k : Nat} {v : Value} {bs : List UInt8} (h : W.ownsRow base 5 1 v k (bs.map byteVal)) :
    (convert 25 9 v).run Tryz.prog W = .ok (.string ⟨bs.toArray⟩) W := by
  rcases h.2 with ⟨rfl, h0⟩ | ⟨g, cap, cur, rfl, _, hg, hle, _, hsz, htk⟩
  · have hl := h.1
    rw [h0] at hl
    have : bs = [] := by simpa using hl
    subst this
    exact run_convert_bytes_nil W 25 5 Tryz.underlying25 Tryz.underlying5 0 0 9 Tryz.underlying9
  · have hl := h.1
    have hk : k = bs.length := by simpa using hl.symm
    subst hk
    refine run_convert_bytes_back W 25 9 5 ⟨g, 0, none⟩ cap bs Tryz.underlying25 Tryz.underlying5 Tryz.underlying9 fun j hj => ?_
    have e1 : cur.toList[j]? = some (byteVal bs[j]) := by
      have := congrArg (fun l => l[j]?) htk
      simp only [Nat.mul_one] at this
      rw [List.getElem?_take, if_pos hj] at this
      rw [this, List.getElem?_map, List.getElem?_eq_getElem hj]
      rfl
    have e2 : W.cell? ⟨g, j, none⟩ = cur[j]? := by
      simp [World.cell?, hg]
    have e3 : (⟨g, 0, none⟩ : Addr).add j = ⟨g, j, none⟩ := by simp [Addr.add]; exact fun h => h.symm
    rw [e3, e2]
    simpa [byteVal] using e1

set_option maxRecDepth 100000 in
set_option maxHeartbeats 2000000 in
theorem Put_in (F : Fence) (n : Nat) (h8 : F.fn 62) (h14 : F.fn 79) (h17 : F.fn 95) (hro : F.round = none) (hn : 3 ≤ n) (v : Int) (w : World) :
    CallsIn F n Tryz.prog 62 #[.int .i64 v] w fun e W' => e = .returned (.string ⟨(Cnt.putL v).toArray⟩) ∧ Below w.heap.size w W' := by
  have h1 : 1 ≤ n := by omega
  obtain ⟨i0, hi, hz0, hz1, hz2⟩ := info_parts info5
  refine callsIn_of_wp_marks Tryz.func62 rfl h8 ?_ hro
  simp only [Tryz.ntmps62, List.size_toArray, List.length_cons, List.length_nil, Nat.reduceAdd, Nat.reduceSub, Array.replicate_succ, Array.replicate_zero, List.push_toArray, List.append_toArray, List.nil_append, List.cons_append]
  gi_wp2_with (first
    | (gi_at_make; refine wpListIn_make_own _ rfl _ _ 25 rfl w.heap.size 5 i0 (.int .u8 0) 1 Tryz.underlying25 hi hz0 hz1 _ _ _ 5 rfl rfl rfl (by rw [hz2]; decide) (by decide) (Nat.le_refl _) ?_; intro w1 hown1 hgrow1)
    | (gi_at_call 79; refine (bytesOf_in F (n - 1) h14 hro _ _).mono ?_; rintro e w' ⟨rfl, rfl⟩))
  have hB1 : Below w.heap.size w w1 := (Below.refl _ w).grown hgrow1 (Nat.le_refl _) (fun k e => by cases e)
  have hsz := hB1.size
  have bO := Boxed.new w1 25 (.slice (some ⟨w.heap.size, 0, none⟩) 0 5)
  have bN := Boxed.new (w1.alloc (.cells #[.slice (some ⟨w.heap.size, 0, none⟩) 0 5] 25)) 3 (.int .i64 v)
  rw [World.size_alloc] at bN
  have hB0 : Below w.heap.size w ((w1.alloc (.cells #[.slice (some ⟨w.heap.size, 0, none⟩) 0 5] 25)).alloc (.cells #[.int .i64 v] 3)) := (hB1.alloc hsz _).alloc (by simp; omega) _
  refine wpIn_rangeFunc_ownG hro h1 (gf := 95) (lb := #[.pointer (some ⟨w1.heap.size + 1, 0, none⟩)]) rfl h17 (enters_of Tryz.func95 (by kernel_rfl) rfl)
    (bytes_stops F (n - 1) h17 hro (by omega) (w1.heap.size + 1) w.heap.size v _ (by simp) bN.cell) belowK_t (belowK_b (by simp; omega)) (Below.refl _ _) (fun _ => rfl)
    (fun pre W => (∃ u, Boxed W w1.heap.size 25 u ∧ W.ownsRow w.heap.size 5 1 u pre.length (pre.map byteVal) ∧ True) ∧ Below w.heap.size w W)
    (fun _ _ _ => False)
    (OwnFrom.and (Own.from (holdsRow_own w.heap.size w1.heap.size 25 5 1 (fun pre : List UInt8 => pre.length) (fun pre => pre.map byteVal) (fun _ _ => True)) _) (ownFrom_below (Nat.le_refl _) (by simp; omega)))
    (fun _ _ _ _ _ hs _ _ => hs)
    ⟨⟨_, bO.alloc _, (hown1.alloc _).alloc _, trivial⟩, hB0⟩
    (fun x => { tmps := #[.int .i64 v, undef, .string ⟨#[]⟩, .pointer (some ⟨w1.heap.size, 0, none⟩), .int .u8 (x.toNat : Int), .slice (some ⟨w.heap.size, 0, none⟩) 0 5, .int .i64 v, .func (.func 95) #[] #[.pointer (some ⟨w1.heap.size + 1, 0, none⟩)], .int .u8 (x.toNat : Int), undef, undef, undef, undef, undef, undef], defers := [] }) ?assign ?body ?done ?stop
  case assign =>
    intro l x W K hK
    gi_wp2
    exact hK
  case body =>
    rintro l pre x W ⟨⟨u, hv, hrow, _⟩, hB⟩ hlt
    have hc := hv.cell
    gi_wp2_with (gi_at_builtin; refine wpListIn_append_own _ rfl _ _ 25 rfl w.heap.size 5 i0 (.int .u8 0) 1 1 Tryz.underlying25 hi hz0 hz1 hz2 rfl (by decide) _ _ _ rfl (hrow.alloc _) ⟨W.heap.size, 0, none⟩ 1 1 [byteVal x] rfl rfl (cell_one_new _ _ _) (by simp [Value.oneCell', byteVal]) (by unfold maxLen; omega) (by omega) (by have := hB.size; simp; omega) ?_; intro v' w2 hown' hgrow _; obtain ⟨g', cap', rfl⟩ := ownsRow_succ hown'; obtain ⟨hv1, hv2, hr2, hk2, hb2⟩ := hv.appended (by decide) hrow hB.size hsz hown' hgrow; have hc1 := hv1.cell; have hf1 := hv1.frozen)
    exact ⟨hk2.from _, hb2, ⟨_, hv2, by simpa using hr2, trivial⟩, hB.trans hb2⟩
  case done =>
    rintro D ys W hD rfl ⟨⟨u, hv, hrow, _⟩, hB⟩ hK
    have hc := hv.cell
    have hcv := run_string_own hrow
    gi_wp2
    refine ⟨by simp, .inl ⟨_, _, rfl, run_takeDeferred hK, ?_⟩⟩
    exact ⟨_, results_tmp rfl _ _ _, rfl, hB.trans (belowK_b (w := w) (Nat.le_refl _) W D _ _ (by simp at hD; omega) hK rfl rfl)⟩
  case stop =>
    rintro D c pre W _ _ h _
    exact h.elim

theorem Put_any (v : Int) (w : World) : Calls Tryz.prog 62 #[.int .i64 v] w fun e W' => e = .returned (.string ⟨(Cnt.putL v).toArray⟩) ∧ Below w.heap.size w W' :=
  callsIn_wide.1 (Put_in Fence.wide 3 trivial trivial trivial rfl (Nat.le_refl _) v w)
end Go.Proofs.YtklkacmeopfmhaaGreat

namespace Go.Proofs.YtklkacmeopfmhaaGreat
open Go.RowKit

theorem bcell {W w1 : World} (hb : Below W.heap.size W w1) : (∀ b o, b < W.heap.size → w1.cell? ⟨b, o, none⟩ = W.cell? ⟨b, o, none⟩) ∧ (∀ b o, b < W.heap.size → w1.frozen? ⟨b, o, none⟩ = W.frozen? ⟨b, o, none⟩) :=
  ⟨fun b o h => hb.cell (p := ⟨b, o, none⟩) h, fun b o h => hb.frozen (p := ⟨b, o, none⟩) h⟩

theorem wrap_smallC {m : Int} (h0 : 0 ≤ m) (h1 : m < 4611686018427387904) : IntKind.i64.wrap m = m := by simp [IntKind.wrap, IntKind.signed, IntKind.bits]; omega
theorem wrap_byte {m : Int} (h0 : 0 ≤ m) (h1 : m < 256) : IntKind.u8.wrap m = m := by simp [IntKind.wrap, IntKind.signed, IntKind.bits]; omega

theorem cat_small (x : UInt8) (m : Int) : ¬ (ByteArray.size ⟨#[x]⟩ + ByteArray.size ⟨(Cnt.putL m).toArray⟩ > 9223372036854775807) := by
  have := Cnt.putL_len m
  simp [ByteArray.size]
  omega

theorem ret_cat {x : UInt8} {m : Int} {l : List UInt8} (h : l = x :: Cnt.putL m) :
    Ending.returned (.string (⟨#[x]⟩ ++ ⟨(Cnt.putL m).toArray⟩)) = Ending.returned (.string ⟨l.toArray⟩) := by
  rw [h]
  exact congrArg (fun b => Ending.returned (.string b)) (ByteArray.mk_append_mk [x] (Cnt.putL m))

theorem run_string_one (x : UInt8) (m : Int) (hm : (x.toNat : Int) = m) (b : Nat) (W : World) (h : W.cell? ⟨b, 0, none⟩ = some (.int .u8 m)) :
    (convert 25 9 (.slice (some ⟨b, 0, none⟩) 1 1)).run Tryz.prog W = .ok (.string ⟨#[x]⟩) W := by
  refine run_convert_bytes_back W 25 9 5 ⟨b, 0, none⟩ 1 [x] Tryz.underlying25 Tryz.underlying5 Tryz.underlying9 fun j hj => ?_
  obtain rfl : j = 0 := by simpa using hj
  rw [← hm] at h
  simpa [Addr.add] using h

set_option maxRecDepth 100000 in
set_option maxHeartbeats 1000000 in
theorem refPut_any (k : Nat) : ∀ (n : Int) (w : World), n < 128 ^ k → 0 < k →
    Calls Tryz.prog 44 #[.int .i64 n] w fun e w' => e = .returned (.string ⟨(Cnt.putL n).toArray⟩) ∧ Below w.heap.size w w' := by
  induction k with
  | zero => intro n w _ h; omega
  | succ k ih =>
    intro n w hk _
    have IH := hide ih
    have HK := hide hk
    clear ih hk
    by_cases hneg : n < 0
    · have HP := hide (Cnt.putL_no n (.inl hneg))
      go_enter Tryz.func44, Tryz.ntmps44
      go_wp2_with fail
      go_ret
      exact ⟨by rw [unhide HP]; rfl, Below.refl _ _⟩
    · by_cases hbig : 1073741824 < n
      · have HP := hide (Cnt.putL_no n (.inr hbig))
        go_enter Tryz.func44, Tryz.ntmps44
        go_wp2_with fail
        go_ret
        exact ⟨by rw [unhide HP]; rfl, Below.refl _ _⟩
      · by_cases hsm : n < 128
        · have hp := Cnt.putL_small n (by omega) hsm
          obtain ⟨x, hx⟩ : ∃ x, UInt8.ofNat n.toNat = x := ⟨_, rfl⟩
          have hxi : (x.toNat : Int) = n := by rw [← hx, Cnt.u8_lt (by omega)]; omega
          rw [hx] at hp
          have HP := hide hp
          have hcv := run_string_one x n hxi
          clear hp hx hxi
          go_enter Tryz.func44, Tryz.ntmps44
          go_wp2_with fail
          go_ret
          exact ⟨by rw [unhide HP]; rfl, (Below.refl _ _).alloc (Nat.le_refl _) _⟩
        · have hp := Cnt.putL_big n (by omega) (by omega)
          obtain ⟨x, hx⟩ : ∃ x, UInt8.ofNat (n.toNat % 128 + 128) = x := ⟨_, rfl⟩
          have hxi : (x.toNat : Int) = n % 128 + 128 := by rw [← hx, Cnt.u8_lt (by omega)]; omega
          rw [hx] at hp
          have HP := hide hp
          have hcv := run_string_one x (n % 128 + 128) hxi
          have hd : n / 128 < 128 ^ k ∧ 0 < k := by
            have h := unhide HK
            rw [Int.pow_succ] at h
            refine ⟨by omega, ?_⟩
            rcases Nat.eq_zero_or_pos k with h0 | h0
            · subst h0; simp at h; omega
            · exact h0
          have HD := hide hd
          clear hp hx hxi hd
          have e1 : n.tmod 128 = n % 128 := Int.tmod_eq_emod_of_nonneg (by omega)
          have e2 : n.tdiv 128 = n / 128 := Int.tdiv_eq_ediv_of_nonneg (by omega)
          have e3 : IntKind.i64.wrap (n % 128 + 128) = n % 128 + 128 := wrap_smallC (by omega) (by omega)
          have e4 : IntKind.u8.wrap (n % 128 + 128) = n % 128 + 128 := wrap_byte (by omega) (by omega)
          have hcat := cat_small x (n / 128)
          have e5 : IntKind.i64.wrap (n / 128) = n / 128 := wrap_smallC (by omega) (by omega)
          go_enter Tryz.func44, Tryz.ntmps44
          go_wp2_with fail
          go_region_with (go_at_call 44; refine ((unhide IH) _ _ (unhide HD).1 (unhide HD).2).mono ?_; rintro e w' ⟨rfl, hb⟩; obtain ⟨hc, hf⟩ := bcell hb)
          all_goals go_wp2_with fail
          all_goals go_ret
          all_goals refine ⟨ret_cat (unhide HP), ?_⟩
          all_goals first
            | exact (Below.refl w.heap.size w).drew.trans hb
            | exact ((Below.refl w.heap.size w).drew.trans hb).alloc hb.size _
            | exact (((Below.refl w.heap.size w).alloc (Nat.le_refl _) _).drew).trans (hb.mono (by simp))

theorem refPut_all (n : Int) (w : World) :
    Calls Tryz.prog 44 #[.int .i64 n] w fun e w' => e = .returned (.string ⟨(Cnt.putL n).toArray⟩) ∧ Below w.heap.size w w' := by
  refine refPut_any (n.toNat + 1) n w ?_ (by omega)
  have h1 : n.toNat + 1 < 128 ^ (n.toNat + 1) := Nat.lt_pow_self (by decide)
  have h2 : (n : Int) ≤ (n.toNat : Int) := by omega
  have h3 : ((128 ^ (n.toNat + 1) : Nat) : Int) = (128 : Int) ^ (n.toNat + 1) := by simp
  rw [← h3]
  omega
end Go.Proofs.YtklkacmeopfmhaaGreat
