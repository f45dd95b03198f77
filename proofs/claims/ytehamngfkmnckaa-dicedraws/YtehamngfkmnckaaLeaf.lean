/-
  A slice of numbers in memory; what the document's Below, Next and Same answer.
-/
import Derived.Test.YtehamngfkmnckaaRows
import Derived.Test.YtehamngfkmnckaaMath
import Derived.WalkKit
import Derived.WalkSpells
import Derived.WalkLawsBesides
import Derived.BigQuiet
import Derived.Outline
import Derived.Laws.Bits64
namespace Go.Proofs.Ytehamngfkmnckaa
open Go.RowKit

theorem hide {p : Prop} (h : p) : Hid p := h
theorem unhide {p : Prop} (h : Hid p) : p := h
theorem ret_int {a b : Int} (h : a = b) : Ending.returned (.int .i64 a) = .returned (.int .i64 b) := by rw [h]
theorem ret_bool {a b : Bool} (h : a = b) : Ending.returned (.bool a) = .returned (.bool b) := by rw [h]
theorem below_grow {B : Nat} {a b c : World} (h : Below B a b) (hB : B ≤ a.heap.size) (h2 : Below b.heap.size b c) : Below B a c :=
  h.trans (h2.mono (Nat.le_trans hB h.size))

/-- A slice of numbers, wherever it lies; nothing is asked of one that has none. -/
def Sn (W : World) (a : Option Addr) (xs : List Int) : Prop :=
  0 < xs.length → ∃ g o, a = some ⟨g, o, none⟩ ∧ g < W.heap.size ∧ ∀ (j : Nat) (x : Int), xs[j]? = some x → W.cell? ⟨g, o + j, none⟩ = some (.int .i64 x)
theorem Sn.after {W W' : World} {a : Option Addr} {xs : List Int} (h : Sn W a xs) (hb : Below W.heap.size W W') : Sn W' a xs := fun h0 => by
  obtain ⟨g, o, e, hg, hc⟩ := h h0
  exact ⟨g, o, e, Nat.lt_of_lt_of_le hg hb.size, fun j x hj => (hb.cell (p := ⟨g, o + j, none⟩) hg).trans (hc j x hj)⟩
theorem Sn.none (W : World) (a : Option Addr) : Sn W a [] := fun h => absurd h (Nat.lt_irrefl _)

theorem below_drewN {B : Nat} {a w : World} (h : Below B a w) (q : Nat) : Below B a (w.drewN q) := ⟨h.os, h.tape, h.output, h.size, h.block⟩

/-- What is left of a draw. -/
def belowE (draw n : Int) : Int := if n < 1 then 0 else (draw % 18446744073709551616) % n
def nextE (draw : Int) : Int := wrap64 (draw * 6364136223846793005 + 1442695040888963407)
theorem next_is (draw : Int) : wrap64 (IntKind.u64.wrap (IntKind.u64.wrap (IntKind.u64.wrap draw * 6364136223846793005) + 1442695040888963407)) = nextE draw := by
  simp only [nextE, IntKind.wrap_u64, wrap64]
  omega

theorem below_is (draw : Int) {n : Int} (h1 : 1 ≤ n) (hn : n ≤ 9223372036854775807) : wrap64 ((IntKind.u64.wrap draw).tmod n) = (draw % 18446744073709551616) % n := by
  rw [IntKind.wrap_u64]
  have h0 : 0 ≤ draw % 18446744073709551616 := Int.emod_nonneg _ (by decide)
  generalize draw % 18446744073709551616 = x at h0
  rw [Int.tmod_eq_emod_of_nonneg h0]
  have h2 := Int.emod_nonneg x (show n ≠ 0 by omega)
  have h3 := Int.emod_lt_of_pos x (show 0 < n by omega)
  generalize x % n = y at h2 h3
  simp only [wrap64]
  omega

set_option maxRecDepth 100000 in
theorem refBelow_any (draw n : Int) (hn : n ≤ 9223372036854775807) (w : World) : Calls Try.prog 8 #[.int .i64 draw, .int .i64 n] w fun e w' => e = .returned (.int .i64 (belowE draw n)) ∧ w' = w := by
  by_cases h1 : n < 1
  · have d1 : decide (n < 1) = true := decide_eq_true h1
    have e : belowE draw n = 0 := if_pos h1
    rw [e]
    go_enter Try.func8, Try.ntmps8
    go_wp2_with fail
    go_ret
    exact ⟨rfl, rfl⟩
  · have d1 : decide (n < 1) = false := decide_eq_false h1
    have e : belowE draw n = (draw % 18446744073709551616) % n := if_neg h1
    rw [e]
    go_enter Try.func8, Try.ntmps8
    go_wp2_with fail
    go_ret
    exact ⟨ret_int (below_is draw (by omega) hn), rfl⟩

set_option maxRecDepth 100000 in
theorem refNext_any (draw : Int) (w : World) : Calls Try.prog 10 #[.int .i64 draw] w fun e w' => e = .returned (.int .i64 (nextE draw)) ∧ w' = w := by
  go_enter Try.func10, Try.ntmps10
  go_wp2_with fail
  go_ret
  exact ⟨ret_int (next_is draw), rfl⟩

set_option maxRecDepth 100000 in
set_option maxHeartbeats 1000000 in
theorem refSame_any (a b : Option Addr) (ca cb : Nat) (xs ys : List Int) (hl : xs.length ≤ 9223372036854775807) (hl2 : ys.length ≤ 9223372036854775807) (w : World) (ha : Sn w a xs) (hb : Sn w b ys) (D : Bool) (hD : D = true ↔ xs = ys) :
    Calls Try.prog 12 #[.slice a xs.length ca, .slice b ys.length cb] w fun e w' => e = .returned (.bool D) ∧ Below w.heap.size w w' := by
  have HA := hide ha
  have HB := hide hb
  have HD := hide hD
  clear ha hb hD
  by_cases hlen : xs.length = ys.length
  · have hbe : ((xs.length : Int) != (ys.length : Int)) = false := by simp [hlen]
    have HLEN := hide hlen
    clear hlen
    go_enter Try.func12, Try.ntmps12
    go_wp2_with fail
    go_loopw [5] (fun i wr => ∃ k : Nat, k ≤ xs.length ∧ i = .int .i64 k ∧ xs.take k = ys.take k ∧ Below w.heap.size w wr) (fun i _ => xs.length - (intOf i).toNat)
    case atStart => exact ⟨0, Nat.zero_le _, rfl, rfl, Below.refl _ _⟩
    case round =>
      obtain ⟨k, hk, rfl, heq, hb⟩ := hrel
      have HEQ := hide heq
      have HBr := hide hb
      have S := (unhide HA).after hb
      have T := (unhide HB).after hb
      clear heq hb
      by_cases hlt : k < xs.length
      · have hlt2 : k < ys.length := by have := unhide HLEN; omega
        obtain ⟨x, hx⟩ : ∃ d, xs[k]? = some d := ⟨_, List.getElem?_eq_getElem hlt⟩
        obtain ⟨y, hy⟩ : ∃ d, ys[k]? = some d := ⟨_, List.getElem?_eq_getElem hlt2⟩
        obtain ⟨g, o, rfl, hg, hcell⟩ := S (by omega)
        obtain ⟨g', o', rfl, hg', hcell'⟩ := T (by omega)
        have x0 := hcell k x hx
        have y0 := hcell' k y hy
        by_cases hxy : x = y
        · have hne : (x != y) = false := by simp [hxy]
          have HEQ2 : Hid (xs.take (k + 1) = ys.take (k + 1)) := hide (by rw [List.take_add_one, List.take_add_one, unhide HEQ, hx, hy, hxy])
          clear hcell hcell' hx hy hg hg' hxy
          go_wp2_with fail
          go_quiet (fail)
          go_wp2_with fail
          go_roundw
          case rel => exact ⟨k + 1, by omega, by go_num, unhide HEQ2, below_drewN (unhide HBr) _⟩
          case measure => simp [intOf]; omega
        · have hne : (x != y) = true := by simp [hxy]
          obtain rfl : D = false := by
            cases D with
            | false => rfl
            | true =>
              have e := (unhide HD).1 rfl
              rw [e, hy] at hx
              injection hx with hx
              exact absurd hx.symm hxy
          clear hcell hcell' hx hy hg hg' hxy
          go_wp2_with fail
          go_quiet (fail)
          go_wp2_with fail
          go_ret
          exact ⟨rfl, below_drewN (unhide HBr) _⟩
      · obtain rfl : k = xs.length := by omega
        obtain rfl : D = true := (unhide HD).2 (by have h := unhide HEQ; rw [List.take_length, unhide HLEN, List.take_length] at h; exact h)
        go_wp2_with fail
        go_ret
        exact ⟨rfl, unhide HBr⟩
  · have hbe : ((xs.length : Int) != (ys.length : Int)) = true := by simp; omega
    obtain rfl : D = false := by
      cases D with
      | false => rfl
      | true => exact absurd (by rw [(unhide HD).1 rfl]) hlen
    go_enter Try.func12, Try.ntmps12
    go_wp2_with fail
    go_ret
    exact ⟨rfl, Below.refl _ _⟩
end Go.Proofs.Ytehamngfkmnckaa
