/-
  Versions in a row that is sorted in place: two of them exchanged, a run of them exchanged with another run.
-/
import Derived.Test.YtbghekolfcakeaaP1
import Derived.Shelf.SlSortCmp.KitK
import Derived.Sort.WalkB2
import Derived.Sort.WalkB12
namespace Go.Proofs.Ytbghekolfcakeaa
open Go.Shelf Go.RowKit Go.Lib Go.Sort

instance : Inhabited Vc.V := ⟨zeroV⟩
/-- A version, where its past lies, and where it stood at first. -/
abbrev TP := Nat × VP
def encT (x : TP) : List Value := verL x.2.1 x.2.2.1 x.2.2.2
theorem encT_len (x : TP) : (encT x).length = 5 := rfl
theorem encT_one (x : TP) : ∀ v ∈ encT x, v.oneCell' = true := verL_one _ _ _
abbrev SW (w0 : World) (g : Nat) (dk : Array TP) (W : World) : Prop := SWK encT 5 w0 g 0 dk W
abbrev RW0 (w0 : World) (g : Nat) (d0 : Array TP) : Prop := RowK encT 5 w0 g 0 d0

/-- Where what stands at p behind an exchange of two runs stood ahead of it. -/
def sg (a b n p : Nat) : Nat := if a ≤ p ∧ p < a + n then p + (b - a) else if b ≤ p ∧ p < b + n then p - (b - a) else p
theorem sg_zero (a b p : Nat) : sg a b 0 p = p := by unfold sg; split <;> (try split) <;> omega
theorem sg_step {dk di : Array TP} {a b i : Nat} (hab : a + (i + 1) ≤ b) (hb : b + (i + 1) ≤ dk.size) (hs : di.size = dk.size) (h : ∀ p, di[p]! = dk[sg a b i p]!) : ∀ p, (swp di (a + i) (b + i))[p]! = dk[sg a b (i + 1) p]! := fun p => by
  rw [swp_get di (by omega) (by omega), h, h, h]
  have e : ∀ x y : Nat, x = y → dk[x]! = dk[y]! := fun x y e => by rw [e]
  split
  · refine e _ _ ?_
    unfold sg
    split <;> split <;> (try split) <;> (try split) <;> omega
  · split
    · refine e _ _ ?_
      unfold sg
      split <;> split <;> (try split) <;> (try split) <;> omega
    · refine e _ _ ?_
      unfold sg
      split <;> split <;> (try split) <;> (try split) <;> omega
/-- What the walks of the library's sort want of a program: its numbers, and that an element of the row has k cells. -/
structure Lay (P : Program) (k : Nat) : Prop where
  mixed : P.follows .mixedOrders = true
  t3 : P.underlying 3 = some (TypeDesc.int IntKind.i64)
  a3 : ∀ w, (isAgg 3).run P w = .ok false w
  z3 : ∀ w, (Go.sizeOf 3).run P w = .ok 1 w
  t4 : P.underlying 4 = some (TypeDesc.bool)
  a4 : ∀ w, (isAgg 4).run P w = .ok false w
  z4 : ∀ w, (Go.sizeOf 4).run P w = .ok 1 w
  t22 : P.underlying 22 = some (TypeDesc.slice 27)
  a22 : ∀ w, (isAgg 22).run P w = .ok false w
  z22 : ∀ w, (Go.sizeOf 22).run P w = .ok 1 w
  t92 : P.underlying 92 = some (TypeDesc.int IntKind.u64)
  aE : ∀ w, (isAgg 27).run P w = .ok true w
  zE : ∀ w, (Go.sizeOf 27).run P w = .ok k w
def Moved (k : Nat) (w0 : World) (g : Nat) (dk : Array TP) (f : Nat → Nat) (e : Ending) (W' : World) : Prop := e = .returned (.tuple #[]) ∧ ∃ dk', SWK encT k w0 g 0 dk' W' ∧ dk'.size = dk.size ∧ ∀ p, dk'[p]! = dk[f p]!

set_option maxRecDepth 100000 in
set_option maxHeartbeats 1000000 in
theorem swapRange_gen {P : Program} {k : Nat} (L : Lay P k) (F83 : P.funcs[83]? = some Try.f83) (w0 : World) (g : Nat) (d0 : Array TP) (R : RowK encT k w0 g 0 d0) (dk : Array TP) (hs : dk.size = d0.size) (cap a b n : Nat) (hab : a + n ≤ b) (hb : b + n ≤ dk.size) (hsz : dk.size ≤ 100000) (fv : Value) (W : World) (S : SWK encT k w0 g 0 dk W) :
    Calls P 83 #[.slice (some ⟨g, 0, none⟩) dk.size cap, .int .i64 a, .int .i64 b, .int .i64 n, fv] W (Moved k w0 g dk (sg a b n)) := by
  have mixed := L.mixed; have t3 := L.t3; have a3 := L.a3; have z3 := L.z3; have t4 := L.t4; have a4 := L.a4; have z4 := L.z4; have t22 := L.t22; have a22 := L.a22; have z22 := L.z22; have aE := L.aE; have zE := L.zE
  have u22 := run_underlying L.t22
  have SS : Aside (SWK encT k w0 g 0 dk W) := S
  have RR : Aside (RowK encT k w0 g 0 d0) := R
  clear S R
  go_enter F83, Try.ntmps83
  go_wp2
  go_loopg [10] n (fun gh vi wr => ∃ (i : Nat) (di : Array TP), vi = .int .i64 i ∧ i ≤ n ∧ n - i ≤ gh ∧ di.size = dk.size ∧ Aside (SWK encT k w0 g 0 di wr) ∧ Hid (∀ p, di[p]! = dk[sg a b i p]!))
  case atStart => exact ⟨0, dk, rfl, Nat.zero_le _, by omega, rfl, SS, hide (fun p => by rw [sg_zero])⟩
  case round =>
    obtain ⟨i, di, rfl, hi, hgh, hds, S1, HALL⟩ := hrel
    by_cases hlt : i < n
    · have hltz : (i : Int) < (n : Int) := by omega
      have hx : a + i < di.size := by omega
      have hy : b + i < di.size := by omega
      have HNX := hide (sg_step (by omega) (by omega) hds (unhide HALL))
      have S2 : Aside (SWK encT k w0 g 0 (swp di (a + i) (b + i)) ((wr.drew.setCells g (0 + (a + i) * k) (encT di[b + i]!)).setCells g (0 + (b + i) * k) (encT di[a + i]!))) := S1.out.swapped RR.out (a + i) (b + i) hx hy
      have l1 := S1.out.ld1 RR.out (hds.trans hs) P (a + i) hx
      have l2 := S1.out.ld1 RR.out (hds.trans hs) P (b + i) hy
      have s1 := S1.out.st1 RR.out (hds.trans hs) P (a + i) hx di[b + i]!
      have s2 := S1.out.st2 RR.out (hds.trans hs) P (a + i) (b + i) hx hy di[b + i]! di[a + i]!
      have n1 : (encT di[a + i]!).length = k := RR.out.hk _
      have n2 : (encT di[b + i]!).length = k := RR.out.hk _
      have e1 : ((a : Int) + (i : Int)).toNat = a + i := by omega
      have p1 : (0 : Int) ≤ (a : Int) + (i : Int) := by omega
      have q1 : (a : Int) + (i : Int) < (dk.size : Int) := by omega
      have r1 : IntKind.i64.wrap ((a : Int) + (i : Int)) = (a : Int) + (i : Int) := by rw [IntKind.wrap_i64]; omega
      have e2 : ((b : Int) + (i : Int)).toNat = b + i := by omega
      have p2 : (0 : Int) ≤ (b : Int) + (i : Int) := by omega
      have q2 : (b : Int) + (i : Int) < (dk.size : Int) := by omega
      have r2 : IntKind.i64.wrap ((b : Int) + (i : Int)) = (b : Int) + (i : Int) := by rw [IntKind.wrap_i64]; omega
      rw [Nat.zero_add] at l1 l2 s1
      rw [Nat.zero_add, Nat.zero_add] at s2 S2
      generalize encT di[a + i]! = cI at S2 l1 s2 n1
      generalize encT di[b + i]! = cJ at S2 l2 s1 s2 n2
      clear S1 HALL
      go_wp2_with fail
      go_big_region_o
      clear l1 l2 s1 s2
      generalize (wr.drew.setCells g ((a + i) * k) cJ).setCells g ((b + i) * k) cI = w2 at S2 ⊢
      go_wp2
      go_roundg (n - (i + 1))
      case measure => omega
      case rel => exact ⟨i + 1, _, by go_num, by omega, Nat.le_refl _, by rw [size_swp]; exact hds, S2, HNX⟩
    · have hltz : ¬ (i : Int) < (n : Int) := by omega
      obtain rfl : i = n := by omega
      go_wp2
      go_end0
      exact ⟨rfl, di, S1.out, hds, unhide HALL⟩
end Go.Proofs.Ytbghekolfcakeaa

namespace Go.Proofs.Ytbghekolfcakeaa
open Go.Shelf Go.RowKit Go.Lib Go.Sort

theorem size_run {T n : Nat} (h : (Try.prog.info? T).map (·.size) = some n) : ∀ w, (Go.sizeOf T).run Try.prog w = .ok n w := fun w => by
  obtain ⟨i, hi, hn⟩ := Option.map_eq_some_iff.1 h
  simp [Go.sizeOf, typeInfo, hi, hn]
theorem lay : Lay Try.prog 5 where
  mixed := by kernel_rfl
  t3 := Try.underlying3
  a3 := fun w => by simp [isAgg, run_underlying Try.underlying3]
  z3 := size_run (by kernel_rfl)
  t4 := Try.underlying4
  a4 := fun w => by simp [isAgg, run_underlying Try.underlying4]
  z4 := size_run (by kernel_rfl)
  t22 := Try.underlying22
  a22 := fun w => by simp [isAgg, run_underlying Try.underlying22]
  z22 := size_run (by kernel_rfl)
  t92 := Try.underlying92
  aE := fun w => by simp [isAgg, run_underlying Try.underlying27]
  zE := size_run (by kernel_rfl)

/-- Where what stands at p, behind the exchange of two neighbouring runs, stood ahead of it. -/
def rh (a m b p : Nat) : Nat := if a ≤ p ∧ p < a + (b - m) then p + (m - a) else if a + (b - m) ≤ p ∧ p < b then p - (b - m) else p
theorem rot1 {m i j : Nat} (h1 : j < i) (h2 : i ≤ m) (p : Nat) : sg (m - i) m j (rh (m - (i - j)) m (m + j) p) = rh (m - i) m (m + j) p := by
  unfold rh
  split
  · unfold sg; split <;> (try split) <;> (try split) <;> (try split) <;> omega
  · split
    · unfold sg; split <;> (try split) <;> (try split) <;> (try split) <;> omega
    · unfold sg; split <;> (try split) <;> (try split) <;> (try split) <;> omega
theorem rot2 {m i j : Nat} (h1 : i < j) (h2 : i ≤ m) (p : Nat) : sg (m - i) (m + j - i) i (rh (m - i) m (m + (j - i)) p) = rh (m - i) m (m + j) p := by
  unfold rh
  split
  · unfold sg; split <;> (try split) <;> (try split) <;> (try split) <;> omega
  · split
    · unfold sg; split <;> (try split) <;> (try split) <;> (try split) <;> omega
    · unfold sg; split <;> (try split) <;> (try split) <;> (try split) <;> omega
theorem rot3 {m i : Nat} (h2 : i ≤ m) (p : Nat) : sg (m - i) m i p = rh (m - i) m (m + i) p := by
  unfold rh sg
  split <;> (try split) <;> (try split) <;> (try split) <;> omega

set_option maxRecDepth 100000 in
set_option maxHeartbeats 1000000 in
theorem rotate_any (w0 : World) (g : Nat) (d0 : Array TP) (R : RW0 w0 g d0) (dk : Array TP) (hs : dk.size = d0.size) (cap a m b : Nat) (ham : a < m) (hmb : m < b) (hb : b ≤ dk.size) (hsz : dk.size ≤ 100000) (fv : Value) (W : World) (S : SW w0 g dk W) :
    Calls Try.prog 82 #[.slice (some ⟨g, 0, none⟩) dk.size cap, .int .i64 a, .int .i64 m, .int .i64 b, fv] W (Moved 5 w0 g dk (rh a m b)) := by
  have SS := hide S
  have K := hide fun (di : Array TP) hds x y n h1 h2 W h => swapRange_gen lay Try.func83 w0 g d0 R di hds cap x y n h1 h2 (by omega) fv W h
  have HS := hide hs
  clear S R hs
  obtain ⟨i0, hi0⟩ : ∃ i, m = a + i := ⟨m - a, by omega⟩
  obtain ⟨j0, hj0⟩ : ∃ j, b = m + j := ⟨b - m, by omega⟩
  have w1 : IntKind.i64.wrap ((m : Int) - (a : Int)) = (i0 : Int) := by rw [wrap_small (by omega) (by omega)]; omega
  have w2 : IntKind.i64.wrap ((b : Int) - (m : Int)) = (j0 : Int) := by rw [wrap_small (by omega) (by omega)]; omega
  have w3 : (m : Int) - (a : Int) = (i0 : Int) := by omega
  have w4 : (b : Int) - (m : Int) = (j0 : Int) := by omega
  have HI0 := hide hi0
  have HJ0 := hide hj0
  clear hi0 hj0
  go_enter Try.func82, Try.ntmps82
  go_wp2_with fail
  go_loopw [10, 11] (fun u v wr => ∃ (i j : Nat) (di : Array TP), u = .int .i64 i ∧ v = .int .i64 j ∧ 1 ≤ i ∧ 1 ≤ j ∧ a + i ≤ m ∧ m + j ≤ b ∧ SW w0 g di wr ∧ di.size = dk.size ∧ ∀ p, di[rh (m - i) m (m + j) p]! = dk[rh a m b p]!) (fun u v _ => (intOf u).toNat + (intOf v).toNat)
  case atStart => exact ⟨i0, j0, dk, rfl, rfl, by have := unhide HI0; omega, by have := unhide HJ0; omega, by have := unhide HI0; omega, by have := unhide HJ0; omega, unhide SS, rfl, fun p => by rw [show m - i0 = a by have := unhide HI0; omega, show m + j0 = b from (unhide HJ0).symm]⟩
  case round =>
    obtain ⟨i, j, di, rfl, rfl, hi, hj, hai, hbj, hsw, hds, hall⟩ := hrel
    have S1 := hide hsw
    have HALL := hide hall
    have HDS := hide hds
    obtain ⟨s, hsm⟩ : ∃ s, m = s + i := ⟨m - i, by omega⟩
    have HSM := hide hsm
    have w5 : IntKind.i64.wrap ((m : Int) - (i : Int)) = (s : Int) := by rw [wrap_small (by omega) (by omega)]; omega
    have w6 : (m : Int) - (i : Int) = (s : Int) := by omega
    by_cases hij : i = j
    · have KK := hide (unhide K di (hds.trans (unhide HS)) s m i (by omega) (by omega) wr hsw)
      rw [hds] at KK
      have HEND : Hid (∀ p, di[sg s m i p]! = dk[rh a m b p]!) := hide (fun p => by
        have h := hall p
        rw [← hij, ← rot3 (by omega) p, show m - i = s by omega] at h
        exact h)
      clear hall hds hsw hsm HALL
      subst hij
      go_wp2_with fail
      refine (unhide KK).mono ?_
      rintro e w9 ⟨rfl, d9, h1, h2, h3⟩
      have H1 := hide h1
      have H2 := hide (h2.trans (unhide HDS))
      have H3 := hide (fun p => (h3 p).trans (unhide HEND p))
      clear h1 h2 h3
      go_wp2_with fail
      go_end0
      exact ⟨rfl, d9, unhide H1, unhide H2, unhide H3⟩
    · have hne : ((i : Int) != (j : Int)) = true := by simp; omega
      by_cases hlt : j < i
      · have hltz : decide ((j : Int) < (i : Int)) = true := decide_eq_true (by omega)
        obtain ⟨i', hi'⟩ : ∃ i', i = i' + j := ⟨i - j, by omega⟩
        have w7 : IntKind.i64.wrap ((i : Int) - (j : Int)) = (i' : Int) := by rw [wrap_small (by omega) (by omega)]; omega
        have w8 : (i : Int) - (j : Int) = (i' : Int) := by omega
        have KK := hide (unhide K di (hds.trans (unhide HS)) s m j (by omega) (by omega) wr hsw)
        rw [hds] at KK
        have HNX : Hid (∀ p, di[sg s m j (rh (m - i') m (m + j) p)]! = dk[rh a m b p]!) := hide (fun p => by
          have h := hall p
          rw [← rot1 hlt (by omega) p, show m - i = s by omega, show i - j = i' by omega] at h
          exact h)
        have HN : Hid (1 ≤ i' ∧ a + i' ≤ m ∧ i' < i) := hide ⟨by omega, by omega, by omega⟩
        clear hall hds hsw hsm hi' hij HALL
        go_wp2_with fail
        refine (unhide KK).mono ?_
        rintro e w9 ⟨rfl, d9, h1, h2, h3⟩
        have H1 := hide h1
        have H2 := hide (h2.trans (unhide HDS))
        have H3 := hide (fun p => (h3 (rh (m - i') m (m + j) p)).trans (unhide HNX p))
        clear h1 h2 h3
        go_wp2_with fail
        go_roundw
        case rel => exact ⟨i', j, d9, rfl, rfl, (unhide HN).1, hj, (unhide HN).2.1, hbj, unhide H1, unhide H2, unhide H3⟩
        case measure => have := (unhide HN).2.2; simp [intOf]; omega
      · have hltz : decide ((j : Int) < (i : Int)) = false := decide_eq_false (by omega)
        obtain ⟨j', hj'⟩ : ∃ j', j = j' + i := ⟨j - i, by omega⟩
        obtain ⟨t, ht⟩ : ∃ t, t = m + j - i := ⟨_, rfl⟩
        obtain ⟨mj, hmj⟩ : ∃ t, t = m + j := ⟨_, rfl⟩
        have w7 : IntKind.i64.wrap ((j : Int) - (i : Int)) = (j' : Int) := by rw [wrap_small (by omega) (by omega)]; omega
        have w8 : (j : Int) - (i : Int) = (j' : Int) := by omega
        have w9 : IntKind.i64.wrap ((m : Int) + (j : Int)) = (mj : Int) := by rw [wrap_small (by omega) (by omega)]; omega
        have w10 : (m : Int) + (j : Int) = (mj : Int) := by omega
        have w11 : IntKind.i64.wrap ((mj : Int) - (i : Int)) = (t : Int) := by rw [wrap_small (by omega) (by omega)]; omega
        have w12 : (mj : Int) - (i : Int) = (t : Int) := by omega
        have KK := hide (unhide K di (hds.trans (unhide HS)) s t i (by omega) (by omega) wr hsw)
        rw [hds] at KK
        have HNX : Hid (∀ p, di[sg s t i (rh (m - i) m (m + j') p)]! = dk[rh a m b p]!) := hide (fun p => by
          have h := hall p
          rw [← rot2 (show i < j by omega) (by omega) p, show m + j - i = t from ht.symm, show j - i = j' by omega] at h
          rw [show s = m - i by omega]
          exact h)
        have HN : Hid (1 ≤ j' ∧ m + j' ≤ b ∧ j' < j) := hide ⟨by omega, by omega, by omega⟩
        clear hall hds hsw hsm hj' hij ht hmj HALL
        go_wp2_with fail
        refine (unhide KK).mono ?_
        rintro e w9 ⟨rfl, d9, h1, h2, h3⟩
        have H1 := hide h1
        have H2 := hide (h2.trans (unhide HDS))
        have H3 := hide (fun p => (h3 (rh (m - i) m (m + j') p)).trans (unhide HNX p))
        clear h1 h2 h3
        go_wp2_with fail
        go_roundw
        case rel => exact ⟨i, j', d9, rfl, rfl, hi, (unhide HN).1, hai, (unhide HN).2.1, unhide H1, unhide H2, unhide H3⟩
        case measure => have := (unhide HN).2.2; simp [intOf]; omega
end Go.Proofs.Ytbghekolfcakeaa
