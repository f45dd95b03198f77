/-
  What is kept while steps are gone, one behind the other.
-/
import Derived.Test.YtbghekolfcakeaaWorld0
import Derived.Deep.RegionHeld3
import Derived.StillTailTactics
namespace Go.Proofs.Ytbghekolfcakeaa
open Go.RowKit

def zeros3 : List Value := [.slice none 0 0, .slice none 0 0, .slice none 0 0]
/-- What is kept in memory while steps are gone. -/
structure WM (D base : Nat) (l6 : Value) (n : Int → Int) (L : Nat → List Vc.V) (all : List Vc.V) (R : Nat → Option Addr) (C : Nat → Nat) (W : World) : Prop where
  res : VRow W D 47 zeros3
  leaf : VRow W (D + 1) 47 (rows3 (leafF R C L))
  num : VRow W (D + 2) 72 (rows3 (numF n))
  lv : Leaves base l6.ownBlock R C L W
  ov : OV (fun g => base ≤ g) W base l6 all
  lo : D + 3 ≤ base
  hi : base ≤ W.heap.size
theorem WM.after {D base : Nat} {l6 : Value} {n : Int → Int} {L : Nat → List Vc.V} {all : List Vc.V} {R : Nat → Option Addr} {C : Nat → Nat} {W W' : World} (h : WM D base l6 n L all R C W) (hb : Below W.heap.size W W') : WM D base l6 n L all R C W' :=
  ⟨h.res.after hb, h.leaf.after hb, h.num.after hb, h.lv.after hb, h.ov.after hb, h.lo, Nat.le_trans h.hi hb.size⟩
theorem WM.fresh {D base : Nat} {l6 : Value} {n : Int → Int} {L : Nat → List Vc.V} {all : List Vc.V} {R : Nat → Option Addr} {C : Nat → Nat} {W W' : World} (h : WM D base l6 n L all R C W) (hb : Below W.heap.size W W') : ∀ g, W'.heap.size ≤ g → base ≤ g ∧ some g ≠ l6.ownBlock := fun g hg => by
  have h1 := h.hi
  have h2 := hb.size
  refine ⟨by omega, fun e => ?_⟩
  have := (h.ov.lt g e.symm).2
  omega
theorem WM.putNum {D base : Nat} {l6 : Value} {n : Int → Int} {L : Nat → List Vc.V} {all : List Vc.V} {R : Nat → Option Addr} {C : Nat → Nat} {W : World} (h : WM D base l6 n L all R C W) {p : Nat} (hp : p < 3) (x : Int) : WM D base l6 (Vc.updI n (p : Int) x) L all R C (W.setCell ⟨D + 2, p, none⟩ (.int .i64 x)) := by
  have ho : Only (D + 2) W (W.setCell ⟨D + 2, p, none⟩ (.int .i64 x)) := only_set W (D + 2) p _
  have hlo := h.lo
  refine ⟨h.res.only ho (by omega), h.leaf.only ho (by omega), ?_, h.lv.only ho (by omega), h.ov.keep (by rw [ho.size]; exact Nat.le_refl _) (fun _ hg => hg) (fun g hg _ => ho.block g (by omega)), h.lo, by rw [ho.size]; exact h.hi⟩
  have := h.num.set p (.int .i64 x)
  rw [rows3_set hp, numF_put] at this
  exact this
theorem WM.putLeaf {D base : Nat} {l6 : Value} {n : Int → Int} {L : Nat → List Vc.V} {all : List Vc.V} {R : Nat → Option Addr} {C : Nat → Nat} {W : World} (h : WM D base l6 n L all R C W) {p : Nat} (hp : p < 3) {r : Option Addr} {c : Nat} {x : List Vc.V} (hc : x.length ≤ c) (hs : SV W r x) (hpr : Prov (fun g => base ≤ g ∧ some g ≠ l6.ownBlock) W r x) :
    WM D base l6 n (Vc.updL L p x) all (fun q => if q = p then r else R q) (fun q => if q = p then c else C q) (W.setCell ⟨D + 1, p, none⟩ (.slice r x.length c)) := by
  have ho : Only (D + 1) W (W.setCell ⟨D + 1, p, none⟩ (.slice r x.length c)) := only_set W (D + 1) p _
  have hlo := h.lo
  refine ⟨h.res.only ho (by omega), ?_, h.num.only ho (by omega), (h.lv.put p hc hs hpr).only ho (by omega), h.ov.keep (by rw [ho.size]; exact Nat.le_refl _) (fun _ hg => hg) (fun g hg _ => ho.block g (by omega)), h.lo, by rw [ho.size]; exact h.hi⟩
  have := h.leaf.set p (.slice r x.length c)
  rw [rows3_set hp, leafF_put] at this
  exact this
theorem WM.grown {D base : Nat} {l l' : Value} {n : Int → Int} {L : Nat → List Vc.V} {all all' : List Vc.V} {R : Nat → Option Addr} {C : Nat → Nat} {W W' : World} (h : WM D base l n L all R C W) (ho : OV (fun g => base ≤ g) W' base l' all') (hb : Below base W W') (hg : W.grownBy W' l.ownBlock) (hl : l'.ownBlock = l.ownBlock ∨ l'.ownBlock = some W.heap.size) : WM D base l' n L all' R C W' := by
  have hlo := h.lo
  exact ⟨h.res.below hb (by omega), h.leaf.below hb (by omega), h.num.below hb (by omega), h.lv.grown hg hl, ho, h.lo, Nat.le_trans h.hi hb.size⟩
/-- What is kept while steps are gone. -/
structure WS (D base k : Nat) (l6 : Value) (n : Int → Int) (L : Nat → List Vc.V) (all : List Vc.V) (R : Nat → Option Addr) (C : Nat → Nat) (W : World) : Prop where
  mem : WM D base l6 n L all R C W
  net : Vc.Net all n L
  len : all.length ≤ k
  cnt : ∀ p, n p ≤ (k : Int)
theorem WS.after {D base k : Nat} {l6 : Value} {n : Int → Int} {L : Nat → List Vc.V} {all : List Vc.V} {R : Nat → Option Addr} {C : Nat → Nat} {W W' : World} (h : WS D base k l6 n L all R C W) (hb : Below W.heap.size W W') : WS D base k l6 n L all R C W' := ⟨h.mem.after hb, h.net, h.len, h.cnt⟩
theorem WS.next {D base k : Nat} {l6 : Value} {n : Int → Int} {L : Nat → List Vc.V} {all : List Vc.V} {R : Nat → Option Addr} {C : Nat → Nat} {W : World} (h : WS D base k l6 n L all R C W) : WS D base (k + 1) l6 n L all R C W := ⟨h.mem, h.net, by have := h.len; omega, fun p => by have := h.cnt p; omega⟩
theorem WS.wrote {D base k : Nat} {l l' : Value} {n : Int → Int} {L : Nat → List Vc.V} {all : List Vc.V} {R R' : Nat → Option Addr} {C C' : Nat → Nat} {W W' : World} {p : Nat} {v : Vc.V} (h : WS D base k l n L all R C W) (hp : p < 3) (hv : Vc.OkV v) (hd : v.dot = ((p : Int), n (p : Int) + 1)) (hl : v.past = Vc.coverL (L p)) (hm : WM D base l' (Vc.updI n (p : Int) (n (p : Int) + 1)) (Vc.updL L p [v]) (all ++ [v]) R' C' W') : WS D base (k + 1) l' (Vc.updI n (p : Int) (n (p : Int) + 1)) (Vc.updL L p [v]) (all ++ [v]) R' C' W' :=
  ⟨hm, h.net.write hp hv hd hl, by rw [List.length_append]; have := h.len; simp; omega, fun q => by
    unfold Vc.updI
    have := h.cnt (p : Int)
    have := h.cnt q
    split <;> omega⟩
theorem size47 : (Try.prog.info? 47).map (·.size) = some 3 := by kernel_rfl
theorem size72 : (Try.prog.info? 72).map (·.size) = some 3 := by kernel_rfl
theorem three_one (f : Nat → Value) (h : ∀ q, (f q).oneCell' = true) : ∀ v ∈ rows3 f, v.oneCell' = true := by
  intro v hv
  simp [rows3] at hv
  rcases hv with rfl | rfl | rfl <;> exact h _

theorem size24 : (Try.prog.info? 24).map (·.size) = some 2 := by kernel_rfl
theorem mod3 (x : Int) : ∃ p : Nat, p < 3 ∧ wrap64 ((IntKind.u64.wrap x).tmod 3) = (p : Int) := by
  have h0 : 0 ≤ IntKind.u64.wrap x := by rw [IntKind.wrap_u64]; omega
  refine ⟨((IntKind.u64.wrap x).tmod 3).toNat, ?_, ?_⟩
  · rw [Int.tmod_eq_emod_of_nonneg h0]; omega
  · rw [Int.tmod_eq_emod_of_nonneg h0]
    generalize IntKind.u64.wrap x = y at h0
    unfold wrap64
    omega
def WorldMade (w : World) (e : Ending) (w' : World) : Prop :=
  ∃ (n : Int → Int) (L : Nat → List Vc.V) (all : List Vc.V) (R : Nat → Option Addr) (C : Nat → Nat) (rA : Option Addr) (cA : Nat),
    e = .returned (.tuple #[.agg (rows3 (leafF R C L)).toArray, .slice rA all.length cA]) ∧ Vc.Net all n L ∧ (∀ q, q < 3 → (L q).length ≤ C q ∧ SV w' (R q) (L q)) ∧ all.length ≤ cA ∧ all.length ≤ 40 ∧ SV w' rA all ∧ Below w.heap.size w w'
theorem str_from (x : Int) : ∃ data : ByteArray, data.size ≤ 48 ∧ ∀ W, (Instr.slice 9 (.string ⟨#[97, 98, 99, 100, 101, 102, 103, 104]⟩) (some (.int .u64 ((IntKind.u64.wrap x).tmod 8))) none none).run Try.prog W = .ok (.string data) W := by
  have h0 : 0 ≤ IntKind.u64.wrap x := by rw [IntKind.wrap_u64]; omega
  obtain ⟨m, hm, e⟩ : ∃ m : Nat, m < 8 ∧ (IntKind.u64.wrap x).tmod 8 = (m : Int) := ⟨((IntKind.u64.wrap x).tmod 8).toNat, by rw [Int.tmod_eq_emod_of_nonneg h0]; omega, by rw [Int.tmod_eq_emod_of_nonneg h0]; omega⟩
  rw [e]
  rcases (show m = 0 ∨ m = 1 ∨ m = 2 ∨ m = 3 ∨ m = 4 ∨ m = 5 ∨ m = 6 ∨ m = 7 by omega) with rfl | rfl | rfl | rfl | rfl | rfl | rfl | rfl
  · exact ⟨⟨#[97, 98, 99, 100, 101, 102, 103, 104]⟩, by decide, fun W => by kernel_rfl⟩
  · exact ⟨⟨#[98, 99, 100, 101, 102, 103, 104]⟩, by decide, fun W => by kernel_rfl⟩
  · exact ⟨⟨#[99, 100, 101, 102, 103, 104]⟩, by decide, fun W => by kernel_rfl⟩
  · exact ⟨⟨#[100, 101, 102, 103, 104]⟩, by decide, fun W => by kernel_rfl⟩
  · exact ⟨⟨#[101, 102, 103, 104]⟩, by decide, fun W => by kernel_rfl⟩
  · exact ⟨⟨#[102, 103, 104]⟩, by decide, fun W => by kernel_rfl⟩
  · exact ⟨⟨#[103, 104]⟩, by decide, fun W => by kernel_rfl⟩
  · exact ⟨⟨#[104]⟩, by decide, fun W => by kernel_rfl⟩
/-- A leaf that was made, behind a store into the numbers. -/
theorem made_set {O : Nat → Prop} {W : World} {r : Option Addr} {x : List Vc.V} {D k : Nat} {u : Value} (hs : SV W r x) (hp : Prov O W r x) (hO : ∀ g, O g → g ≠ D) : SV (W.setCell ⟨D, k, none⟩ u) r x ∧ Prov O (W.setCell ⟨D, k, none⟩ u) r x := by
  have ho : Only D W (W.setCell ⟨D, k, none⟩ u) := only_set W D k u
  exact ⟨hs.keep hp (by rw [ho.size]; exact Nat.le_refl _) (fun g hg _ => ho.block g (hO g hg)), hp.keep hs (fun g hg _ => ho.block g (hO g hg)) (fun _ hg _ => hg)⟩
end Go.Proofs.Ytbghekolfcakeaa
