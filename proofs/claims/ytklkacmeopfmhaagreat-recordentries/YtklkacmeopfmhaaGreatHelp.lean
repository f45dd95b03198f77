/-
  Small facts that many walks want: what a world keeps, rows and slices that are kept.
-/
import Derived.Test.YtklkacmeopfmhaaGreatJoin
import Derived.Test.YtklkacmeopfmhaaGreatGet
import Derived.Lib.SliceRun
namespace Go.Proofs.YtklkacmeopfmhaaGreat
open Go.RowKit

theorem below_alloc' {w : World} (o : Obj) : Below w.heap.size w (w.alloc o) := (Below.refl _ _).alloc (Nat.le_refl _) o
theorem own_after {w w' : World} {base e size n : Nat} {v : Value} {xs : List Value} (h : w.ownsRow base e size v n xs) (hb : Below w.heap.size w w') : w'.ownsRow base e size v n xs := by
  refine ⟨h.1, ?_⟩
  rcases h.2 with h2 | ⟨g, cap, cur, e1, e2, e3, e4⟩
  · exact .inl h2
  · exact .inr ⟨g, cap, cur, e1, e2, (hb.block g (Array.getElem?_eq_some_iff.1 e3).1).trans e3, e4⟩
theorem own_set {w : World} {base e size n : Nat} {v : Value} {xs : List Value} (h : w.ownsRow base e size v n xs) {B : Nat} (hB : B < base) (k : Nat) (u : Value) : (w.setCell ⟨B, k, none⟩ u).ownsRow base e size v n xs := by
  refine ⟨h.1, ?_⟩
  rcases h.2 with h2 | ⟨g, cap, cur, e1, e2, e3, e4⟩
  · exact .inl h2
  · exact .inr ⟨g, cap, cur, e1, e2, (heap_setCell_other w ⟨B, k, none⟩ g u (by show g ≠ B; omega)).trans e3, e4⟩
theorem VRow.setNe {W : World} {A T : Nat} {vs : List Value} (h : VRow W A T vs) {B : Nat} (hne : A ≠ B) (k : Nat) (u : Value) : VRow (W.setCell ⟨B, k, none⟩ u) A T vs := (heap_setCell_other W ⟨B, k, none⟩ A u hne).trans h
theorem VRow.after {W W' : World} {A T : Nat} {vs : List Value} (h : VRow W A T vs) (hb : Below W.heap.size W W') : VRow W' A T vs := h.below hb h.lt
theorem VRow.grown {W W' : World} {A T : Nat} {vs : List Value} {row : Option Nat} (h : VRow W A T vs) (hg : W.grownBy W' row) (hne : some A ≠ row) : VRow W' A T vs := (hg.block A h.lt hne).trans h
theorem below_set {w W : World} {n B : Nat} (h : Below n w W) (hB : n ≤ B) (k : Nat) (u : Value) : Below n w (W.setCell ⟨B, k, none⟩ u) := h.setCell (p := ⟨B, k, none⟩) hB u

theorem Sl.only {w w' : World} {B T : Nat} {vs : List Value} {r : Option Addr} {ds : List Vc.D} (h : Sl w r ds) (hr : VRow w B T vs) (hv : ∀ v ∈ vs, ∀ k n, v ≠ .int k n) (ho : Only B w w') : Sl w' r ds := fun h0 => by
  obtain ⟨g, o, e, hg, hc⟩ := h h0
  have hne : g ≠ B := by
    rintro rfl
    obtain ⟨d, hd⟩ : ∃ d, ds[0]? = some d := ⟨_, List.getElem?_eq_getElem h0⟩
    have h1 := (hc 0 d hd).1
    rw [cell_of_row w g _ vs.toArray T (0, 0) hr] at h1
    exact hv _ (List.mem_of_getElem? (by simpa using h1)) _ _ rfl
  have e1 : ∀ k, w'.cell? ⟨g, k, Option.none⟩ = w.cell? ⟨g, k, Option.none⟩ := fun k => World.cell?_of_block (w := w) (ho.block g hne)
  refine ⟨g, o, e, by rw [ho.size]; exact hg, fun j d hj => ?_⟩
  rw [e1, e1]
  exact hc j d hj
theorem two_slices (x y : Option Addr) (a b c d : Nat) : ∀ v ∈ [Value.slice x a b, .slice y c d], ∀ k n, v ≠ .int k n := by
  intro v hv k n e
  subst e
  simp at hv
theorem two_one (x y : Option Addr) (a b c d : Nat) : ∀ v ∈ [Value.slice x a b, .slice y c d], v.oneCell' = true := by simp [Value.oneCell']

theorem Only.trans {B : Nat} {w w' w'' : World} (h : Only B w w') (h' : Only B w' w'') : Only B w w'' :=
  ⟨h'.os.trans h.os, h'.tape.trans h.tape, h'.output.trans h.output, h'.size.trans h.size, fun j hj => (h'.block j hj).trans (h.block j hj)⟩
theorem only_set (w : World) (B k : Nat) (v : Value) : Only B w (w.setCell ⟨B, k, none⟩ v) :=
  ⟨rfl, rfl, rfl, by simp, fun j hj => heap_setCell_other w ⟨B, k, none⟩ j v hj⟩
theorem flat_one : ∀ (l : List Vc.D), ∀ v ∈ flat l, v.oneCell' = true
  | [], _, h => by cases h
  | d :: l, v, h => by
    rcases List.mem_cons.1 h with rfl | h
    · rfl
    · rcases List.mem_cons.1 h with rfl | h
      · rfl
      · exact flat_one l v h
theorem sl_cells {W : World} {g o : Nat} {ds : List Vc.D} (hc : ∀ (j : Nat) (d : Vc.D), ds[j]? = some d → W.cell? ⟨g, o + j * 2, none⟩ = some (.int .i64 d.1) ∧ W.cell? ⟨g, o + j * 2 + 1, none⟩ = some (.int .i64 d.2)) :
    ∀ j u, (flat ds)[j]? = some u → W.cell? ((⟨g, o, none⟩ : Addr).add j) = some u := by
  intro j u hu
  have hj := (List.getElem?_eq_some_iff.1 hu).1
  rw [flat_len] at hj
  obtain ⟨d, hd⟩ : ∃ d, ds[j / 2]? = some d := ⟨_, List.getElem?_eq_getElem (by omega)⟩
  obtain ⟨f1, f2⟩ := flat_get ds (j / 2) d hd
  obtain ⟨c1, c2⟩ := hc (j / 2) d hd
  rw [show (⟨g, o, none⟩ : Addr).add j = ⟨g, o + j, none⟩ by unfold Addr.add; split <;> simp_all]
  rcases (show j = j / 2 * 2 ∨ j = j / 2 * 2 + 1 by omega) with e | e
  · rw [← e] at f1 c1
    rw [f1] at hu
    rw [c1, hu]
  · rw [← e] at f2
    rw [show o + j / 2 * 2 + 1 = o + j by omega] at c2
    rw [f2] at hu
    rw [c2, hu]
theorem keep_alloc' {w w' : World} (h : Below w.heap.size w w') (o : Obj) : Below w.heap.size w (w'.alloc o) := h.alloc h.size o
theorem take_snocA {α : Type} {E : List α} {k : Nat} {d : α} (h : E[k]? = some d) : E.take (k + 1) = E.take k ++ [d] := by
  have hk := (List.getElem?_eq_some_iff.1 h).1
  rw [List.take_succ_eq_append_getElem hk, (List.getElem?_eq_some_iff.1 h).2]
end Go.Proofs.YtklkacmeopfmhaaGreat
