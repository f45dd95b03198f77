/-
  Facts for takeUp: what is kept in memory while dots are taken up; a scope that is gone round by a goto.
-/
import Derived.Test.YtpcfblpenealbaaCounts
import Derived.Test.YtpcfblpenealbaaSides
import Derived.ScopeJumps
import Derived.WalkMore
namespace Go.Proofs.Ytpcfblpenealbaa
open Go.RowKit

theorem wp_scope_jumps2 {P : Program} {a : Act} {w : World} {Q : Exit → Act → World → Prop} {c rest : Code} (l : Nat) (J : Act → World → Prop) (μ : Act → World → Nat) (hf : findLabel c l = some (Code.skip.seq rest))
    (pass : ∀ a w, J a w → rest.wp P (Exit.jump l (fun a' w' => J a' w' ∧ μ a' w' < μ a w) Q) a w)
    (first : (∀ a w, J a w → rest.wp P (Exit.jump l J Q) a w) → c.wp P (Exit.jump l J Q) a w) : (Code.scope c).wp P Q a w :=
  wp_scope_jumps l J μ hf (first fun a w h => Code.wp_mono (fun e a w h => by
    cases e with
    | goto l' => exact ⟨h.1, h.2.1⟩
    | _ => exact h) (pass a w h)) fun a w h => wp_seq (wp_skip (pass a w h))

theorem own_after {w w' : World} {base e size n : Nat} {v : Value} {xs : List Value} (h : w.ownsRow base e size v n xs) (hb : Below w.heap.size w w') : w'.ownsRow base e size v n xs := by
  refine ⟨h.1, ?_⟩
  rcases h.2 with h2 | ⟨g, cap, cur, e1, e2, e3, e4⟩
  · exact .inl h2
  · exact .inr ⟨g, cap, cur, e1, e2, (hb.block g (Array.getElem?_eq_some_iff.1 e3).1).trans e3, e4⟩
theorem own_set {w : World} {base e size n : Nat} {v : Value} {xs : List Value} (h : w.ownsRow base e size v n xs) {B : Nat} (hB : B < base) (k : Nat) (u : Value) : (w.setCell ⟨B, k, none⟩ u).ownsRow base e size v n xs := by
  refine ⟨h.1, ?_⟩
  rcases h.2 with h2 | ⟨g, cap, cur, e1, e2, e3, e4⟩
  · exact .inl h2
  · exact .inr ⟨g, cap, cur, e1, e2, (heap_setCell_other w ⟨B, k, none⟩ g u (by show g ≠ B; omega)).trans e3, e4⟩
theorem VRow.setNe {W : World} {A T : Nat} {vs : List Value} (h : VRow W A T vs) {B : Nat} (hne : A ≠ B) (k : Nat) (u : Value) : VRow (W.setCell ⟨B, k, none⟩ u) A T vs := (heap_setCell_other W ⟨B, k, none⟩ A u hne).trans h
theorem VRow.after {W W' : World} {A T : Nat} {vs : List Value} (h : VRow W A T vs) (hb : Below W.heap.size W W') : VRow W' A T vs := h.below hb h.lt
theorem VRow.grown {W W' : World} {A T : Nat} {vs : List Value} {row : Option Nat} (h : VRow W A T vs) (hg : W.grownBy W' row) (hne : some A ≠ row) : VRow W' A T vs := (hg.block A h.lt hne).trans h
theorem below_set {w W : World} {n B : Nat} (h : Below n w W) (hB : n ≤ B) (k : Nat) (u : Value) : Below n w (W.setCell ⟨B, k, none⟩ u) := h.setCell (p := ⟨B, k, none⟩) hB u

theorem Sl.only {w w' : World} {B T : Nat} {vs : List Value} {r : Option Addr} {ds : List Vc.D} (h : Sl w r ds) (hr : VRow w B T vs) (hv : ∀ v ∈ vs, ∀ k n, v ≠ .int k n) (ho : Only B w w') : Sl w' r ds := fun h0 => by
  obtain ⟨g, o, e, hg, hc⟩ := h h0
  have hne : g ≠ B := by
    rintro rfl
    obtain ⟨d, hd⟩ : ∃ d, ds[0]? = some d := ⟨_, List.getElem?_eq_getElem h0⟩
    have h1 := (hc 0 d hd).1
    rw [cell_of_row w g _ vs.toArray T (0, 0) hr] at h1
    exact hv _ (List.mem_of_getElem? (by simpa using h1)) _ _ rfl
  have e1 : ∀ k, w'.cell? ⟨g, k, Option.none⟩ = w.cell? ⟨g, k, Option.none⟩ := fun k => World.cell?_of_block (w := w) (ho.block g hne)
  refine ⟨g, o, e, by rw [ho.size]; exact hg, fun j d hj => ?_⟩
  rw [e1, e1]
  exact hc j d hj
theorem two_slices (x y : Option Addr) (a b c d : Nat) : ∀ v ∈ [Value.slice x a b, .slice y c d], ∀ k n, v ≠ .int k n := by
  intro v hv k n e
  subst e
  simp at hv
theorem two_one (x y : Option Addr) (a b c d : Nat) : ∀ v ∈ [Value.slice x a b, .slice y c d], v.oneCell' = true := by simp [Value.oneCell']

theorem size29 : (Try.prog.info? 29).map (·.size) = some 2 := by kernel_rfl
theorem size24 : (Try.prog.info? 24).map (·.size) = some 2 := by kernel_rfl
theorem size26 : (Try.prog.info? 26).map (·.size) = some 2 := by kernel_rfl

/-- A set as a value. -/
structure SetAt (w : World) (v : Value) (B E : List Vc.D) : Prop where
  is : ∃ r1 c1 r2 c2, v = .agg #[.slice r1 B.length c1, .slice r2 E.length c2] ∧ B.length ≤ c1 ∧ E.length ≤ c2 ∧ Sl w r1 B ∧ Sl w r2 E

/-- What is kept while dots are taken up. -/
def TakeInv (T : Vc.D → Prop) (n N : Nat) (w w' : World) (v1 v2 v7 : Value) : Prop :=
  ∃ (f : Int → Int) (X a b : List Vc.D) (last : Vc.D) (ra : Option Addr) (ca : Nat) (rb : Option Addr) (cb : Nat), v1 = .slice ra a.length ca ∧ v2 = .slice rb b.length cb ∧ a.length ≤ ca ∧ b.length ≤ cb ∧ SlB w.heap.size w' ra a ∧ SlB w.heap.size w' rb b ∧
    Vc.TU T f X a b last ∧ VRow w' w.heap.size 54 (cntF f n) ∧ VRow w' (w.heap.size + 1) 29 [.slice none 0 0, .slice none 0 0] ∧ VRow w' (w.heap.size + 1 + 1) 26 [.int .i64 last.1, .int .i64 last.2] ∧
    w'.ownsRow (w.heap.size + 1 + 1 + 1) 26 2 v7 X.length (flat X) ∧ X.length + a.length + b.length ≤ N ∧ Below w.heap.size w w' ∧ w.heap.size + 1 + 1 + 1 ≤ w'.heap.size

/-- A set made. -/
def MadeSet (w : World) (T : Vc.D → Prop) (N : Nat) (e : Ending) (w' : World) : Prop :=
  ∃ v B E, e = .returned v ∧ SetAt w' v B E ∧ Vc.SetOk B E ∧ (∀ x, Vc.In B E x ↔ T x) ∧ E.length ≤ N ∧ Below w.heap.size w w'
end Go.Proofs.Ytpcfblpenealbaa
