/-
  A kid built of its parts, and a slice of one kid. Conditions: a digest has 32 bytes.
-/
import Derived.Test.YthchcjjpplcfnaaGreatK1
import Derived.Great.BuildSlice
namespace Go.Proofs.YthchcjjpplcfnaaGreat
open Go.RowKit
theorem run_buildK (s : ByteArray) (d : List UInt8) (hd : d.length = 32) (w : World) : (Instr.build 51 #[(0, .string s), (1, .agg (d.map byteVal).toArray)]).run Tryz.prog w = .ok (.agg (kL (s, d)).toArray) w := by
  match d, hd with
  | [a0, a1, a2, a3, a4, a5, a6, a7, a8, a9, b0, b1, b2, b3, b4, b5, b6, b7, b8, b9, c0, c1, c2, c3, c4, c5, c6, c7, c8, c9, d0, d1], _ => exact run_build w _ _ _ (by kernel_rfl)
theorem fillK0 (s : ByteArray) (a0 a1 a2 a3 a4 a5 a6 a7 a8 a9 b0 b1 b2 b3 b4 b5 b6 b7 b8 b9 c0 c1 c2 c3 c4 c5 c6 c7 c8 c9 d0 d1 : UInt8) : Instr.fill (fun i => some (i * 33, 33)) ((Array.range (1 * 33)).map ((Value.agg zeroKA).cells[· % (Value.agg zeroKA).cells.size]!)) #[(0, Value.agg (kL (s, [a0, a1, a2, a3, a4, a5, a6, a7, a8, a9, b0, b1, b2, b3, b4, b5, b6, b7, b8, b9, c0, c1, c2, c3, c4, c5, c6, c7, c8, c9, d0, d1])).toArray)].toList = some (kL (s, [a0, a1, a2, a3, a4, a5, a6, a7, a8, a9, b0, b1, b2, b3, b4, b5, b6, b7, b8, b9, c0, c1, c2, c3, c4, c5, c6, c7, c8, c9, d0, d1])).toArray := by kernel_rfl
theorem fillK (s : ByteArray) (d : List UInt8) (hd : d.length = 32) : Instr.fill (fun i => some (i * 33, 33)) ((Array.range (1 * 33)).map ((Value.agg zeroKA).cells[· % (Value.agg zeroKA).cells.size]!)) #[(0, Value.agg (kL (s, d)).toArray)].toList = some (kL (s, d)).toArray := by
  match d, hd with
  | [a0, a1, a2, a3, a4, a5, a6, a7, a8, a9, b0, b1, b2, b3, b4, b5, b6, b7, b8, b9, c0, c1, c2, c3, c4, c5, c6, c7, c8, c9, d0, d1], _ => exact fillK0 s a0 a1 a2 a3 a4 a5 a6 a7 a8 a9 b0 b1 b2 b3 b4 b5 b6 b7 b8 b9 c0 c1 c2 c3 c4 c5 c6 c7 c8 c9 d0 d1
theorem run_sliceK (k : Kd) (hd : k.2.length = 32) (w : World) : (Instr.buildSlice 24 1 #[(0, .agg (kL k).toArray)]).run Tryz.prog w = .ok (.slice (some ⟨w.heap.size, 0, none⟩) 1 1) (w.alloc (.cells (kL k).toArray 51)) := by
  obtain ⟨i0, hi, hz0, hz1, hz2⟩ := info_parts infoK
  refine run_buildSlice w 24 51 1 _ _ i0 _ Tryz.underlying24 hi hz0 (by rw [hz1]; decide) (by rw [hz1]; decide) ?_
  rw [hz1]
  exact fillK k.1 k.2 hd
theorem step_buildK {ops : Array Oper} {rest : List Oper} {o : Oper} {a : Act} {w : World} {Q : Exit → Act → World → Prop} (hgd : o.guard = none) (x y : Operand) (ho : o.op = .build 51 #[(0, x), (1, y)])
    (s : ByteArray) (d : List UInt8) (hx : a.eval x = .string s) (hy : a.eval y = .agg (d.map byteVal).toArray) (hd : d.length = 32)
    (h : wpList Tryz.prog ops Q rest (a.put o.dst (.agg (kL (s, d)).toArray)) w) : wpList Tryz.prog ops Q (o :: rest) a w :=
  wpList_plain hgd fun K hK => by
    have hr := run_buildK s d hd w
    rw [← hx, ← hy] at hr
    unfold Oper.wp execOp
    simp only [ho]
    have e : (#[(0, x), (1, y)] : Array (Nat × Operand)).map (fun (i, x) => (i, a.eval x)) = #[(0, a.eval x), (1, a.eval y)] := by simp
    rw [e]
    simp only [Sem.run_bind, hr, Result.andThen_ok]
    exact hK _ _ h
theorem step_sliceK {ops : Array Oper} {rest : List Oper} {o : Oper} {a : Act} {w : World} {Q : Exit → Act → World → Prop} (hgd : o.guard = none) (x : Operand) (ho : o.op = .buildSlice 24 1 #[(0, x)])
    (k : Kd) (hx : a.eval x = .agg (kL k).toArray) (hd : k.2.length = 32)
    (h : wpList Tryz.prog ops Q rest (a.put o.dst (.slice (some ⟨w.heap.size, 0, none⟩) 1 1)) (w.alloc (.cells (kL k).toArray 51))) : wpList Tryz.prog ops Q (o :: rest) a w :=
  wpList_plain hgd fun K hK => by
    have hr := run_sliceK k hd w
    rw [← hx] at hr
    unfold Oper.wp execOp
    simp only [ho]
    have e : (#[(0, x)] : Array (Nat × Operand)).map (fun (i, x) => (i, a.eval x)) = #[(0, a.eval x)] := by simp
    rw [e]
    simp only [Sem.run_bind, hr, Result.andThen_ok]
    exact hK _ _ h
/-- An operation of this head stands there: nothing is turned. -/
theorem at_buildK {ops : Array Oper} {rest : List Oper} {o : Option Tmp} {x y : Nat × Operand} {ty : TypeId} {pos : String} {after : Array Edge} {gd : Option (Nat × Bool)} {a : Act} {w : World} {Q : Exit → Act → World → Prop}
    (h : wpList Tryz.prog ops Q ({ dst := o, op := .build 51 #[x, y], type := ty, pos := pos, after := after, guard := gd } :: rest) a w) : wpList Tryz.prog ops Q ({ dst := o, op := .build 51 #[x, y], type := ty, pos := pos, after := after, guard := gd } :: rest) a w := h
theorem at_sliceK {ops : Array Oper} {rest : List Oper} {o : Option Tmp} {x : Nat × Operand} {ty : TypeId} {pos : String} {after : Array Edge} {gd : Option (Nat × Bool)} {a : Act} {w : World} {Q : Exit → Act → World → Prop}
    (h : wpList Tryz.prog ops Q ({ dst := o, op := .buildSlice 24 1 #[x], type := ty, pos := pos, after := after, guard := gd } :: rest) a w) : wpList Tryz.prog ops Q ({ dst := o, op := .buildSlice 24 1 #[x], type := ty, pos := pos, after := after, guard := gd } :: rest) a w := h
end Go.Proofs.YthchcjjpplcfnaaGreat

namespace Go.Proofs.YthchcjjpplcfnaaGreat
open Go.RowKit

theorem only_refl (B : Nat) (w : World) : Only B w w := ⟨rfl, rfl, rfl, rfl, fun _ _ => rfl⟩
theorem vrow_setCells {T B : Nat} : ∀ (vs L olds Rr : List Value) (w : World), olds.length = vs.length → VRow w B T (L ++ olds ++ Rr) → VRow (w.setCells B L.length vs) B T (L ++ vs ++ Rr) ∧ Only B w (w.setCells B L.length vs)
  | [], L, olds, Rr, w, h, hr => by
    obtain rfl : olds = [] := List.length_eq_zero_iff.1 (by simpa using h)
    exact ⟨hr, only_refl _ _⟩
  | v :: vs, L, olds, Rr, w, h, hr => by
    obtain ⟨o, os, rfl⟩ : ∃ o os, olds = o :: os := by
      cases olds with
      | nil => simp at h
      | cons o os => exact ⟨o, os, rfl⟩
    have h1 : VRow (w.setCell ⟨B, L.length, none⟩ v) B T ((L ++ [v]) ++ os ++ Rr) := by
      have h2 := hr.set L.length v
      rw [List.append_assoc, List.cons_append, List.set_append_right _ _ (Nat.le_refl _), Nat.sub_self, List.set_cons_zero] at h2
      simpa using h2
    have h3 := vrow_setCells vs (L ++ [v]) os Rr (w.setCell ⟨B, L.length, none⟩ v) (by simpa using h) h1
    rw [List.length_append, List.length_singleton] at h3
    refine ⟨?_, (only_set w B L.length v).trans h3.2⟩
    have e : L ++ (v :: vs) ++ Rr = L ++ [v] ++ vs ++ Rr := by simp
    rw [e]
    exact h3.1
theorem set_dig {W : World} {B : Nat} {k : Kd} (h : VRow W B 51 (kL k)) (hk : k.2.length = 32) (x : List UInt8) (hx : x.length = 32) : VRow (W.setCells B 1 (x.map byteVal)) B 51 (kL (k.1, x)) ∧ Only B W (W.setCells B 1 (x.map byteVal)) := by
  have h2 := vrow_setCells (T := 51) (B := B) (x.map byteVal) [.string k.1] (k.2.map byteVal) [] W (by simp [hk, hx]) (by simpa [kL] using h)
  rw [List.append_nil] at h2
  exact h2
theorem there_dig {W : World} {B : Nat} {k : Kd} (h : VRow W B 51 (kL k)) (hk : k.2.length = 32) : W.there B 1 32 := fun j hj => by
  refine ⟨?_, h.frozen (1 + j)⟩
  obtain ⟨v, hv⟩ : ∃ v, (k.2.map byteVal)[j]? = some v := ⟨_, List.getElem?_eq_getElem (by simp [hk]; omega)⟩
  have h1 := range_dig h.range j v hv
  rw [Nat.zero_add] at h1
  rw [h1]
  rfl
/-- Where the store of a digest stands. -/
theorem atS_dig {ops : Array Oper} {d : Option Tmp} {x y : Operand} {ty : TypeId} {pos : String} {af : Array Edge} {g : Option (Nat × Bool)} {rest : List Oper} {a : Act} {w : World} {Q : Exit → Act → World → Prop} (h : wpList Tryz.prog ops Q ({dst := d, op := .store 49 x y, type := ty, pos := pos, after := af, guard := g} :: rest) a w) : wpList Tryz.prog ops Q ({dst := d, op := .store 49 x y, type := ty, pos := pos, after := af, guard := g} :: rest) a w := h
theorem store_dig {ops : Array Oper} {rest : List Oper} {o : Oper} {A : Act} {w : World} {Q : Exit → Act → World → Prop} (hgd : o.guard = none) (x y : Operand) (ho : o.op = .store 49 x y)
    (B : Nat) (hx : A.eval x = .pointer (some ⟨B, 1, none⟩)) (r : List UInt8) (hy : A.eval y = .agg (r.map byteVal).toArray) (hn : r.length = 32) {k : Kd} (hr : VRow w B 51 (kL k)) (hk : k.2.length = 32)
    (h : ∀ w', VRow w' B 51 (kL (k.1, r)) → Only B w w' → wpList Tryz.prog ops Q rest (A.put o.dst undef) w') : wpList Tryz.prog ops Q (o :: rest) A w := by
  refine wpList_store_mid hgd 49 x y ho B 1 _ hx hy ?_ (by rw [sizeDg]; simp [hn]) (all_oneCell_toArray (one_bytes r)) ?_
  · have := there_dig hr hk
    simpa [hn] using this
  · have h2 := set_dig hr hk r hn
    exact h _ h2.1 h2.2
theorem run_buildK0 (s : ByteArray) (w : World) : (Instr.build 51 #[(0, .string s)]).run Tryz.prog w = .ok (.agg (kL (s, zero32)).toArray) w := run_build w _ _ _ (by kernel_rfl)
theorem at_buildK0 {ops : Array Oper} {rest : List Oper} {o : Option Tmp} {x : Nat × Operand} {ty : TypeId} {pos : String} {after : Array Edge} {gd : Option (Nat × Bool)} {a : Act} {w : World} {Q : Exit → Act → World → Prop}
    (h : wpList Tryz.prog ops Q ({ dst := o, op := .build 51 #[x], type := ty, pos := pos, after := after, guard := gd } :: rest) a w) : wpList Tryz.prog ops Q ({ dst := o, op := .build 51 #[x], type := ty, pos := pos, after := after, guard := gd } :: rest) a w := h
theorem step_buildK0 {ops : Array Oper} {rest : List Oper} {o : Oper} {a : Act} {w : World} {Q : Exit → Act → World → Prop} (hgd : o.guard = none) (x : Operand) (ho : o.op = .build 51 #[(0, x)])
    (s : ByteArray) (hx : a.eval x = .string s)
    (h : wpList Tryz.prog ops Q rest (a.put o.dst (.agg (kL (s, zero32)).toArray)) w) : wpList Tryz.prog ops Q (o :: rest) a w :=
  wpList_plain hgd fun K hK => by
    have hr := run_buildK0 s w
    rw [← hx] at hr
    unfold Oper.wp execOp
    simp only [ho]
    have e : (#[(0, x)] : Array (Nat × Operand)).map (fun (i, x) => (i, a.eval x)) = #[(0, a.eval x)] := by simp
    rw [e]
    simp only [Sem.run_bind, hr, Result.andThen_ok]
    exact hK _ _ h
end Go.Proofs.YthchcjjpplcfnaaGreat
