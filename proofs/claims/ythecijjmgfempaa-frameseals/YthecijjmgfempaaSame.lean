/-
  What Same answers, the program's and the document's, and slices.Equal.
-/
import Derived.Test.YthecijjmgfempaaRow
import Derived.Lib.QuietBelow
import Derived.Test.YthecijjmgfempaaCShelf
import Derived.Lib.BufferWrite
namespace Go.Proofs.Ythecijjmgfempaa
open Go.RowKit

end Go.Proofs.Ythecijjmgfempaa

namespace Go.Proofs.Ythecijjmgfempaa
open Go.RowKit

/-- A slice of lists of dots, wherever it and they lie. -/
def RL (W : World) (a : Option Addr) (rows : List (List Vc.D)) : Prop :=
  0 < rows.length → ∃ g o, a = some ⟨g, o, none⟩ ∧ g < W.heap.size ∧ ∀ (j : Nat) (ds : List Vc.D), rows[j]? = some ds → ∃ r c, W.cell? ⟨g, o + j, none⟩ = some (.slice r ds.length c) ∧ ds.length ≤ c ∧ Sl W r ds
theorem RL.after {W W' : World} {a : Option Addr} {rows : List (List Vc.D)} (h : RL W a rows) (hb : Below W.heap.size W W') : RL W' a rows := fun h0 => by
  obtain ⟨g, o, e, hg, hc⟩ := h h0
  refine ⟨g, o, e, Nat.lt_of_lt_of_le hg hb.size, fun j ds hj => ?_⟩
  obtain ⟨r, c, h1, h2, h3⟩ := hc j ds hj
  exact ⟨r, c, (hb.cell (p := ⟨g, o + j, Option.none⟩) hg).trans h1, h2, h3.after hb⟩
theorem RL.none (W : World) (a : Option Addr) : RL W a [] := fun h => absurd h (Nat.lt_irrefl _)
/-- Few rows, none too long to be gone through. -/
def FewR (rows : List (List Vc.D)) : Prop := rows.length ≤ 100000 ∧ ∀ ds ∈ rows, ds.length ≤ 9223372036854775807
theorem FewR.at {rows : List (List Vc.D)} (h : FewR rows) {j : Nat} {ds : List Vc.D} (hj : rows[j]? = some ds) : ds.length ≤ 9223372036854775807 := h.2 ds (List.mem_of_getElem? hj)
end Go.Proofs.Ythecijjmgfempaa

namespace Go.Proofs.Ythecijjmgfempaa
open Go.RowKit

/-- Where rows lie. -/
def RProv (O : Nat → Prop) (W : World) (a : Option Addr) (rows : List (List Vc.D)) : Prop :=
  0 < rows.length → ∀ g o, a = some ⟨g, o, none⟩ → O g ∧ ∀ (j : Nat) (ds : List Vc.D) (r : Option Addr) (c : Nat), rows[j]? = some ds → W.cell? ⟨g, o + j, none⟩ = some (.slice r ds.length c) → ∀ ad, r = some ad → 0 < ds.length → O ad.block
theorem RProv.any (W : World) (a : Option Addr) (rows : List (List Vc.D)) : RProv (fun _ => True) W a rows := fun _ _ _ _ => ⟨trivial, fun _ _ _ _ _ _ _ _ _ => trivial⟩
theorem RProv.none (O : Nat → Prop) (W : World) (a : Option Addr) : RProv O W a [] := fun h => absurd h (Nat.lt_irrefl _)
theorem RProv.after {O : Nat → Prop} {W W' : World} {a : Option Addr} {rows : List (List Vc.D)} (h : RProv O W a rows) (hs : RL W a rows) (hb : Below W.heap.size W W') : RProv O W' a rows := fun h0 g o e => by
  obtain ⟨h1, h2⟩ := h h0 g o e
  obtain ⟨g', o', e', hg, _⟩ := hs h0
  rw [e] at e'
  injection e' with e'
  injection e' with e1 e2
  subst e1
  exact ⟨h1, fun j ds r c hj hc => h2 j ds r c hj (by rw [← hb.cell (p := ⟨g, o + j, Option.none⟩) hg]; exact hc)⟩
/-- Lists, and where they lie. -/
abbrev RP := List Vc.D × Option Addr × Nat
def flatR (l : List RP) : List Value := l.map fun x => .slice x.2.1 x.1.length x.2.2
theorem rl_list {O : Nat → Prop} {W : World} {g : Nat} : ∀ (rows : List (List Vc.D)) (o : Nat), (∀ (j : Nat) (ds : List Vc.D), rows[j]? = some ds → ∃ r c, W.cell? ⟨g, o + j, none⟩ = some (.slice r ds.length c) ∧ ds.length ≤ c ∧ Sl W r ds) → (∀ (j : Nat) (ds : List Vc.D) (r : Option Addr) (c : Nat), rows[j]? = some ds → W.cell? ⟨g, o + j, none⟩ = some (.slice r ds.length c) → ∀ ad, r = some ad → 0 < ds.length → O ad.block) → ∃ ps : List RP, ps.map (·.1) = rows ∧ (∀ j u, (flatR ps)[j]? = some u → W.cell? ⟨g, o + j, none⟩ = some u) ∧ ∀ x ∈ ps, x.1.length ≤ x.2.2 ∧ Sl W x.2.1 x.1 ∧ ∀ ad, x.2.1 = some ad → 0 < x.1.length → O ad.block
  | [], _, _, _ => ⟨[], rfl, fun j u h => by simp [flatR] at h, fun _ h => by cases h⟩
  | d :: rows, o, h, hp => by
    obtain ⟨r, c, h1, h2, h3⟩ := h 0 d rfl
    have h4 := hp 0 d r c rfl h1
    obtain ⟨ps, e1, e2, e3⟩ := rl_list rows (o + 1) (fun j ds hj => by
      have := h (j + 1) ds (by simpa using hj)
      rw [show o + (j + 1) = o + 1 + j by omega] at this
      exact this) (fun j ds r c hj hc => hp (j + 1) ds r c (by simpa using hj) (by rw [show o + (j + 1) = o + 1 + j by omega]; exact hc))
    refine ⟨(d, r, c) :: ps, by rw [List.map_cons, e1], fun j u hu => ?_, fun x hx => ?_⟩
    · cases j with
      | zero =>
        simp [flatR] at hu
        subst hu
        exact h1
      | succ j =>
        have := e2 j u (by simpa [flatR] using hu)
        rw [show o + 1 + j = o + (j + 1) by omega] at this
        exact this
    · rcases List.mem_cons.1 hx with rfl | hx
      · exact ⟨h2, h3, h4⟩
      · exact e3 x hx
theorem flatR_one (l : List RP) : ∀ v ∈ flatR l, v.oneCell' = true := fun v hv => by
  obtain ⟨x, _, rfl⟩ := List.mem_map.1 hv
  rfl
theorem set_at {α : Type} (l : List α) (p : Nat) (x y : α) (j : Nat) (h : (l.set p x)[j]? = some y) : (j = p ∧ y = x) ∨ (j ≠ p ∧ l[j]? = some y) := by
  by_cases e : j = p
  · subst e
    have hj := (List.getElem?_eq_some_iff.1 h).1
    rw [List.length_set] at hj
    rw [List.getElem?_set_self hj] at h
    injection h with h
    exact .inl ⟨rfl, h.symm⟩
  · rw [List.getElem?_set_ne (fun e' => e e'.symm)] at h
    exact .inr ⟨e, h⟩

end Go.Proofs.Ythecijjmgfempaa

namespace Go.Proofs.Ythecijjmgfempaa
open Go.RowKit

/-- 'copy(d[:], rest)', d an array of 32 bytes, rest no shorter. -/
theorem copy32 (W : World) (B : Nat) (olds : List Value) (ho : olds.length = 32) (h : VRow W B 23 olds) (b : List UInt8) (hb : 32 ≤ b.length) (ty : TypeId) :
    ∃ W2, (Builtin.copy_ #[36, 9] ty #[.slice (some ⟨B, 0, none⟩) 32 32, .string (str b)]).run Try.prog W = .ok (.int .i64 32) W2 ∧ Only B W W2 ∧ VRow W2 B 23 ((b.take 32).map byteVal) := by
  have hnl : ((b.take 32).map byteVal).length = 32 := by rw [List.length_map, List.length_take]; omega
  have hst := run_storeCells_at Try.prog B 0 23 ((b.take 32).map byteVal) 0 olds.toArray W h (by rw [hnl]; simp [ho]) (one_bytes _)
  have hcell : olds.toArray.toList.take (0 + 0) ++ (b.take 32).map byteVal ++ olds.toArray.toList.drop (0 + 0 + ((b.take 32).map byteVal).length) = (b.take 32).map byteVal := by
    rw [hnl, List.toList_toArray, List.drop_of_length_le (by omega)]
    simp
  rw [hcell] at hst
  refine ⟨W.setRow B ((b.take 32).map byteVal).toArray, ?_, ⟨rfl, rfl, rfl, by simp, fun j hj => setRow_other W B j _ hj⟩, setRow_heap W B _ _ 23 (0, 0) h⟩
  have hmin : Nat.min (str b).size 32 = 32 := Nat.min_eq_right (by rw [str_size]; exact hb)
  rw [List.map_take] at hst
  have hfn : (byteVal : UInt8 → Value) = fun b => Value.int .u8 (b.toNat : Int) := rfl
  have hdt : (str b).data.toList = b := str_data b
  rw [hfn] at hst
  simp [Builtin.copy_, run_underlying Try.underlying36, Builtin.lenOf, Builtin.firstCells, Try.sizeOf5, hmin, hst, goInt, hdt, hfn]
theorem step_copy32 {ops : Array Oper} {rest : List Oper} {o : Oper} {a : Act} {w : World} {Q : Exit → Act → World → Prop} (hgd : o.guard = none) (d x : Operand)
    (hop : o.op = .call { callee := .builtin .copy, args := #[d, x], argTypes := #[36, 9] })
    (B : Nat) (hd : a.eval d = .slice (some ⟨B, 0, none⟩) 32 32) (b : List UInt8) (hx : a.eval x = .string (str b)) (olds : List Value) (ho : olds.length = 32) (hr : VRow w B 23 olds) (hb : 32 ≤ b.length)
    (h : ∀ w', Only B w w' → VRow w' B 23 ((b.take 32).map byteVal) → wpList Try.prog ops Q rest (a.put o.dst (.int .i64 32)) w') :
    wpList Try.prog ops Q (o :: rest) a w := by
  refine wpList_plain hgd fun K hK => ?_
  obtain ⟨w', hrun, h2, h3⟩ := copy32 w B olds ho hr b hb o.type
  unfold Oper.wp execOp
  simp only [hop, resolve, invoke, builtin, Sem.run_bind, Sem.run_pure, Result.andThen_ok, List.map_toArray, List.map_cons, List.map_nil, hd, hx, hrun]
  exact hK _ _ (h w' h2 h3)

theorem below_only {n B : Nat} {a w w' : World} (h : Below n a w) (ho : Only B w w') (hn : n ≤ B) : Below n a w' := h.trans (ho.below hn)
theorem two_below (w : World) (A C : Obj) : Below w.heap.size w ((w.alloc A).alloc C) := ((Below.refl w.heap.size w).alloc (Nat.le_refl _) _).alloc (by simp) _

/-- What digestAhead answers. -/
def aheadD (b : List UInt8) : List UInt8 × Nat × Int := if b.length < 32 then (zero32, 0, 5) else (b.take 32, 32, 0)
theorem aheadD_len (b : List UInt8) : (aheadD b).1.length = 32 := by
  unfold aheadD
  split
  · rfl
  · show (b.take 32).length = 32
    rw [List.length_take]; omega
theorem aheadD_ok (b : List UInt8) : (aheadD b).2.2 = 0 → (aheadD b).2.1 ≤ b.length := by
  unfold aheadD
  split
  · intro h; cases h
  · intro _; show 32 ≤ b.length; omega
theorem rDigest_ahead (st : St) : rDigest st = (got st (aheadD st.1).2.2 zero32 (aheadD st.1).1, cut st (aheadD st.1).2.1 (aheadD st.1).2.2) := by
  obtain ⟨b, e⟩ := st
  unfold rDigest got cut aheadD
  by_cases h0 : e ≠ 0
  · simp [h0]
  · have h0' : e = 0 := by simpa using h0
    subst h0'
    by_cases h1 : b.length < 32
    · simp [h1]
    · simp [h1]
/-- Two new arrays of 32 zeros. -/
structure Start (w w1 : World) : Prop where
  z0 : VRow w1 w.heap.size 23 (zero32.map byteVal)
  z1 : VRow w1 (w.heap.size + 1) 23 (zero32.map byteVal)
  below : Below w.heap.size w w1
theorem start_of {w w1 : World} (h : w1 = (w.alloc (.cells (zero32.map byteVal).toArray 23)).alloc (.cells (zero32.map byteVal).toArray 23)) : Start w w1 := by
  subst h
  exact ⟨(VRow.new w 23 _).alloc _, VRow.newAt (by simp), two_below w _ _⟩
end Go.Proofs.Ythecijjmgfempaa
