/-
  Kids in memory: one by value, a slice of them wherever it lies, a row of the call's own; a node by value. Conditions: those that each theorem names.
-/
import Derived.Test.YthchcjjpplcfnaaDoorMathN
import Derived.Test.YthchcjjpplcfnaaDoorGrow
import Derived.Test.YthchcjjpplcfnaaDoorR2
import Derived.Test.YthchcjjpplcfnaaDoorCRow
namespace Go.Proofs.YthchcjjpplcfnaaDoor
open Go.RowKit

/-- A kid's cells. -/
def kL (k : Kd) : List Value := .string k.1 :: k.2.map byteVal
theorem kL_len {k : Kd} (h : k.2.length = 32) : (kL k).length = 33 := by simp [kL, h]
theorem kL_one (k : Kd) : ∀ v ∈ kL k, v.oneCell' = true := by
  intro v hv
  simp only [kL, List.mem_cons] at hv
  rcases hv with rfl | hv
  · rfl
  · exact one_bytes _ v hv
def zeroK : Kd := (⟨#[]⟩, zero32)
theorem sizeK : (Tryd.prog.info? 37).map (·.size) = some 33 := by kernel_rfl
theorem sizeNd : (Tryd.prog.info? 25).map (·.size) = some 2 := by kernel_rfl
/-- A slice of kids, wherever it lies. -/
def SK (W : World) (a : Option Addr) (l : List Kd) : Prop :=
  0 < l.length → ∃ g o, a = some ⟨g, o, none⟩ ∧ g < W.heap.size ∧ ∀ (j : Nat) (k : Kd), l[j]? = some k → W.rangeAt g (o + j * 33) (kL k)
theorem SK.after {W W' : World} {a : Option Addr} {l : List Kd} (h : SK W a l) (hb : Below W.heap.size W W') : SK W' a l := fun h0 => by
  obtain ⟨g, o, e, hg, hc⟩ := h h0
  exact ⟨g, o, e, Nat.lt_of_lt_of_le hg hb.size, fun j x hj => range_after (hc j x hj) hg hb⟩
theorem SK.none (W : World) (a : Option Addr) : SK W a [] := fun h => absurd h (Nat.lt_irrefl _)
def FreshK (n : Nat) (a : Option Addr) (l : List Kd) : Prop := ∀ ad, a = some ad → 0 < l.length → n ≤ ad.block
theorem FreshK.nil (n : Nat) (l : List Kd) : FreshK n none l := fun _ e => by cases e
theorem FreshK.weak {n m : Nat} {a : Option Addr} {l : List Kd} (h : FreshK n a l) (hm : m ≤ n) : FreshK m a l := fun ad e h0 => Nat.le_trans hm (h ad e h0)
theorem SK.beside {q : Nat} {w w' : World} {a : Option Addr} {l : List Kd} (h : SK w a l) (hb : Beside (· = q) w w') (hne : ∀ ad, a = some ad → 0 < l.length → ad.block ≠ q) : SK w' a l := fun h0 => by
  obtain ⟨g, o, e, hg, hc⟩ := h h0
  have hn : g ≠ q := hne _ e h0
  refine ⟨g, o, e, Nat.lt_of_lt_of_le hg hb.size, fun j k hj i u hu => ?_⟩
  exact (World.cell?_of_block (hb.block g hg hn)).trans (hc j k hj i u hu)
theorem SK.only {D : Nat} {w w' : World} {a : Option Addr} {l : List Kd} (h : SK w a l) (ho : Only D w w') (hne : ∀ ad, a = some ad → 0 < l.length → ad.block ≠ D) : SK w' a l := fun h0 => by
  obtain ⟨g, o, e, hg, hc⟩ := h h0
  have hn : g ≠ D := hne _ e h0
  refine ⟨g, o, e, by rw [ho.size]; exact hg, fun j k hj i u hu => ?_⟩
  exact (World.cell?_of_block (w := w) (ho.block g hn)).trans (hc j k hj i u hu)
theorem range_dig {W : World} {g o : Nat} {k : Kd} (h : W.rangeAt g o (kL k)) : W.rangeAt g (o + 1) (k.2.map byteVal) := fun j v hv => by
  have := h (j + 1) v hv
  rw [show o + (j + 1) = o + 1 + j by omega] at this
  exact this
theorem range_name {W : World} {g o : Nat} {k : Kd} (h : W.rangeAt g o (kL k)) : W.cell? ⟨g, o, none⟩ = some (.string k.1) := by
  have := h 0 _ rfl
  rwa [Nat.add_zero] at this
theorem load_kid {ops : Array Oper} {rest : List Oper} {o : Oper} {a : Act} {w : World} {Q : Exit → Act → World → Prop} (hgd : o.guard = none) (x : Operand) (ho : o.op = .load 37 x)
    (B i : Nat) (hx : a.eval x = .pointer (some ⟨B, i, none⟩)) (k : Kd) (hr : w.rangeAt B i (kL k)) (hn : k.2.length = 32)
    (h : wpList Tryd.prog ops Q rest (a.put o.dst (.agg (kL k).toArray)) w) : wpList Tryd.prog ops Q (o :: rest) a w :=
  wpList_load_mid hgd 37 x ho B i hx _ _ hr Tryd.underlying37 rfl (by rw [sizeK, kL_len hn]) h
theorem load_dig {ops : Array Oper} {rest : List Oper} {o : Oper} {a : Act} {w : World} {Q : Exit → Act → World → Prop} (hgd : o.guard = none) (x : Operand) (ho : o.op = .load 33 x)
    (B i : Nat) (hx : a.eval x = .pointer (some ⟨B, i, none⟩)) (d : List UInt8) (hr : w.rangeAt B i (d.map byteVal)) (hn : d.length = 32)
    (h : wpList Tryd.prog ops Q rest (a.put o.dst (.agg (d.map byteVal).toArray)) w) : wpList Tryd.prog ops Q (o :: rest) a w :=
  wpList_load_mid hgd 33 x ho B i hx _ _ hr Tryd.underlying33 rfl (by rw [sizeDg, List.length_map, hn]) h

/-! A row of kids of the call's own. -/
def flatK : List Kd → List Value
  | [] => []
  | k :: l => kL k ++ flatK l
theorem flatK_len : ∀ {l : List Kd}, Digs l → (flatK l).length = l.length * 33
  | [], _ => rfl
  | k :: l, h => by
    rw [flatK, List.length_append, kL_len (h k (List.mem_cons_self ..)), flatK_len fun x hx => h x (List.mem_cons_of_mem _ hx), List.length_cons]
    omega
theorem flatK_append : ∀ l m : List Kd, flatK (l ++ m) = flatK l ++ flatK m
  | [], _ => rfl
  | k :: l, m => by simp [flatK, flatK_append l m]
theorem flatK_one : ∀ (l : List Kd), ∀ v ∈ flatK l, v.oneCell' = true
  | [], _, h => by cases h
  | k :: l, v, h => by
    rcases List.mem_append.1 h with h | h
    · exact kL_one k v h
    · exact flatK_one l v h
theorem flatK_get : ∀ {l : List Kd}, Digs l → ∀ (j : Nat) (k : Kd), l[j]? = some k → ∀ i u, (kL k)[i]? = some u → (flatK l)[j * 33 + i]? = some u
  | [], _, j, k, h, _, _, _ => by simp at h
  | y :: l, _, 0, k, h, i, u, hu => by
    simp at h
    subst h
    have hi : i < (kL y).length := (List.getElem?_eq_some_iff.1 hu).1
    rw [flatK, Nat.zero_mul, Nat.zero_add, List.getElem?_append_left hi]
    exact hu
  | y :: l, hd, j + 1, k, h, i, u, hu => by
    have hl := kL_len (hd y (List.mem_cons_self ..))
    rw [flatK, List.getElem?_append_right (by omega)]
    rw [show (j + 1) * 33 + i - (kL y).length = j * 33 + i by omega]
    exact flatK_get (fun x hx => hd x (List.mem_cons_of_mem _ hx)) j k (by simpa using h) i u hu
theorem flatK_cells {W : World} {g : Nat} : ∀ {l : List Kd}, Digs l → ∀ o, (∀ (j : Nat) (k : Kd), l[j]? = some k → W.rangeAt g (o + j * 33) (kL k)) → ∀ j u, (flatK l)[j]? = some u → W.cell? ⟨g, o + j, none⟩ = some u
  | [], _, _, _, j, u, hu => by simp [flatK] at hu
  | k :: l, hd, o, hc, j, u, hu => by
    have hl := kL_len (hd k (List.mem_cons_self ..))
    by_cases hj : j < 33
    · rw [flatK, List.getElem?_append_left (by omega)] at hu
      have := hc 0 k rfl j u hu
      rwa [Nat.zero_mul, Nat.add_zero] at this
    · rw [flatK, List.getElem?_append_right (by omega), hl] at hu
      have := flatK_cells (W := W) (g := g) (fun x hx => hd x (List.mem_cons_of_mem _ hx)) (o + 33) (fun i x hi => by
        have := hc (i + 1) x (by simpa using hi)
        rw [show o + (i + 1) * 33 = o + 33 + i * 33 by omega] at this
        exact this) (j - 33) u hu
      rwa [show o + 33 + (j - 33) = o + j by omega] at this
theorem own_sk {W : World} {base : Nat} {v : Value} {l : List Kd} (hd : Digs l) (h : W.ownsRow base 37 33 v l.length (flatK l)) : ∃ a cap, v = .slice a l.length cap ∧ l.length ≤ cap ∧ SK W a l ∧ FreshK base a l := by
  rcases h.2 with ⟨rfl, h0⟩ | ⟨g, cap, cur, rfl, hg, hh, c1, c2, c3, c4⟩
  · have : l = [] := List.eq_nil_of_length_eq_zero h0
    subst this
    exact ⟨none, 0, rfl, Nat.le_refl _, SK.none _ _, FreshK.nil _ _⟩
  · refine ⟨_, cap, rfl, c1, fun _ => ⟨g, 0, rfl, (Array.getElem?_eq_some_iff.1 hh).1, fun j k hj i u hu => ?_⟩, fun ad e _ => ?_⟩
    · have hjl : j < l.length := (List.getElem?_eq_some_iff.1 hj).1
      have hi : i < (kL k).length := (List.getElem?_eq_some_iff.1 hu).1
      rw [kL_len (hd k (List.mem_of_getElem? hj))] at hi
      rw [cell_of_row W g _ cur 37 (0, 0) hh]
      have h5 : (cur.toList.take (l.length * 33))[j * 33 + i]? = (flatK l)[j * 33 + i]? := by rw [c4]
      rw [List.getElem?_take_of_lt (by omega), flatK_get hd j k hj i u hu] at h5
      rw [show 0 + j * 33 + i = j * 33 + i by omega]
      simpa using h5
    · injection e with e
      subst e
      exact hg
def zeroKA : Array Value := #[.string ⟨#[]⟩, .int .u8 0, .int .u8 0, .int .u8 0, .int .u8 0, .int .u8 0, .int .u8 0, .int .u8 0, .int .u8 0, .int .u8 0, .int .u8 0, .int .u8 0, .int .u8 0, .int .u8 0, .int .u8 0, .int .u8 0, .int .u8 0, .int .u8 0, .int .u8 0, .int .u8 0, .int .u8 0, .int .u8 0, .int .u8 0, .int .u8 0, .int .u8 0, .int .u8 0, .int .u8 0, .int .u8 0, .int .u8 0, .int .u8 0, .int .u8 0, .int .u8 0, .int .u8 0]
theorem infoK : (Tryd.prog.info? 37).map (fun i => (i.zero, i.size, i.bytes)) = some (some (.agg zeroKA), 33, 48) := by kernel_rfl
/-- Kids appended to a row of the call's own. -/
theorem append_kids {w : World} {ops : Array Oper} {rest : List Oper} {o : Oper} {a : Act} {Q : Exit → Act → World → Prop} (hgd : o.guard = none) (s x : Operand)
    (ho : o.op = .call { callee := .builtin .append, args := #[s, x], argTypes := #[23, 23] }) (base : Nat) (v : Value) (l : List Kd) (hs : a.eval s = v) (hown : w.ownsRow base 37 33 v l.length (flatK l))
    (g c : Nat) (xs : List Kd) (hdx : Digs xs) (off : Nat) (hx : a.eval x = .slice (some ⟨g, off, none⟩) xs.length c) (hsl : ∀ (j : Nat) (k : Kd), xs[j]? = some k → w.rangeAt g (off + j * 33) (kL k)) (hn : l.length + xs.length ≤ 200000) (hbase : base ≤ w.heap.size)
    (h : ∀ v' w', w'.ownsRow base 37 33 v' (l ++ xs).length (flatK (l ++ xs)) → Below base w w' → w.grownBy w' v.ownBlock → wpList Tryd.prog ops Q rest (a.put o.dst v') w') : wpList Tryd.prog ops Q (o :: rest) a w := by
  obtain ⟨i0, hi, hz0, hz1, hz2⟩ := info_parts infoK
  refine wpList_append_own_at w hgd s x 23 ho base 37 i0 _ 33 48 Tryd.underlying23 hi hz0 hz1 hz2 rfl (by decide) v l.length (flatK l) hs hown ⟨g, off, none⟩ xs.length c (flatK xs) hx (flatK_len hdx) (fun j u hu => ?_) (flatK_one xs) (by unfold maxLen; omega) (by omega) hbase ?_
  · rw [show (⟨g, off, none⟩ : Addr).add j = ⟨g, off + j, none⟩ by unfold Addr.add; split <;> simp_all]
    exact flatK_cells hdx off hsl j u hu
  · intro v' w' g1 g2 _ _
    refine h v' w' ?_ (grown_below hown g2 hbase) g2
    rw [List.length_append, flatK_append]
    exact g1
theorem kid_row {W : World} {D T : Nat} {k : Kd} (h : VRow W D T (kL k)) : ∀ (j : Nat) (x : Kd), [k][j]? = some x → W.rangeAt D (0 + j * 33) (kL x) := fun j x hj => by
  have hj0 : j = 0 := by have := (List.getElem?_eq_some_iff.1 hj).1; simp at this; omega
  subst hj0
  simp at hj
  subst hj
  exact h.range

/-- A node's cells: where its lists lie. -/
def ndL (n : Nd) (a : Option Addr) (c : Nat) (b : Option Addr) (d : Nat) : List Value := [.slice a n.vs.length c, .slice b n.ks.length d]
theorem ndL_one (n : Nd) (a : Option Addr) (c : Nat) (b : Option Addr) (d : Nat) : ∀ v ∈ ndL n a c b d, v.oneCell' = true := by simp [ndL, Value.oneCell']
/-- What a node's lists are, wherever they lie. -/
structure NdAt (W : World) (n : Nd) (a : Option Addr) (c : Nat) (b : Option Addr) (d : Nat) : Prop where
  vc : n.vs.length ≤ c
  kc : n.ks.length ≤ d
  sv : SV W a n.vs
  sk : SK W b n.ks
theorem NdAt.after {W W' : World} {n : Nd} {a : Option Addr} {c : Nat} {b : Option Addr} {d : Nat} (h : NdAt W n a c b d) (hb : Below W.heap.size W W') : NdAt W' n a c b d := ⟨h.vc, h.kc, h.sv.after hb, h.sk.after hb⟩
/-- A node that may be gone through. -/
structure Nok (n : Nd) : Prop where
  few : Few n.vs
  kids : n.ks.length ≤ 100000
  digs : Digs n.ks
  names : ∀ k ∈ n.ks, k.1.size ≤ 50000
def zeroN : List Value := [.slice none 0 0, .slice none 0 0]
theorem load_node {ops : Array Oper} {rest : List Oper} {o : Oper} {a : Act} {w : World} {Q : Exit → Act → World → Prop} (hgd : o.guard = none) (x : Operand) (ho : o.op = .load 25 x)
    (B : Nat) (hx : a.eval x = .pointer (some ⟨B, 0, none⟩)) (vs : List Value) (hr : VRow w B 25 vs) (hn : vs.length = 2)
    (h : wpList Tryd.prog ops Q rest (a.put o.dst (.agg vs.toArray)) w) : wpList Tryd.prog ops Q (o :: rest) a w :=
  wpList_load_row hgd 25 x ho B hx 25 vs.toArray (0, 0) _ hr Tryd.underlying25 rfl (by rw [sizeNd]; simp [hn]) h
end Go.Proofs.YthchcjjpplcfnaaDoor
