/-
  What the document's of, Join, Meet and With answer: the vector of the counts of all peers.
-/
import Derived.Test.YthchcjjpplcfnaaDoorRow
import Derived.Test.YthchcjjpplcfnaaDoorSib
import Derived.Maps.AppendAt
import Derived.Lib.Strings
namespace Go.Proofs.YthchcjjpplcfnaaDoor
open Go.RowKit

theorem grown_below {w w' : World} {base : Nat} {e : TypeId} {size : Nat} {v : Value} {n : Nat} {xs : List Value} (hown : w.ownsRow base e size v n xs) (hg : w.grownBy w' v.ownBlock) (hb : base ≤ w.heap.size) : Below base w w' :=
  ⟨hg.os, hg.tape, hg.output, hg.size, fun k hk => hg.block k (by omega) (by
    rcases hown.2 with ⟨rfl, _⟩ | ⟨g, cap, cur, rfl, hg', _⟩
    · simp [Value.ownBlock]
    · simp [Value.ownBlock]; omega)⟩

end Go.Proofs.YthchcjjpplcfnaaDoor

namespace Go.Proofs.YthchcjjpplcfnaaDoor
open Go.RowKit

/-- A version, and where its past lies. -/
abbrev VP := Vc.V × Option Addr × Nat
def flatV : List VP → List Value
  | [] => []
  | x :: l => verL x.1 x.2.1 x.2.2 ++ flatV l
theorem flatV_len : ∀ l : List VP, (flatV l).length = l.length * 5
  | [] => rfl
  | x :: l => by simp [flatV, verL, flatV_len l]; omega
theorem flatV_append : ∀ l m : List VP, flatV (l ++ m) = flatV l ++ flatV m
  | [], _ => rfl
  | x :: l, m => by simp [flatV, flatV_append l m]
theorem flatV_one : ∀ (l : List VP), ∀ v ∈ flatV l, v.oneCell' = true
  | [], _, h => by cases h
  | x :: l, v, h => by
    rcases List.mem_append.1 h with h | h
    · simp [verL] at h
      rcases h with rfl | rfl | rfl | rfl | rfl <;> rfl
    · exact flatV_one l v h
theorem flatV_get : ∀ (l : List VP) (j : Nat) (x : VP), l[j]? = some x → ∀ i u, (verL x.1 x.2.1 x.2.2)[i]? = some u → (flatV l)[j * 5 + i]? = some u
  | [], j, x, h, _, _, _ => by simp at h
  | y :: l, 0, x, h, i, u, hu => by
    simp at h
    subst h
    have hi : i < (verL y.1 y.2.1 y.2.2).length := (List.getElem?_eq_some_iff.1 hu).1
    rw [flatV, Nat.zero_mul, Nat.zero_add, List.getElem?_append_left hi]
    exact hu
  | y :: l, j + 1, x, h, i, u, hu => by
    rw [flatV, List.getElem?_append_right (by simp [verL]; omega)]
    rw [show (j + 1) * 5 + i - (verL y.1 y.2.1 y.2.2).length = j * 5 + i by simp [verL]; omega]
    exact flatV_get l j x (by simpa using h) i u hu
/-- A past that lies apart from a row, in a block that may be. -/
def Apart (O : Nat → Prop) (row : Option Nat) (r : Option Addr) (ds : List Vc.D) : Prop := ∀ ad, r = some ad → 0 < ds.length → some ad.block ≠ row ∧ O ad.block
theorem Sl.apart {O : Nat → Prop} {W : World} {r : Option Addr} {ds : List Vc.D} (h : Sl W r ds) {row : Option Nat} (hr : ∀ g, row = some g → W.heap.size ≤ g) (hO : ∀ ad, r = some ad → 0 < ds.length → O ad.block) : Apart O row r ds := fun ad e h0 => by
  refine ⟨fun e' => ?_, hO ad e h0⟩
  obtain ⟨g, o, e2, hg, _⟩ := h h0
  rw [e] at e2
  injection e2 with e2
  subst e2
  have := hr _ e'.symm
  have : W.heap.size ≤ g := this
  omega
/-- Where versions and their pasts lie. -/
def Prov (O : Nat → Prop) (W : World) (a : Option Addr) (vs : List Vc.V) : Prop :=
  0 < vs.length → ∀ g o, a = some ⟨g, o, none⟩ → O g ∧ ∀ j v r c, vs[j]? = some v → W.cell? ⟨g, o + j * 5 + 2, none⟩ = some (.slice r v.past.length c) → ∀ ad, r = some ad → 0 < v.past.length → O ad.block
theorem Prov.any (W : World) (a : Option Addr) (vs : List Vc.V) : Prov (fun _ => True) W a vs := fun _ _ _ _ => ⟨trivial, fun _ _ _ _ _ _ _ _ _ => trivial⟩
theorem Prov.none (O : Nat → Prop) (W : World) (a : Option Addr) : Prov O W a [] := fun h => absurd h (Nat.lt_irrefl _)
theorem Prov.after {O : Nat → Prop} {W W' : World} {a : Option Addr} {vs : List Vc.V} (h : Prov O W a vs) (hs : SV W a vs) (hb : Below W.heap.size W W') : Prov O W' a vs := fun h0 g o e => by
  obtain ⟨h1, h2⟩ := h h0 g o e
  obtain ⟨g', o', e', hg, _⟩ := hs h0
  rw [e] at e'
  injection e' with e'
  injection e' with e1 e2
  subst e1
  exact ⟨h1, fun j v r c hj hc => h2 j v r c hj (by rw [← hb.cell (p := ⟨g, o + j * 5 + 2, Option.none⟩) hg]; exact hc)⟩
/-- What was there ahead lies below. -/
theorem SV.prov {W : World} {a : Option Addr} {vs : List Vc.V} (h : SV W a vs) {O : Nat → Prop} (hO : ∀ g, g < W.heap.size → O g) : Prov O W a vs := fun h0 g o e => by
  obtain ⟨g', o', e', hg, hc⟩ := h h0
  rw [e] at e'
  injection e' with e'
  injection e' with e1 e2
  subst e1
  subst e2
  refine ⟨hO _ hg, fun j v r c hj hcell ad ead h1 => ?_⟩
  obtain ⟨r', c', _, _, x2, _, _, _, x6⟩ := hc j v hj
  rw [hcell] at x2
  injection x2 with x2
  injection x2 with x2 _ _
  subst x2
  obtain ⟨g2, o2, e2, hg2, _⟩ := x6 h1
  rw [ead] at e2
  injection e2 with e2
  subst e2
  exact hO _ hg2
/-- A row of versions of the call's own. -/
structure OV (O : Nat → Prop) (W : World) (base : Nat) (l : Value) (vs : List Vc.V) : Prop where
  is : ∃ ps : List VP, ps.map (·.1) = vs ∧ W.ownsRow base 64 5 l ps.length (flatV ps) ∧ ∀ x ∈ ps, x.1.past.length ≤ x.2.2 ∧ Sl W x.2.1 x.1.past ∧ Apart O l.ownBlock x.2.1 x.1.past
theorem OV.nil (O : Nat → Prop) (W : World) (base : Nat) : OV O W base (.slice none 0 0) [] := ⟨[], rfl, World.ownsRow_nil _ _ _ _, fun _ h => by cases h⟩
theorem OV.lit (O : Nat → Prop) (W : World) : OV O (W.alloc (.cells #[] 64)) W.heap.size (.slice (some ⟨W.heap.size, 0, none⟩) 0 0) [] :=
  ⟨[], rfl, World.ownsRow_lit (base := W.heap.size) (e := 64) (size := 5) W #[] 0 (Nat.le_refl _) (by unfold maxLen; omega) rfl, fun _ h => by cases h⟩
theorem OV.after {O : Nat → Prop} {W W' : World} {base : Nat} {l : Value} {vs : List Vc.V} (h : OV O W base l vs) (hb : Below W.heap.size W W') : OV O W' base l vs := by
  obtain ⟨ps, h1, h2, h3⟩ := h.is
  refine ⟨ps, h1, ?_, fun x hx => ⟨(h3 x hx).1, (h3 x hx).2.1.after hb, (h3 x hx).2.2⟩⟩
  refine ⟨h2.1, ?_⟩
  rcases h2.2 with h2 | ⟨g, cap, cur, e1, e2, e3, e4⟩
  · exact .inl h2
  · exact .inr ⟨g, cap, cur, e1, e2, (hb.block g (Array.getElem?_eq_some_iff.1 e3).1).trans e3, e4⟩
theorem OV.lt {O : Nat → Prop} {W : World} {base : Nat} {l : Value} {vs : List Vc.V} (h : OV O W base l vs) : ∀ g, l.ownBlock = some g → base ≤ g ∧ g < W.heap.size := fun g e => by
  obtain ⟨ps, _, h2, _⟩ := h.is
  rcases h2.2 with ⟨rfl, _⟩ | ⟨g', cap, cur, rfl, e2, e3, _⟩
  · cases e
  · injection e with e
    subst e
    exact ⟨e2, (Array.getElem?_eq_some_iff.1 e3).1⟩
theorem OV.sv {O : Nat → Prop} {W : World} {base : Nat} {l : Value} {vs : List Vc.V} (h : OV O W base l vs) : ∃ a cap, l = .slice a vs.length cap ∧ vs.length ≤ cap ∧ SV W a vs ∧ ((∀ g, base ≤ g → O g) → Prov O W a vs) := by
  obtain ⟨ps, rfl, h2, h3⟩ := h.is
  rcases h2.2 with ⟨rfl, h0⟩ | ⟨g, cap, cur, rfl, hg, hh, c1, c2, c3, c4⟩
  · have : ps = [] := List.eq_nil_of_length_eq_zero h0
    subst this
    exact ⟨none, 0, rfl, Nat.le_refl _, SV.none _ _, fun _ => Prov.none _ _ _⟩
  · have e1 : ∀ j x, ps[j]? = some x → ∀ i u, (verL x.1 x.2.1 x.2.2)[i]? = some u → W.cell? ⟨g, 0 + j * 5 + i, none⟩ = some u := by
      intro j x hx i u hu
      have hjl : j < ps.length := (List.getElem?_eq_some_iff.1 hx).1
      have hi : i < 5 := (List.getElem?_eq_some_iff.1 hu).1
      rw [cell_of_row W g _ cur 64 (0, 0) hh]
      have h5 : (cur.toList.take (ps.length * 5))[j * 5 + i]? = (flatV ps)[j * 5 + i]? := by rw [c4]
      rw [List.getElem?_take_of_lt (by omega), flatV_get ps j x hx i u hu] at h5
      rw [show 0 + j * 5 + i = j * 5 + i by omega]
      simpa using h5
    refine ⟨_, cap, by rw [List.length_map], by rw [List.length_map]; exact c1, fun _ => ⟨g, 0, rfl, (Array.getElem?_eq_some_iff.1 hh).1, fun j v hj => ?_⟩, fun hO _ g' o' e => ?_⟩
    · rw [List.getElem?_map] at hj
      obtain ⟨x, hx, rfl⟩ := Option.map_eq_some_iff.1 hj
      have hm := h3 x (List.mem_of_getElem? hx)
      exact ⟨x.2.1, x.2.2, e1 j x hx 0 _ rfl, e1 j x hx 1 _ rfl, e1 j x hx 2 _ rfl, e1 j x hx 3 _ rfl, e1 j x hx 4 _ rfl, hm.1, hm.2.1⟩
    · injection e with e
      injection e with e2 e3
      subst e2
      subst e3
      refine ⟨hO _ hg, fun j v r c hj hc ad ead h0 => ?_⟩
      rw [List.getElem?_map] at hj
      obtain ⟨x, hx, rfl⟩ := Option.map_eq_some_iff.1 hj
      rw [e1 j x hx 2 _ rfl] at hc
      injection hc with hc
      injection hc with hc _ _
      subst hc
      exact ((h3 x (List.mem_of_getElem? hx)).2.2 ad ead h0).2
/-- Versions in memory, their pasts apart from a row. -/
def SVN (O : Nat → Prop) (row : Option Nat) (W : World) (a : Option Addr) (vs : List Vc.V) : Prop :=
  0 < vs.length → ∃ g o, a = some ⟨g, o, none⟩ ∧ ∃ ps : List VP, ps.map (·.1) = vs ∧ (∀ j u, (flatV ps)[j]? = some u → W.cell? ⟨g, o + j, none⟩ = some u) ∧ ∀ x ∈ ps, x.1.past.length ≤ x.2.2 ∧ Sl W x.2.1 x.1.past ∧ Apart O row x.2.1 x.1.past
theorem sv_list {O : Nat → Prop} {W : World} {g : Nat} : ∀ (vs : List Vc.V) (o : Nat), (∀ (j : Nat) (v : Vc.V), vs[j]? = some v → VAt W g (o + j * 5) v) → (∀ j v r c, vs[j]? = some v → W.cell? ⟨g, o + j * 5 + 2, none⟩ = some (.slice r v.past.length c) → ∀ ad, r = some ad → 0 < v.past.length → O ad.block) → ∃ ps : List VP, ps.map (·.1) = vs ∧ (∀ j u, (flatV ps)[j]? = some u → W.cell? ⟨g, o + j, none⟩ = some u) ∧ ∀ x ∈ ps, x.1.past.length ≤ x.2.2 ∧ Sl W x.2.1 x.1.past ∧ ∀ ad, x.2.1 = some ad → 0 < x.1.past.length → O ad.block
  | [], _, _, _ => ⟨[], rfl, fun j u h => by simp [flatV] at h, fun _ h => by cases h⟩
  | v :: vs, o, h, hp => by
    obtain ⟨r, c, h0, h1, h2, h3, h4, h5, h6⟩ := h 0 v rfl
    have h7 := hp 0 v r c rfl h2
    rw [Nat.zero_mul, Nat.add_zero] at h0 h1 h2 h3 h4
    obtain ⟨ps, e1, e2, e3⟩ := sv_list vs (o + 5) (fun j u hj => by
      have := h (j + 1) u (by simpa using hj)
      rw [show o + (j + 1) * 5 = o + 5 + j * 5 by omega] at this
      exact this) (fun j u r c hj hc => hp (j + 1) u r c (by simpa using hj) (by rw [show o + (j + 1) * 5 + 2 = o + 5 + j * 5 + 2 by omega]; exact hc))
    refine ⟨(v, r, c) :: ps, by rw [List.map_cons, e1], fun j u hu => ?_, fun x hx => ?_⟩
    · by_cases hj : j < 5
      · rw [flatV, List.getElem?_append_left (by simp [verL]; omega)] at hu
        rcases (show j = 0 ∨ j = 1 ∨ j = 2 ∨ j = 3 ∨ j = 4 by omega) with rfl | rfl | rfl | rfl | rfl <;> (simp [verL] at hu; subst hu; assumption)
      · rw [flatV, List.getElem?_append_right (by simp [verL]; omega)] at hu
        have := e2 (j - 5) u (by rw [show (verL v r c).length = 5 from rfl] at hu; exact hu)
        rw [show o + 5 + (j - 5) = o + j by omega] at this
        exact this
    · rcases List.mem_cons.1 hx with rfl | hx
      · exact ⟨h5, h6, h7⟩
      · exact e3 x hx
theorem SV.apart {O : Nat → Prop} {W : World} {a : Option Addr} {vs : List Vc.V} (h : SV W a vs) (hp : Prov O W a vs) {row : Option Nat} (hr : ∀ g, row = some g → W.heap.size ≤ g) {W' : World} (hb : Below W.heap.size W W') : SVN O row W' a vs := fun h0 => by
  obtain ⟨g, o, e, hg, hc⟩ := h h0
  obtain ⟨ps, e1, e2, e3⟩ := sv_list vs o hc (hp h0 g o e).2
  exact ⟨g, o, e, ps, e1, fun j u hu => (hb.cell (p := ⟨g, o + j, Option.none⟩) hg).trans (e2 j u hu), fun x hx => ⟨(e3 x hx).1, (e3 x hx).2.1.after hb, (e3 x hx).2.1.apart hr (e3 x hx).2.2⟩⟩
theorem one_svn {O : Nat → Prop} {W : World} {D T : Nat} {v : Vc.V} {r : Option Addr} {c : Nat} (h : VRow W D T (verL v r c)) (hc : v.past.length ≤ c) (hs : Sl W r v.past) {row : Option Nat} (ha : Apart O row r v.past) : SVN O row W (some ⟨D, 0, none⟩) [v] := fun _ =>
  ⟨D, 0, rfl, [(v, r, c)], rfl, fun j u hu => by rw [Nat.zero_add]; exact h.cell j u (by simpa [flatV] using hu), fun x hx => by rw [List.mem_singleton.1 hx]; exact ⟨hc, hs, ha⟩⟩

theorem info64 : (Tryd.prog.info? 64).map (fun i => (i.zero, i.size, i.bytes)) = some (some (.agg #[.int .i64 0, .int .i64 0, .slice none 0 0, .bool false, .string ⟨#[]⟩]), 5, 64) := by kernel_rfl
theorem run_append_noneV {w : World} (base : Nat) (t ty e : TypeId) (i : TypeInfo) (size : Nat) (ht : Tryd.prog.underlying t = some (.slice e)) (hi : Tryd.prog.info? e = some i)
    (v : Value) (n : Nat) (xs : List Value) (hown : w.ownsRow base e size v n xs) (c : Nat) :
    (Builtin.append_ #[t, t] ty #[v, .slice none 0 c]).run Tryd.prog w = .ok v w := by
  rcases hown.2 with ⟨rfl, rfl⟩ | ⟨g, cap, cur, rfl, _, _, hnc, _⟩
  · simp [Builtin.append_, run_underlying ht, sizeOf, typeInfo, hi, Builtin.lenOf, Builtin.firstCells]
  · simp [Builtin.append_, run_underlying ht, sizeOf, typeInfo, hi, Builtin.lenOf, Builtin.firstCells, hnc, storeCells]
/-- Versions appended to a row of the call's own. -/
theorem append_sv {O : Nat → Prop} {w : World} {ops : Array Oper} {rest : List Oper} {o : Oper} {a : Act} {Q : Exit → Act → World → Prop} (hgd : o.guard = none) (s x : Operand)
    (ho : o.op = .call { callee := .builtin .append, args := #[s, x], argTypes := #[22, 22] }) (base : Nat) (v : Value) (vs : List Vc.V) (hs : a.eval s = v) (hown : OV O w base v vs)
    (r : Option Addr) (c : Nat) (ys : List Vc.V) (hx : a.eval x = .slice r ys.length c) (hsl : SVN O v.ownBlock w r ys) (hn : vs.length + ys.length ≤ 200000) (hbase : base ≤ w.heap.size)
    (h : ∀ v' w', OV O w' base v' (vs ++ ys) → Below base w w' → w.grownBy w' v.ownBlock → (v'.ownBlock = v.ownBlock ∨ v'.ownBlock = some w.heap.size) → wpList Tryd.prog ops Q rest (a.put o.dst v') w') : wpList Tryd.prog ops Q (o :: rest) a w := by
  obtain ⟨i0, hi, hz0, hz1, hz2⟩ := info_parts info64
  obtain ⟨ps, e1, e2, e3⟩ := hown.is
  subst e1
  rw [List.length_map] at hn
  have keep : ∀ {w' : World} {v' : Value}, w.grownBy w' v.ownBlock → (v'.ownBlock = v.ownBlock ∨ v'.ownBlock = some w.heap.size) → ∀ {q : Option Addr} {ds : List Vc.D}, Sl w q ds → Apart O v.ownBlock q ds → Sl w' q ds ∧ Apart O v'.ownBlock q ds := by
    intro w' v' hg hv' q ds hq ha
    refine ⟨fun h0 => ?_, fun ad e h0 => ?_⟩
    · obtain ⟨g, o, e, hlt, hc⟩ := hq h0
      have hne := (ha _ e h0).1
      have hk : ∀ k, w'.cell? ⟨g, k, none⟩ = w.cell? ⟨g, k, none⟩ := fun k => World.cell?_of_block (hg.block g hlt hne)
      refine ⟨g, o, e, Nat.lt_of_lt_of_le hlt hg.size, fun j d hj => ?_⟩
      rw [hk, hk]
      exact hc j d hj
    · rcases hv' with e' | e'
      · rw [e']; exact ha ad e h0
      · rw [e']
        refine ⟨?_, (ha ad e h0).2⟩
        obtain ⟨g, o, e2, hlt, _⟩ := hq h0
        rw [e] at e2
        injection e2 with e2
        subst e2
        intro h
        injection h with h
        have : g = w.heap.size := h
        omega
  cases r with
  | none =>
    have hxs : ys = [] := by
      cases ys with
      | nil => rfl
      | cons d l => obtain ⟨g, o, e, _⟩ := hsl (by simp); cases e
    subst hxs
    refine wpList_plain hgd fun K hK => ?_
    have hrun := run_append_noneV (w := w) base 22 o.type 64 i0 5 Tryd.underlying22 hi v ps.length (flatV ps) e2 c
    unfold Oper.wp
    simp only [List.length_nil] at hx
    simp [execOp, ho, resolve, invoke, builtin, hs, hx, hrun, Result.andThen]
    refine hK _ _ (h v w ?_ (Below.refl _ _) ⟨rfl, rfl, rfl, Nat.le_refl _, fun _ _ _ => rfl⟩ (.inl rfl))
    rw [List.append_nil]
    exact hown
  | some ad =>
    have hps : ∃ qs : List VP, qs.map (·.1) = ys ∧ (∀ j u, (flatV qs)[j]? = some u → w.cell? (ad.add j) = some u) ∧ ∀ x ∈ qs, x.1.past.length ≤ x.2.2 ∧ Sl w x.2.1 x.1.past ∧ Apart O v.ownBlock x.2.1 x.1.past := by
      cases ys with
      | nil => exact ⟨[], rfl, fun j u hu => by simp [flatV] at hu, fun _ h => by cases h⟩
      | cons d l =>
        obtain ⟨g, o, e, qs, h1, h2, h3⟩ := hsl (by simp)
        injection e with e
        subst e
        refine ⟨qs, h1, fun j u hu => ?_, h3⟩
        rw [show (⟨g, o, none⟩ : Addr).add j = ⟨g, o + j, none⟩ by unfold Addr.add; split <;> simp_all]
        exact h2 j u hu
    obtain ⟨qs, h1, h2, h3⟩ := hps
    subst h1
    rw [List.length_map] at hn hx
    refine wpList_append_own_at w hgd s x 22 ho base 64 i0 _ 5 64 Tryd.underlying22 hi hz0 hz1 hz2 rfl (by decide) v ps.length (flatV ps) hs e2 ad qs.length c (flatV qs) hx (flatV_len qs) h2 (flatV_one qs) (by unfold maxLen; omega) (by omega) hbase ?_
    intro v' w' g1 g2 _ g4
    refine h v' w' ⟨ps ++ qs, by rw [List.map_append], by rw [List.length_append, flatV_append]; exact g1, fun x hx => ?_⟩ (grown_below e2 g2 hbase) g2 g4
    rcases List.mem_append.1 hx with hx | hx
    · exact ⟨(e3 x hx).1, keep g2 g4 (e3 x hx).2.1 (e3 x hx).2.2⟩
    · exact ⟨(h3 x hx).1, keep g2 g4 (h3 x hx).2.1 (h3 x hx).2.2⟩
end Go.Proofs.YthchcjjpplcfnaaDoor

namespace Go.Proofs.YthchcjjpplcfnaaDoor
open Go.RowKit

theorem data_inj (a b : ByteArray) (h : a.data.toList = b.data.toList) : a = b := ByteArray.ext (Array.toList_inj.1 h)
theorem toList_eq (a b : ByteArray) : (a.toList == b.toList) = decide (a = b) := by
  rw [Bool.eq_iff_iff, beq_iff_eq, decide_eq_true_eq, Lib.toList_data, Lib.toList_data]
  exact ⟨data_inj a b, fun h => by rw [h]⟩
theorem ver_eq {v u : Vc.V} : v = u ↔ v.dot = u.dot ∧ v.dead = u.dead ∧ v.data = u.data ∧ v.past = u.past := by
  constructor
  · rintro rfl; exact ⟨rfl, rfl, rfl, rfl⟩
  · rintro ⟨h1, h2, h3, h4⟩
    cases v
    cases u
    simp at *
    exact ⟨h1, h4, h2, h3⟩

end Go.Proofs.YthchcjjpplcfnaaDoor

namespace Go.Proofs.YthchcjjpplcfnaaDoor
open Go.RowKit

theorem one_sl1 (w : World) (p c : Int) : Sl (w.alloc (.cells #[.int .i64 p, .int .i64 c] 61)) (some ⟨w.heap.size, 0, none⟩) [(p, c)] := fun _ => by
  have hr := VRow.new w 61 [.int .i64 p, .int .i64 c]
  refine ⟨w.heap.size, 0, rfl, lt_new _ _, fun j d hj => ?_⟩
  have hj2 : j = 0 := by have := (List.getElem?_eq_some_iff.1 hj).1; simp at this; omega
  subst hj2
  simp at hj
  subst hj
  exact ⟨hr.cell 0 _ rfl, hr.cell 1 _ rfl⟩

end Go.Proofs.YthchcjjpplcfnaaDoor

namespace Go.Proofs.YthchcjjpplcfnaaDoor
open Go.RowKit

def zeroV : Vc.V := ⟨(0, 0), [], false, ⟨#[]⟩⟩
def zero64 : List Value := [.int .i64 0, .int .i64 0, .slice none 0 0, .bool false, .string ⟨#[]⟩]
theorem size64 : (Tryd.prog.info? 64).map (·.size) = some 5 := by kernel_rfl
theorem Sl.onlyNe {w w' : World} {D : Nat} {r : Option Addr} {ds : List Vc.D} (h : Sl w r ds) (ho : Only D w w') (hne : ∀ ad, r = some ad → 0 < ds.length → ad.block ≠ D) : Sl w' r ds := fun h0 => by
  obtain ⟨g, o, e, hg, hc⟩ := h h0
  have hn : g ≠ D := hne _ e h0
  have e1 : ∀ k, w'.cell? ⟨g, k, Option.none⟩ = w.cell? ⟨g, k, Option.none⟩ := fun k => World.cell?_of_block (w := w) (ho.block g hn)
  refine ⟨g, o, e, by rw [ho.size]; exact hg, fun j d hj => ?_⟩
  rw [e1, e1]
  exact hc j d hj
theorem verL_one (v : Vc.V) (r : Option Addr) (c : Nat) : ∀ x ∈ verL v r c, x.oneCell' = true := by simp [verL, Value.oneCell']

end Go.Proofs.YthchcjjpplcfnaaDoor

namespace Go.Proofs.YthchcjjpplcfnaaDoor
open Go.RowKit

def MadeV (O : Nat → Prop) (w : World) (vs : List Vc.V) (e : Ending) (w' : World) : Prop := ∃ r cap, e = .returned (.slice r vs.length cap) ∧ vs.length ≤ cap ∧ SV w' r vs ∧ Prov O w' r vs ∧ Below w.heap.size w w'
def MadeVE (O : Nat → Prop) (w : World) (x : List Vc.V × Int) (e : Ending) (w' : World) : Prop := ∃ r cap, e = .returned (.tuple #[.slice r x.1.length cap, .int .i64 x.2]) ∧ x.1.length ≤ cap ∧ SV w' r x.1 ∧ Prov O w' r x.1 ∧ Below w.heap.size w w'
def All : Nat → Prop := fun _ => True
theorem prov_all (W : World) (a : Option Addr) (vs : List Vc.V) : Prov All W a vs := Prov.any W a vs
theorem one_sv {W : World} {D T : Nat} {v : Vc.V} {r : Option Addr} {c : Nat} (h : VRow W D T (verL v r c)) (hc : v.past.length ≤ c) (hs : Sl W r v.past) : SV W (some ⟨D, 0, none⟩) [v] := fun _ => by
  refine ⟨D, 0, rfl, h.lt, fun j u hj => ?_⟩
  have hj0 : j = 0 := by have := (List.getElem?_eq_some_iff.1 hj).1; simp at this; omega
  subst hj0
  simp at hj
  subst hj
  exact ⟨r, c, h.cell 0 _ rfl, h.cell 1 _ rfl, h.cell 2 _ rfl, h.cell 3 _ rfl, h.cell 4 _ rfl, hc, hs⟩

end Go.Proofs.YthchcjjpplcfnaaDoor

namespace Go.Proofs.YthchcjjpplcfnaaDoor
open Go.RowKit

/-- No past that is greater than any machine's memory. -/
def Light (vs : List Vc.V) : Prop := ∀ v ∈ vs, v.past.length ≤ 8796093022208
/-- A list that is not too much. -/
def Slight (vs : List Vc.V) : Prop := vs.length ≤ 70 ∧ (Light vs → ∀ v ∈ vs, v.past.length ≤ 400)
/-- Whether leaves are too much, and what is known if they are not. -/
def GreatMade (n : Nat) (ls : Nat → List Vc.V) (w : World) (e : Ending) (w' : World) : Prop := ∃ B : Bool, e = .returned (.bool B) ∧ w' = w ∧ (B = false → ∀ j, j < n → Slight (ls j))

set_option maxRecDepth 100000 in
set_option maxHeartbeats 1000000 in
theorem great_any (G n : Nat) (hn : n ≤ 100) (A : Nat → Option Addr) (C : Nat → Nat) (ls : Nat → List Vc.V) (w : World) (hc : ∀ j, j < n → w.cell? ⟨G, j, none⟩ = some (.slice (A j) (ls j).length (C j))) (hs : ∀ j, j < n → SV w (A j) (ls j)) :
    Calls Tryd.prog 12 #[.slice (some ⟨G, 0, none⟩) n n] w (GreatMade n ls w) := by
  have HC := hide hc
  have HS := hide hs
  clear hc hs
  go_enter Tryd.func12, Tryd.ntmps12
  go_wp2_with fail
  go_loopw [3] (fun i wr => ∃ k : Nat, k ≤ n ∧ i = .int .i64 k ∧ (∀ j, j < k → Slight (ls j)) ∧ wr = w) (fun i _ => n - (intOf i).toNat)
  case atStart => exact ⟨0, Nat.zero_le _, rfl, fun j hj => absurd hj (Nat.not_lt_zero _), rfl⟩
  case round =>
    obtain ⟨k, hk, rfl, hall, rfl⟩ := hrel
    have HALL := hide hall
    clear hall
    by_cases hlt : k < n
    · have c0 := unhide HC k hlt
      have s0 := hide (unhide HS k hlt)
      generalize hA : A k = a at c0 s0
      generalize hL : ls k = l at c0 s0
      generalize hCk : C k = c at c0
      by_cases h70 : 70 < l.length
      · have hd : decide ((70 : Int) < (l.length : Int)) = true := decide_eq_true (by omega)
        clear hA hL hCk
        go_wp2_with fail
        go_ret
        exact ⟨true, rfl, rfl, fun h => by cases h⟩
      · have hd : decide ((70 : Int) < (l.length : Int)) = false := decide_eq_false (by omega)
        have HL : Hid (ls k = l) := hide hL
        have hl70 : l.length ≤ 70 := by omega
        clear hA hL hCk h70
        go_wp2_with fail
        go_loopw [4, 5] (fun x i wv => ∃ (t : Int) (m : Nat), m ≤ l.length ∧ x = .int .i64 t ∧ i = .int .i64 m ∧ wv = wr ∧ Hid (Light l → 0 ≤ t ∧ t ≤ 400 ∧ ∀ v ∈ l.take m, v.past.length ≤ 400)) (fun _ i _ => l.length - (intOf i).toNat)
        case atStart => exact ⟨0, 0, Nat.zero_le _, rfl, rfl, rfl, hide (fun _ => ⟨by omega, by omega, fun v hv => by simp at hv⟩)⟩
        case round =>
          obtain ⟨t, m, hm, rfl, rfl, hwv, HT⟩ := hrel
          subst hwv
          by_cases hml : m < l.length
          · obtain ⟨v, hx⟩ : ∃ d, l[m]? = some d := ⟨_, List.getElem?_eq_getElem hml⟩
            obtain ⟨g, o, rfl, hg, hcell⟩ := unhide s0 (by omega)
            obtain ⟨q, d, x0, x1, x2, x3, x4, h5, h6⟩ := hcell m v hx
            obtain ⟨T, hT⟩ : ∃ T, IntKind.i64.wrap (t + (v.past.length : Int)) = T := ⟨_, rfl⟩
            have HT2 : Hid (¬ 400 < T → Light l → 0 ≤ T ∧ T ≤ 400 ∧ ∀ v ∈ l.take (m + 1), v.past.length ≤ 400) := hide (fun h4 hl => by
              obtain ⟨t1, t2, t3⟩ := unhide HT hl
              have hv := hl v (List.mem_of_getElem? hx)
              rw [wrap_small (by omega) (by omega)] at hT
              refine ⟨by omega, by omega, fun u hu => ?_⟩
              rw [take_snocA hx] at hu
              rcases List.mem_append.1 hu with hu | hu
              · exact t3 u hu
              · rw [List.mem_singleton.1 hu]; omega)
            clear hcell hx h5 h6 hg x0 x1 x3
            by_cases h400 : 400 < T
            · have hd4 : decide (400 < T) = true := decide_eq_true h400
              go_wp2_with fail
              go_ret
              exact ⟨true, rfl, rfl, fun h => by cases h⟩
            · have hd4 : decide (400 < T) = false := decide_eq_false h400
              obtain ⟨z, hz⟩ : ∃ z, v.data.size = z := ⟨_, rfl⟩
              by_cases h200 : 200 < z
              · have hd2 : decide ((200 : Int) < (z : Int)) = true := decide_eq_true (by omega)
                go_wp2_with fail
                go_ret
                exact ⟨true, rfl, rfl, fun h => by cases h⟩
              · have hd2 : decide ((200 : Int) < (z : Int)) = false := decide_eq_false (by omega)
                go_wp2_with fail
                go_roundw
                case rel => exact ⟨T, m + 1, by omega, rfl, by go_num, by first | rfl | trivial, hide (unhide HT2 (by omega))⟩
                case measure => simp [intOf]; omega
          · have HALL2 : Hid (∀ j, j < k + 1 → Slight (ls j)) := hide (fun j hj => by
              by_cases e : j = k
              · subst e
                rw [unhide HL]
                refine ⟨hl70, fun hl => ?_⟩
                have h9 := (unhide HT hl).2.2
                rw [show m = l.length by omega, List.take_length] at h9
                exact h9
              · exact unhide HALL j (by omega))
            go_wp2_with fail
            go_roundw
            case rel => exact ⟨k + 1, by omega, by go_num, unhide HALL2, by first | rfl | trivial⟩
            case measure => simp [intOf]; omega
    · obtain rfl : k = n := by omega
      go_wp2_with fail
      go_ret
      exact ⟨false, rfl, rfl, fun _ => unhide HALL⟩
end Go.Proofs.YthchcjjpplcfnaaDoor

namespace Go.Proofs.YthchcjjpplcfnaaDoor
open Go.RowKit

/-- No past is too long to be. -/
def Short (vs : List Vc.V) : Prop := ∀ v ∈ vs, v.past.length ≤ 9223372036854775807
theorem Short.few {vs : List Vc.V} (h : Short vs) (hl : vs.length ≤ 70) : Few vs := ⟨by omega, h⟩
theorem bool_of (p : Prop) : ∃ D : Bool, D = true ↔ p := ⟨@decide p (Classical.propDecidable _), @decide_eq_true_iff p (Classical.propDecidable _)⟩
end Go.Proofs.YthchcjjpplcfnaaDoor
