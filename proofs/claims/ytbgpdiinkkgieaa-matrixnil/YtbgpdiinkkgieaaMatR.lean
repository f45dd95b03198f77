/-
  A matrix whose variable holds a row of lists of dots: what keeps it, and what a store of a new list into it makes of it.
-/
import Derived.Test.YtbgpdiinkkgieaaPrg
namespace Go.Proofs.Ytbgpdiinkkgieaa
open Go.RowKit

structure MatO (W : World) (p : Addr) (rows : List (List Vc.D)) (own : Nat → Prop) (b g cap : Nat) (ps : List RP) : Prop where
  at0 : p = ⟨b, 0, none⟩
  map : ps.map (·.1) = rows
  head : W.cell? ⟨b, 0, none⟩ = some (.slice (some ⟨g, 0, none⟩) rows.length cap)
  le : rows.length ≤ cap
  row : VRow W g 32 (flatR ps)
  each : ∀ x ∈ ps, x.1.length ≤ x.2.2 ∧ Sl W x.2.1 x.1 ∧ SProv (fun k => own k ∧ k ≠ g) x.2.1 x.1
  ob : own b
  og : own g
  ne : b ≠ g
  lt : ∀ x, own x → x < W.heap.size
  vecs : Vecs rows ∧ 0 < rows.length ∧ rows.length ≤ 64
def MatR (W : World) (p : Addr) (rows : List (List Vc.D)) (own : Nat → Prop) : Prop := ∃ b g cap ps, MatO W p rows own b g cap ps
theorem sl_own {own : Nat → Prop} {W W' : World} {r : Option Addr} {ds : List Vc.D} (h : Sl W r ds) (hp : SProv own r ds) (hs : W.heap.size ≤ W'.heap.size) (hb : ∀ k, own k → W'.heap[k]? = W.heap[k]?) : Sl W' r ds := fun h0 => by
  obtain ⟨g, o, e, hg, hc⟩ := h h0
  have e1 : ∀ k, W'.cell? ⟨g, k, Option.none⟩ = W.cell? ⟨g, k, Option.none⟩ := fun k => World.cell?_of_block (w := W) (hb g (hp _ e h0))
  refine ⟨g, o, e, Nat.lt_of_lt_of_le hg hs, fun j d hj => ?_⟩
  rw [e1, e1]
  exact hc j d hj
theorem MatO.keep {W W' : World} {p : Addr} {rows : List (List Vc.D)} {own : Nat → Prop} {b g cap : Nat} {ps : List RP} (h : MatO W p rows own b g cap ps) (hs : W.heap.size ≤ W'.heap.size) (hb : ∀ k, own k → W'.heap[k]? = W.heap[k]?) : MatO W' p rows own b g cap ps where
  at0 := h.at0
  map := h.map
  head := (World.cell?_of_block (w := W) (a := ⟨b, 0, none⟩) (hb b h.ob)).trans h.head
  le := h.le
  row := (hb g h.og).trans h.row
  each := fun x hx => ⟨(h.each x hx).1, sl_own (h.each x hx).2.1 (fun ad e h0 => ((h.each x hx).2.2 ad e h0).1) hs hb, (h.each x hx).2.2⟩
  ob := h.ob
  og := h.og
  ne := h.ne
  lt := fun x hx => Nat.lt_of_lt_of_le (h.lt x hx) hs
  vecs := h.vecs
theorem MatO.len {W : World} {p : Addr} {rows : List (List Vc.D)} {own : Nat → Prop} {b g cap : Nat} {ps : List RP} (h : MatO W p rows own b g cap ps) : ps.length = rows.length := by rw [← h.map, List.length_map]
theorem MatO.cell {W : World} {p : Addr} {rows : List (List Vc.D)} {own : Nat → Prop} {b g cap : Nat} {ps : List RP} (h : MatO W p rows own b g cap ps) {i : Nat} (hi : i < rows.length) :
    ∃ r c, W.cell? ⟨g, i, none⟩ = some (.slice r (rows[i]?.getD []).length c) ∧ (rows[i]?.getD []).length ≤ c ∧ Sl W r (rows[i]?.getD []) ∧ (rows[i]?.getD []).length ≤ 64 := by
  obtain ⟨x, hx⟩ : ∃ x, ps[i]? = some x := ⟨_, List.getElem?_eq_getElem (by rw [h.len]; exact hi)⟩
  have e : rows[i]?.getD [] = x.1 := by rw [← h.map, List.getElem?_map, hx]; rfl
  rw [e]
  have hm := List.mem_of_getElem? hx
  exact ⟨x.2.1, x.2.2, h.row.cell i _ (by rw [flatR, List.getElem?_map, hx]; rfl), (h.each x hm).1, (h.each x hm).2.1, by rw [← e]; exact Vc.vec_len (h.vecs.1.at i)⟩
/-- The rows in memory, as the document's are. -/
theorem MatO.rl {W : World} {p : Addr} {rows : List (List Vc.D)} {own : Nat → Prop} {b g cap : Nat} {ps : List RP} (h : MatO W p rows own b g cap ps) : RL W (some ⟨g, 0, none⟩) rows := fun _ => by
  refine ⟨g, 0, rfl, h.row.lt, fun j ds hj => ?_⟩
  obtain ⟨r, c, h1, h2, h3, _⟩ := h.cell (List.getElem?_eq_some_iff.1 hj).1
  rw [hj] at h1 h2 h3
  rw [Nat.zero_add]
  exact ⟨r, c, h1, h2, h3⟩
/-- A new list in the place of a row. -/
theorem MatO.store {W W3 : World} {p : Addr} {rows : List (List Vc.D)} {own : Nat → Prop} {b g cap : Nat} {ps : List RP} (h : MatO W p rows own b g cap ps) (hb : Below W.heap.size W W3) {i : Nat} {J : List Vc.D} {r : Option Addr} {c : Nat} (hJ : Vc.Up (-1) J) (hc : J.length ≤ c) (hs : Sl W3 r J) (hf : Fresh W.heap.size r J) :
    MatO (W3.setCell ⟨g, i, none⟩ (.slice r J.length c)) p (rows.set i J) (fun k => own k ∨ (W.heap.size ≤ k ∧ k < W3.heap.size)) b g cap (ps.set i (J, r, c)) ∧ Beside own W (W3.setCell ⟨g, i, none⟩ (.slice r J.length c)) := by
  have h3 := h.keep hb.size fun k hk => hb.block k (h.lt k hk)
  have hgl := h.lt g h.og
  have hoth : ∀ k, k ≠ g → (W3.setCell ⟨g, i, none⟩ (.slice r J.length c)).heap[k]? = W3.heap[k]? := fun k hk => heap_setCell_other W3 ⟨g, i, none⟩ k _ hk
  refine ⟨⟨h.at0, ?_, ?_, by rw [List.length_set]; exact h.le, ?_, fun x hx => ?_, .inl h.ob, .inl h.og, h.ne, fun x hx => ?_, ?_⟩, ⟨hb.os, hb.tape, hb.output, by simpa using hb.size, fun k hk hk2 => ?_⟩⟩
  · rw [List.map_set, h.map]
  · rw [List.length_set]
    exact (World.cell?_of_block (w := W3) (a := ⟨b, 0, none⟩) (hoth b h.ne)).trans h3.head
  · have hr := h3.row.set i (.slice r J.length c)
    rw [flatR, List.map_set]
    exact hr
  · have hkeep : ∀ (r' : Option Addr) (ds : List Vc.D), Sl W3 r' ds → SProv (fun k => k ≠ g) r' ds → Sl (W3.setCell ⟨g, i, none⟩ (.slice r J.length c)) r' ds := fun r' ds h1 h2 => sl_own h1 h2 (by simp) hoth
    have hJ2 : SProv (fun k => (own k ∨ (W.heap.size ≤ k ∧ k < W3.heap.size)) ∧ k ≠ g) r J := fun ad e h0 => by
      obtain ⟨g1, o1, e1, hg1, _⟩ := hs h0
      have h5 := hf ad e h0
      rw [e] at e1
      injection e1 with e1
      subst e1
      have h6 : W.heap.size ≤ g1 := h5
      exact ⟨.inr ⟨h6, hg1⟩, by show g1 ≠ g; omega⟩
    rcases List.mem_or_eq_of_mem_set hx with hx | rfl
    · obtain ⟨k1, k2, k3⟩ := h3.each x hx
      exact ⟨k1, hkeep _ _ k2 fun ad e h0 => (k3 ad e h0).2, fun ad e h0 => ⟨.inl (k3 ad e h0).1, (k3 ad e h0).2⟩⟩
    · exact ⟨hc, hkeep _ _ hs fun ad e h0 => (hJ2 ad e h0).2, hJ2⟩
  · rcases hx with hx | ⟨_, hx⟩
    · have := h3.lt x hx; simpa using this
    · simpa using hx
  · refine ⟨fun ds hds => ?_, by rw [List.length_set]; exact h.vecs.2.1, by rw [List.length_set]; exact h.vecs.2.2⟩
    rcases List.mem_or_eq_of_mem_set hds with h1 | h1
    · exact h.vecs.1 ds h1
    · rw [h1]; exact hJ
  · rw [hoth k (fun e => hk2 (by rw [e]; exact h.og))]
    exact hb.block k hk
end Go.Proofs.Ytbgpdiinkkgieaa
