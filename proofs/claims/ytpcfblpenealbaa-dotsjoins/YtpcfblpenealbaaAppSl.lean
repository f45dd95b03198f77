/-
  A list appended to one of the call's own, at a step of a region that draws its order; the slices of a list up to a place and from it on.
-/
import Derived.Test.YtpcfblpenealbaaAdd
namespace Go.Proofs.Ytpcfblpenealbaa
open Go.RowKit

theorem wp_append_sl {w : World} {o : Oper} {a : Act} {K : Act → World → Prop} {Q : Exit → Act → World → Prop} (s x : Operand)
    (ho : o.op = .call { callee := .builtin .append, args := #[s, x], argTypes := #[22, 22] }) (base : Nat) (v : Value) (ds : List Vc.D) (hs : a.eval s = v) (hown : w.ownsRow base 26 2 v ds.length (flat ds))
    (r : Option Addr) (c : Nat) (xs : List Vc.D) (hx : a.eval x = .slice r xs.length c) (hsl : Sl w r xs) (hn : ds.length + xs.length ≤ 200000) (hbase : base ≤ w.heap.size)
    (h : ∀ v' w', w'.ownsRow base 26 2 v' (ds ++ xs).length (flat (ds ++ xs)) → Below base w w' → (∀ k, k < w.heap.size → some k ≠ v.ownBlock → w'.heap[k]? = w.heap[k]?) → K (a.put o.dst v') w') : o.wp Try.prog a w K Q := by
  obtain ⟨i0, hi, hz0, hz1, hz2⟩ := info_parts info26
  cases r with
  | none =>
    have hxs : xs = [] := by
      cases xs with
      | nil => rfl
      | cons d l => obtain ⟨g, o, e, _⟩ := hsl (by simp); cases e
    subst hxs
    have hrun := run_append_none (w := w) base 22 o.type 26 i0 2 Try.underlying22 hi v ds.length (flat ds) hown c
    unfold Oper.wp
    simp only [List.length_nil] at hx
    simp [execOp, ho, resolve, invoke, builtin, hs, hx, hrun, Result.andThen]
    refine h v w ?_ (Below.refl _ _) fun _ _ _ => rfl
    rw [List.append_nil]
    exact hown
  | some ad =>
    refine wp_append_own w s x 22 ho base 26 i0 _ 2 16 Try.underlying22 hi hz0 hz1 hz2 rfl (by decide) v ds.length (flat ds) hs hown ad xs.length c (flat xs) hx (flat_len xs) ?_ (flat_one xs) (by unfold maxLen; omega) (by omega) hbase ?_
    · cases xs with
      | nil => intro j u hu; simp [flat] at hu
      | cons d l =>
        obtain ⟨g, o, e, _, hc⟩ := hsl (by simp)
        injection e with e
        subst e
        exact sl_cells hc
    · intro v' w' h1 h2 _
      refine h v' w' ?_ (grown_below hown h2 hbase) h2.block
      rw [List.length_append, flat_append]
      exact h1
theorem step_append_sl {w : World} {ops : Array Oper} {o : Oper} {a : Act} {K : Act → World → Prop} {Q : Exit → Act → World → Prop} {E : Prop} (hgd : o.guard = none) (s x : Operand)
    (ho : o.op = .call { callee := .builtin .append, args := #[s, x], argTypes := #[22, 22] }) (base : Nat) (v : Value) (ds : List Vc.D) (hs : a.eval s = v) (hown : w.ownsRow base 26 2 v ds.length (flat ds))
    (r : Option Addr) (c : Nat) (xs : List Vc.D) (hx : a.eval x = .slice r xs.length c) (hsl : Sl w r xs) (hn : ds.length + xs.length ≤ 200000) (hbase : base ≤ w.heap.size)
    (h : ∀ v' w', w'.ownsRow base 26 2 v' (ds ++ xs).length (flat (ds ++ xs)) → Below base w w' → (∀ k, k < w.heap.size → some k ≠ v.ownBlock → w'.heap[k]? = w.heap[k]?) → K (a.put o.dst v') w') :
    if Region.wanted o (yielded ops a.tmps) = true then Oper.wp Try.prog o a w K Q else E := by
  have hw : Region.wanted o (yielded ops a.tmps) = true := by simp [Region.wanted, hgd]
  rw [if_pos hw]
  exact wp_append_sl s x ho base v ds hs hown r c xs hx hsl hn hbase h

theorem sl_row {W : World} {D T : Nat} {p c : Int} (h : VRow W D T [.int .i64 p, .int .i64 c]) : Sl W (some ⟨D, 0, none⟩) [(p, c)] := fun _ => by
  refine ⟨D, 0, rfl, h.lt, fun j d hj => ?_⟩
  have hj0 : j = 0 := by have := (List.getElem?_eq_some_iff.1 hj).1; simp at this; omega
  subst hj0
  simp at hj
  subst hj
  exact ⟨h.cell 0 _ rfl, h.cell 1 _ rfl⟩
theorem Sl.take {W : World} {a : Option Addr} {ds : List Vc.D} (h : Sl W a ds) (k : Nat) : Sl W a (ds.take k) := fun h0 => by
  obtain ⟨g, o, e, hg, hc⟩ := h (by rw [List.length_take] at h0; omega)
  refine ⟨g, o, e, hg, fun j d hj => ?_⟩
  have hjk : j < k := by
    have := (List.getElem?_eq_some_iff.1 hj).1
    rw [List.length_take] at this
    omega
  rw [List.getElem?_take_of_lt hjk] at hj
  exact hc j d hj
theorem Sl.drop {W : World} {g o : Nat} {ds : List Vc.D} (h : Sl W (some ⟨g, o, Option.none⟩) ds) (k : Nat) : Sl W (some ⟨g, o + k * 2, Option.none⟩) (ds.drop k) := fun h0 => by
  obtain ⟨g', o', e, hg, hc⟩ := h (by rw [List.length_drop] at h0; omega)
  cases e
  refine ⟨g, o + k * 2, rfl, hg, fun j d hj => ?_⟩
  rw [List.getElem?_drop] at hj
  have := hc (k + j) d hj
  rw [show o + k * 2 + j * 2 = o + (k + j) * 2 by omega]
  exact this
/-- 's[:k]' and 's[k:]'. -/
theorem slice_to (a : Option Addr) (ds : List Vc.D) (cap k : Nat) (hk : k ≤ ds.length) (hc : ds.length ≤ cap) :
    ∃ A c, (∀ W, (Instr.slice 22 (.slice a ds.length cap) none (some (.int .i64 (k : Int))) none).run Try.prog W = .ok (.slice A (ds.take k).length c) W) ∧ (∀ W, Sl W a ds → Sl W A (ds.take k)) := by
  refine ⟨a, cap, fun W => ?_, fun W h => h.take k⟩
  have e : (ds.take k).length = k := by rw [List.length_take]; omega
  rw [e]
  have hk2 : k ≤ cap := by omega
  by_cases h0 : cap = 0
  · go_simp
    intro h
    omega
  · go_simp
theorem slice_from (a : Option Addr) (ds : List Vc.D) (cap k : Nat) (hk : k ≤ ds.length) (hc : ds.length ≤ cap) :
    ∃ A c, (∀ W, (Instr.slice 22 (.slice a ds.length cap) (some (.int .i64 (k : Int))) none none).run Try.prog W = .ok (.slice A (ds.drop k).length c) W) ∧ (∀ W, Sl W a ds → Sl W A (ds.drop k)) := by
  have e : (ds.drop k).length = ds.length - k := List.length_drop
  rw [e]
  by_cases hc0 : cap = k
  · refine ⟨a, cap - k, fun W => by go_simp, fun W h h0 => ?_⟩
    rw [e] at h0
    omega
  · cases a with
    | none =>
      refine ⟨none, cap - k, fun W => by go_simp, fun W h h0 => ?_⟩
      rw [e] at h0
      obtain ⟨g, o, e, _⟩ := h (by omega)
      cases e
    | some ad =>
      refine ⟨some (ad.add (k * 2)), cap - k, fun W => by go_simp, fun W h h0 => ?_⟩
      obtain ⟨g, o, e', _⟩ := id h (by rw [e] at h0; omega)
      injection e' with e'
      subst e'
      have h2 := h.drop k
      rw [show (⟨g, o, Option.none⟩ : Addr).add (k * 2) = ⟨g, o + k * 2, Option.none⟩ by unfold Addr.add; split <;> simp_all]
      exact h2 h0
end Go.Proofs.Ytpcfblpenealbaa
