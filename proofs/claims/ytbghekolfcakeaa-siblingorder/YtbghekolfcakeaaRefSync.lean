/-
  What Sync answers: the document's.
-/
import Derived.Test.YtbghekolfcakeaaRefWrite
namespace Go.Proofs.Ytbghekolfcakeaa
open Go.RowKit
namespace Vc

theorem free_cov (a b : List V) (x : V) : Free a b x ↔ covered (a ++ b) x = false := by
  rw [covered_no]
  unfold Free
  constructor
  · rintro ⟨h1, h2⟩ u hu
    rcases List.mem_append.1 hu with h | h
    · exact h1 u h
    · exact h2 u h
  · intro h
    exact ⟨fun u hu => h u (List.mem_append_left _ hu), fun u hu => h u (List.mem_append_right _ hu)⟩
/-- One that may stand for a peer. -/
def Cand (all : List V) (p : Int) (z : V) : Prop := z.dot.1 = p ∧ covered all z = false
theorem pick_best {a b : List V} (ha : LeafOk a) (hb : LeafOk b) {p : Int} {j : Nat} {y : V} (hj : (a ++ b)[j]? = some y) (hc : Cand (a ++ b) p y) (hmax : ∀ z ∈ a ++ b, Cand (a ++ b) p z → z.dot.2 ≤ y.dot.2) (hfirst : ∀ m z, m < j → (a ++ b)[m]? = some z → Cand (a ++ b) p z → z.dot.2 < y.dot.2) (x : V) : Best a b x ∧ x.dot.1 = p ↔ x = y := by
  have hjl := (List.getElem?_eq_some_iff.1 hj).1
  constructor
  · rintro ⟨h, hp⟩
    by_cases hja : j < a.length
    · rw [List.getElem?_append_left hja] at hj
      have hy := List.mem_of_getElem? hj
      rcases h with ⟨h1, h2, h3⟩ | ⟨h1, h2, h3⟩
      · exact ha.up.one h1 hy (by rw [hp, hc.1])
      · have h4 := h3 y hy (by rw [hp, hc.1]) ((free_cov a b y).2 hc.2)
        have h5 := hmax x (List.mem_append_right _ h1) ⟨hp, (free_cov a b x).1 h2⟩
        omega
    · rw [List.getElem?_append_right (by omega)] at hj
      have hy := List.mem_of_getElem? hj
      rcases h with ⟨h1, h2, h3⟩ | ⟨h1, h2, h3⟩
      · obtain ⟨m, hm⟩ := List.getElem?_of_mem h1
        have hml := (List.getElem?_eq_some_iff.1 hm).1
        have h4 := h3 y hy (by rw [hp, hc.1]) ((free_cov a b y).2 hc.2)
        have h5 := hfirst m x (by omega) (by rw [List.getElem?_append_left hml]; exact hm) ⟨hp, (free_cov a b x).1 h2⟩
        omega
      · exact hb.up.one h1 hy (by rw [hp, hc.1])
  · rintro rfl
    refine ⟨?_, hc.1⟩
    have hfr := (free_cov a b x).2 hc.2
    by_cases hja : j < a.length
    · rw [List.getElem?_append_left hja] at hj
      exact .inl ⟨List.mem_of_getElem? hj, hfr, fun z hz e hf => hmax z (List.mem_append_right _ hz) ⟨by rw [e, hc.1], (free_cov a b z).1 hf⟩⟩
    · rw [List.getElem?_append_right (by omega)] at hj
      refine .inr ⟨List.mem_of_getElem? hj, hfr, fun z hz e hf => ?_⟩
      obtain ⟨m, hm⟩ := List.getElem?_of_mem hz
      have hml := (List.getElem?_eq_some_iff.1 hm).1
      exact hfirst m z (by omega) (by rw [List.getElem?_append_left hml]; exact hm) ⟨by rw [e, hc.1], (free_cov a b z).1 hf⟩
theorem none_best {a b : List V} {p : Int} (h : ∀ z ∈ a ++ b, ¬ Cand (a ++ b) p z) (x : V) : ¬ (Best a b x ∧ x.dot.1 = p) := by
  rintro ⟨h1, h2⟩
  obtain ⟨h3, h4⟩ := h1.of
  exact h x (h3.elim (List.mem_append_left _) (List.mem_append_right _)) ⟨h2, (free_cov a b x).1 h4⟩
/-- The best of the first ones. -/
def Inner (all : List V) (p : Int) (i : Nat) (best : Int) : Prop :=
  (best = -1 ∧ ∀ z ∈ all.take i, ¬ Cand all p z) ∨ ∃ (j : Nat) (y : V), best = (j : Int) ∧ j < i ∧ all[j]? = some y ∧ Cand all p y ∧ (∀ z ∈ all.take i, Cand all p z → z.dot.2 ≤ y.dot.2) ∧ ∀ m z, m < j → all[m]? = some z → Cand all p z → z.dot.2 < y.dot.2
theorem mem_snoc {all : List V} {i : Nat} {v z : V} (h : all[i]? = some v) (hz : z ∈ all.take (i + 1)) : z ∈ all.take i ∨ z = v := by
  rw [take_snocA h] at hz
  rcases List.mem_append.1 hz with hz | hz
  · exact .inl hz
  · exact .inr (List.mem_singleton.1 hz)
theorem at_take {all : List V} {i m : Nat} {z : V} (hm : m < i) (h : all[m]? = some z) : z ∈ all.take i := List.mem_of_getElem? (by rw [List.getElem?_take_of_lt hm]; exact h)
theorem Inner.skip {all : List V} {p : Int} {i : Nat} {best : Int} {v : V} (hv : all[i]? = some v) (hn : ¬ Cand all p v) (h : Inner all p i best) : Inner all p (i + 1) best := by
  rcases h with ⟨h1, h2⟩ | ⟨j, y, h1, h2, h3, h4, h5, h6⟩
  · exact .inl ⟨h1, fun z hz => (mem_snoc hv hz).elim (h2 z) (fun e => by rw [e]; exact hn)⟩
  · exact .inr ⟨j, y, h1, by omega, h3, h4, fun z hz hc => (mem_snoc hv hz).elim (fun hz => h5 z hz hc) (fun e => absurd (e ▸ hc) hn), h6⟩
theorem Inner.first {all : List V} {p : Int} {i : Nat} {v : V} (hv : all[i]? = some v) (hn : Cand all p v) (h : ∀ z ∈ all.take i, ¬ Cand all p z) : Inner all p (i + 1) (i : Int) :=
  .inr ⟨i, v, rfl, by omega, hv, hn, fun z hz hc => (mem_snoc hv hz).elim (fun hz => absurd hc (h z hz)) (fun e => by rw [e]; exact Int.le_refl _), fun m z hm hz hc => absurd hc (h z (at_take hm hz))⟩
theorem Inner.more {all : List V} {p : Int} {i : Nat} {v y : V} (hv : all[i]? = some v) (hn : Cand all p v) (h5 : ∀ z ∈ all.take i, Cand all p z → z.dot.2 ≤ y.dot.2) (hlt : y.dot.2 < v.dot.2) : Inner all p (i + 1) (i : Int) :=
  .inr ⟨i, v, rfl, by omega, hv, hn, fun z hz hc => (mem_snoc hv hz).elim (fun hz => by have := h5 z hz hc; omega) (fun e => by rw [e]; exact Int.le_refl _), fun m z hm hz hc => by have := h5 z (at_take hm hz) hc; omega⟩
theorem Inner.keep {all : List V} {p : Int} {i j : Nat} {v y : V} (hv : all[i]? = some v) (h2 : j < i) (h3 : all[j]? = some y) (h4 : Cand all p y) (h5 : ∀ z ∈ all.take i, Cand all p z → z.dot.2 ≤ y.dot.2) (h6 : ∀ m z, m < j → all[m]? = some z → Cand all p z → z.dot.2 < y.dot.2) (hlt : ¬ y.dot.2 < v.dot.2) : Inner all p (i + 1) (j : Int) :=
  .inr ⟨j, y, rfl, by omega, h3, h4, fun z hz hc => (mem_snoc hv hz).elim (fun hz => h5 z hz hc) (fun e => by rw [e]; omega), h6⟩
/-- What is synced, of the peers ahead of one. -/
structure Sofar (a b : List V) (p : Int) (s : List V) : Prop where
  up : VUp (-1) s
  mem : ∀ x, x ∈ s ↔ Best a b x ∧ x.dot.1 < p
theorem Sofar.start {a b : List V} (ha : LeafOk a) (hb : LeafOk b) : Sofar a b 0 [] := ⟨trivial, fun x => ⟨fun h => (by cases h), fun h => by
  obtain ⟨h1, h2⟩ := h
  have hok : OkV x := h1.of.1.elim (fun h => (ha.up.mem h).1) (fun h => (hb.up.mem h).1)
  have := hok.dot
  unfold Ok at this
  omega⟩⟩
theorem Sofar.none {a b s : List V} {p : Int} (h : Sofar a b p s) (hn : ∀ z ∈ a ++ b, ¬ Cand (a ++ b) p z) : Sofar a b (p + 1) s := ⟨h.up, fun x => by
  rw [h.mem]
  constructor
  · rintro ⟨h1, h2⟩; exact ⟨h1, by omega⟩
  · rintro ⟨h1, h2⟩
    refine ⟨h1, ?_⟩
    have := none_best hn x
    by_cases e : x.dot.1 = p
    · exact absurd ⟨h1, e⟩ this
    · omega⟩
theorem Sofar.one {a b s : List V} {p : Int} {y : V} (h : Sofar a b p s) (hy : ∀ x, Best a b x ∧ x.dot.1 = p ↔ x = y) (hok : OkV y) : Sofar a b (p + 1) (s ++ [y]) := by
  obtain ⟨_, hyp⟩ := (hy y).2 rfl
  have h0 := hok.dot
  unfold Ok at h0
  refine ⟨h.up.snoc hok (by omega) (fun u hu => by have := ((h.mem u).1 hu).2; omega), fun x => ?_⟩
  rw [List.mem_append, List.mem_singleton, h.mem, ← hy x]
  constructor
  · rintro (⟨h1, h2⟩ | ⟨h1, h2⟩)
    · exact ⟨h1, by omega⟩
    · exact ⟨h1, by omega⟩
  · rintro ⟨h1, h2⟩
    by_cases e : x.dot.1 = p
    · exact .inr ⟨h1, e⟩
    · exact .inl ⟨h1, by omega⟩
theorem Sofar.done {a b s : List V} (ha : LeafOk a) (hb : LeafOk b) (h : Sofar a b 64 s) : IsSync a b s := ⟨h.up, fun x => (h.mem x).trans ⟨fun h => h.1, fun h1 => ⟨h1, by
  have hok : OkV x := h1.of.1.elim (fun h => (ha.up.mem h).1) (fun h => (hb.up.mem h).1)
  have := hok.dot
  unfold Ok at this
  omega⟩⟩⟩
end Vc

/-- What Sync leaves. -/
def Synced (O : Nat → Prop) (a b : List Vc.V) (w : World) (e : Ending) (w' : World) : Prop :=
  ∃ (s : List Vc.V) (r : Option Addr) (cap : Nat), e = .returned (.slice r s.length cap) ∧ s.length ≤ cap ∧ SV w' r s ∧ Prov O w' r s ∧ Below w.heap.size w w' ∧ (Vc.checkLeaf a = 0 ∧ Vc.checkLeaf b = 0 → Vc.IsSync a b s) ∧ (¬ (Vc.checkLeaf a = 0 ∧ Vc.checkLeaf b = 0) → s = [])
end Go.Proofs.Ytbghekolfcakeaa
