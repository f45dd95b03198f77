/-
  What is stable, by the least of the rows: plain facts for a program that meets row after row.
-/
import Derived.Test.YtbgpdiinkkgieaaDuo
namespace Go.Proofs.Ytbgpdiinkkgieaa

theorem look_big : ∀ {l : List Vc.D} {q p : Int}, Vc.Up q l → 64 ≤ p → Vc.look l p = 0
  | [], _, _, _, _ => rfl
  | d :: l, q, p, h, hp => by
    have hd := h.1
    unfold Vc.Ok at hd
    show (if d.1 = p then d.2 else Vc.look l p) = 0
    rw [if_neg (by omega)]
    exact look_big h.2.2 hp
theorem IsStable.ext {rows : List (List Vc.D)} {S T : List Vc.D} (hS : IsStable rows S) (hT : IsStable rows T) : S = T := by
  refine Vc.vec_ext hS.up hT.up fun p => ?_
  by_cases hp : p < 0
  · rw [look_neg hS.up (by omega) hp, look_neg hT.up (by omega) hp]
  · obtain ⟨k, rfl⟩ : ∃ k : Nat, p = k := ⟨p.toNat, by omega⟩
    rw [hS.look, hT.look]
/-- A vector that is in each of the rows, and has of each peer what one of them has. -/
theorem stable_of {rows : List (List Vc.D)} {S : List Vc.D} (h : Vecs rows) (hn : 0 < rows.length) (hS : Vc.Up (-1) S) (hle : ∀ i, i < rows.length → ∀ p, Vc.look S p ≤ Vc.look (rows[i]?.getD []) p) (hex : ∀ p, ∃ i, i < rows.length ∧ Vc.look S p = Vc.look (rows[i]?.getD []) p) : S = stableL rows := by
  refine IsStable.ext ⟨hS, fun p => ?_⟩ (stable_is rows)
  obtain ⟨i, hi, e⟩ := hex p
  split
  · have h1 := mnR_le (rows := rows) (p : Int) hi
    rw [Vc.get_vec (h.at i), ← e] at h1
    have h2 := le_mnR (rows := rows) (p : Int) (Vc.look S p) hn fun j hj => by rw [Vc.get_vec (h.at j)]; exact hle j hj p
    omega
  · rw [e]; exact look_big (h.at i) (by omega)
theorem meets_up (a b : List Vc.D) : Vc.Up (-1) (Vc.meets a b) := (Vc.check_zero _).1 (Vc.meets_ok a b)
theorem meets_look {a b : List Vc.D} (ha : Vc.Up (-1) a) (hb : Vc.Up (-1) b) (p : Int) : Vc.look (Vc.meets a b) p = min (Vc.look a p) (Vc.look b p) := by
  unfold Vc.meets
  rw [if_pos ⟨(Vc.check_zero _).2 ha, (Vc.check_zero _).2 hb⟩, Vc.meet_look ha hb]
/-- What the first rows have in common. -/
structure Met (rows : List (List Vc.D)) (k : Nat) (S : List Vc.D) : Prop where
  up : Vc.Up (-1) S
  le : ∀ i, i < k → ∀ p, Vc.look S p ≤ Vc.look (rows[i]?.getD []) p
  ex : ∀ p, ∃ i, i < rows.length ∧ Vc.look S p = Vc.look (rows[i]?.getD []) p
theorem Met.first {rows : List (List Vc.D)} (h : Vecs rows) (hn : 0 < rows.length) : Met rows 0 (rows[0]?.getD []) := ⟨h.at 0, fun _ hi => by omega, fun _ => ⟨0, hn, rfl⟩⟩
theorem Met.step {rows : List (List Vc.D)} {k : Nat} {S : List Vc.D} (h : Vecs rows) (hk : k < rows.length) (hM : Met rows k S) : Met rows (k + 1) (Vc.meets S (rows[k]?.getD [])) := by
  refine ⟨meets_up _ _, fun i hi p => ?_, fun p => ?_⟩
  · rw [meets_look hM.up (h.at k)]
    by_cases e : i = k
    · subst e; omega
    · have := hM.le i (by omega) p; omega
  · rw [meets_look hM.up (h.at k)]
    obtain ⟨i, hi, e⟩ := hM.ex p
    by_cases hc : Vc.look S p ≤ Vc.look (rows[k]?.getD []) p
    · exact ⟨i, hi, by omega⟩
    · exact ⟨k, hk, by omega⟩
theorem Met.all {rows : List (List Vc.D)} {S : List Vc.D} (h : Vecs rows) (hn : 0 < rows.length) (hM : Met rows rows.length S) : S = stableL rows := stable_of h hn hM.up hM.le hM.ex
end Go.Proofs.Ytbgpdiinkkgieaa
