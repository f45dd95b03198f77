/-
  Plain facts on rows that are learnt: in whatever order the rows are the same; what is stable grows, and is in each row. No program, no world.
-/
import Derived.Test.YtbgpdiinkkgieaaRefG
namespace Go.Proofs.Ytbgpdiinkkgieaa

/-- All rows are vectors. -/
def Vecs (rows : List (List Vc.D)) : Prop := ∀ ds ∈ rows, Vc.Up (-1) ds
theorem Vecs.at {rows : List (List Vc.D)} (h : Vecs rows) (i : Nat) : Vc.Up (-1) (rows[i]?.getD []) := by
  cases hi : rows[i]? with
  | none => trivial
  | some d => exact h d (List.mem_of_getElem? hi)
theorem mayE_ok {n peer : Int} {v : List Vc.D} (h : mayE n peer v = 0) : 0 ≤ peer ∧ peer < n ∧ Vc.Up (-1) v := by
  unfold mayE at h
  by_cases h1 : peer < 0 ∨ n ≤ peer
  · rw [if_pos h1] at h; cases h
  · rw [if_neg h1] at h
    by_cases h2 : Vc.check v = 0
    · exact ⟨by omega, by omega, (Vc.check_zero v).1 h2⟩
    · rw [if_pos h2] at h; exact absurd h h2
theorem joins_up (a b : List Vc.D) : Vc.Up (-1) (Vc.joins a b) := (Vc.check_zero _).1 (Vc.joins_ok a b)
theorem learnL_vecs {rows : List (List Vc.D)} (h : Vecs rows) (peer : Int) (v : List Vc.D) : Vecs (learnL rows peer v).1 := fun ds hds => by
  unfold learnL at hds
  split at hds
  · exact h ds hds
  · rcases List.mem_or_eq_of_mem_set hds with h1 | h1
    · exact h ds h1
    · rw [h1]; exact joins_up _ _
/-- What a row has behind a fact. -/
theorem learnL_at {rows : List (List Vc.D)} (h : Vecs rows) (peer : Int) (v : List Vc.D) (i : Nat) (p : Int) :
    Vc.look ((learnL rows peer v).1[i]?.getD []) p = if mayE rows.length peer v = 0 ∧ peer = (i : Int) then max (Vc.look (rows[i]?.getD []) p) (Vc.look v p) else Vc.look (rows[i]?.getD []) p := by
  unfold learnL
  by_cases hm : mayE rows.length peer v = 0
  · obtain ⟨h1, h2, h3⟩ := mayE_ok hm
    rw [if_neg (by simpa using hm)]
    show Vc.look ((rows.set peer.toNat (Vc.joins (rows[peer.toNat]?.getD []) v))[i]?.getD []) p = _
    by_cases e : peer = (i : Int)
    · rw [if_pos ⟨hm, e⟩, show peer.toNat = i by omega, List.getElem?_set_self (by omega)]
      show Vc.look (Vc.joins (rows[i]?.getD []) v) p = _
      unfold Vc.joins
      rw [if_pos ⟨(Vc.check_zero _).2 (h.at i), (Vc.check_zero _).2 h3⟩, Vc.join_look (h.at i) h3]
    · rw [if_neg (fun h => e h.2), List.getElem?_set_ne (by omega)]
  · rw [if_pos hm, if_neg (fun h => hm h.1)]
theorem rows_ext {a b : List (List Vc.D)} (hl : a.length = b.length) (ha : Vecs a) (hb : Vecs b) (h : ∀ (i : Nat) (p : Int), Vc.look (a[i]?.getD []) p = Vc.look (b[i]?.getD []) p) : a = b := by
  apply List.ext_getElem?
  intro i
  by_cases hi : i < a.length
  · have e1 : a[i]? = some a[i] := List.getElem?_eq_getElem hi
    have e2 : b[i]? = some (b[i]'(by omega)) := List.getElem?_eq_getElem (by omega)
    have h1 := Vc.vec_ext (ha.at i) (hb.at i) (h i)
    rw [e1, e2] at h1
    rw [e1, e2]
    exact congrArg some h1
  · rw [List.getElem?_eq_none (by omega), List.getElem?_eq_none (by omega)]
/-- Facts of single peers, one behind the other. -/
def learnAll (rows : List (List Vc.D)) (fs : List (Int × List Vc.D)) : List (List Vc.D) := fs.foldl (fun r f => (learnL r f.1 f.2).1) rows
theorem learnAll_len (fs : List (Int × List Vc.D)) : ∀ rows, (learnAll rows fs).length = rows.length := by
  induction fs with
  | nil => exact fun _ => rfl
  | cons f fs ih => exact fun rows => (ih _).trans (learnL_len _ _ _)
theorem learnAll_vecs (fs : List (Int × List Vc.D)) : ∀ {rows}, Vecs rows → Vecs (learnAll rows fs) := by
  induction fs with
  | nil => exact fun h => h
  | cons f fs ih => exact fun h => ih (learnL_vecs h _ _)
theorem learn_swap {rows : List (List Vc.D)} (h : Vecs rows) (p q : Int) (v u : List Vc.D) : (learnL (learnL rows p v).1 q u).1 = (learnL (learnL rows q u).1 p v).1 := by
  refine rows_ext (by simp [learnL_len]) (learnL_vecs (learnL_vecs h _ _) _ _) (learnL_vecs (learnL_vecs h _ _) _ _) fun i x => ?_
  rw [learnL_at (learnL_vecs h _ _), learnL_at (learnL_vecs h _ _), learnL_at h, learnL_at h, learnL_len, learnL_len]
  split <;> split <;> omega
theorem learn_through (fs : List (Int × List Vc.D)) (f : Int × List Vc.D) : ∀ {rows}, Vecs rows → learnAll (learnL rows f.1 f.2).1 fs = (learnL (learnAll rows fs) f.1 f.2).1 := by
  induction fs with
  | nil => exact fun _ => rfl
  | cons g fs ih =>
    intro rows h
    show learnAll (learnL (learnL rows f.1 f.2).1 g.1 g.2).1 fs = (learnL (learnAll (learnL rows g.1 g.2).1 fs) f.1 f.2).1
    rw [learn_swap h, ih (learnL_vecs h _ _)]
/-- In the other order they come to the same. -/
theorem learn_rev (fs : List (Int × List Vc.D)) : ∀ {rows}, Vecs rows → learnAll rows fs.reverse = learnAll rows fs := by
  induction fs with
  | nil => exact fun _ => rfl
  | cons f fs ih =>
    intro rows h
    rw [List.reverse_cons]
    show (fs.reverse ++ [f]).foldl (fun r f => (learnL r f.1 f.2).1) rows = learnAll (learnL rows f.1 f.2).1 fs
    rw [List.foldl_append, learn_through fs f h]
    show (learnL (learnAll rows fs.reverse) f.1 f.2).1 = _
    rw [ih h]
/-- The least of the first rows. -/
theorem mnR_le {rows : List (List Vc.D)} (p : Int) : ∀ {n i : Nat}, i < n → mnR rows p n ≤ Vc.get (rows[i]?.getD []) p
  | 0, i, h => by omega
  | n + 1, i, h => by
    rw [mnR]
    by_cases e : i = n
    · subst e
      split <;> omega
    · have := mnR_le (rows := rows) p (n := n) (i := i) (by omega)
      split <;> omega
theorem le_mnR {rows : List (List Vc.D)} (p k : Int) : ∀ {n : Nat}, 0 < n → (∀ i, i < n → k ≤ Vc.get (rows[i]?.getD []) p) → k ≤ mnR rows p n
  | 0, h, _ => by omega
  | n + 1, _, hall => by
    rw [mnR]
    have h1 := hall n (by omega)
    by_cases e : n = 0
    · rw [if_pos (.inl e)]; exact h1
    · have := le_mnR (rows := rows) p k (n := n) (by omega) fun i hi => hall i (by omega)
      split <;> omega
theorem mnR_bd (rows : List (List Vc.D)) (p : Int) : ∀ n, 0 ≤ mnR rows p n ∧ mnR rows p n ≤ 1048576
  | 0 => by simp [mnR]
  | n + 1 => by
    rw [mnR]
    have := Vc.get_bd (rows[n]?.getD []) p
    have := mnR_bd rows p n
    split <;> omega
theorem stN_up (rows : List (List Vc.D)) (n : Nat) (hn : n ≤ 64) : Vc.Up (-1) (Vc.ofN (fun p : Nat => mnR rows (p : Int) rows.length) n) := Vc.ofN_up (fun p : Nat => mnR rows (p : Int) rows.length) (fun i => (mnR_bd rows (i : Int) rows.length).2) n hn
theorem stN_look (rows : List (List Vc.D)) (n p : Nat) : Vc.look (Vc.ofN (fun p : Nat => mnR rows (p : Int) rows.length) n) p = if p < n then mnR rows p rows.length else 0 := Vc.ofN_look (fun p : Nat => mnR rows (p : Int) rows.length) (fun i => (mnR_bd rows (i : Int) rows.length).1) n p
/-- What is stable: a vector, of each peer the least. -/
structure IsStable (rows : List (List Vc.D)) (S : List Vc.D) : Prop where
  up : Vc.Up (-1) S
  look : ∀ p : Nat, Vc.look S p = if p < 64 then mnR rows p rows.length else 0
theorem stN_is (rows : List (List Vc.D)) (n : Nat) (hn : n = 64) : IsStable rows (Vc.ofN (fun p : Nat => mnR rows (p : Int) rows.length) n) := ⟨stN_up rows n (by omega), fun p => by rw [stN_look, hn]⟩
theorem stable_is (rows : List (List Vc.D)) : IsStable rows (stableL rows) := stN_is rows 64 rfl
theorem look_neg : ∀ {l : List Vc.D} {q p : Int}, Vc.Up q l → -1 ≤ q → p < 0 → Vc.look l p = 0
  | [], _, _, _, _, _ => rfl
  | d :: l, q, p, h, hq, hp => by
    have hd := h.1
    unfold Vc.Ok at hd
    show (if d.1 = p then d.2 else Vc.look l p) = 0
    rw [if_neg (by omega)]
    exact look_neg h.2.2 (by omega) hp
theorem IsStable.row {rows : List (List Vc.D)} {S : List Vc.D} (hS : IsStable rows S) (h : Vecs rows) {i : Nat} (hi : i < rows.length) (p : Int) : Vc.look S p ≤ Vc.look (rows[i]?.getD []) p := by
  have hb := Vc.look_bd p (h.at i)
  by_cases hp : p < 0
  · rw [look_neg hS.up (by omega) hp]; omega
  · obtain ⟨k, rfl⟩ : ∃ k : Nat, p = k := ⟨p.toNat, by omega⟩
    rw [hS.look]
    split
    · have := mnR_le (rows := rows) (k : Int) hi
      rw [Vc.get_vec (h.at i)] at this
      exact this
    · omega
/-- What is stable is in each row. -/
theorem IsStable.within {rows : List (List Vc.D)} {S : List Vc.D} (hS : IsStable rows S) (h : Vecs rows) {i : Nat} (hi : i < rows.length) : Vc.within S (rows[i]?.getD []) = true := (Vc.within_iff _ _).2 ⟨hS.up, h.at i, hS.row h hi⟩
/-- What is stable grows. -/
theorem IsStable.grows {rows : List (List Vc.D)} {S T : List Vc.D} (h : Vecs rows) (hn : 0 < rows.length) (peer : Int) (v : List Vc.D) (hS : IsStable rows S) (hT : IsStable (learnL rows peer v).1 T) : Vc.within S T = true := by
  refine (Vc.within_iff _ _).2 ⟨hS.up, hT.up, fun p => ?_⟩
  by_cases hp : p < 0
  · rw [look_neg hS.up (by omega) hp, look_neg hT.up (by omega) hp]; omega
  · obtain ⟨k, rfl⟩ : ∃ k : Nat, p = k := ⟨p.toNat, by omega⟩
    rw [hS.look, hT.look, learnL_len]
    split
    · refine le_mnR _ _ hn fun i hi => ?_
      rw [Vc.get_vec ((learnL_vecs h peer v).at i), learnL_at h]
      have h1 := mnR_le (rows := rows) (k : Int) hi
      rw [Vc.get_vec (h.at i)] at h1
      split <;> omega
    · exact Int.le_refl _
theorem vecs_none (n : Nat) : Vecs (List.replicate n []) := fun ds h => by rw [(List.mem_replicate.1 h).2]; trivial
end Go.Proofs.Ytbgpdiinkkgieaa
