/-
  Plain facts on orders that a draw tells: no program, no world. Conditions: none but those that each theorem names.
-/
namespace Go.Proofs.Ytehamngfkmnckaa.Dc

/-- The place of the k-th that is left. -/
def pickAt : List Bool → Nat → Nat
  | [], _ => 0
  | true :: g, k => pickAt g k + 1
  | false :: _, 0 => 0
  | false :: g, k + 1 => pickAt g k + 1
/-- What a draw tells, of so many that are left. -/
def ordG : List Bool → Nat → Nat → List Nat
  | _, _, 0 => []
  | g, d, m + 1 => pickAt g (d % (m + 1)) :: ordG (g.set (pickAt g (d % (m + 1))) true) (d / (m + 1)) m
def order (d n : Nat) : List Nat := ordG (List.replicate n false) d n
/-- How many are left. -/
def lefts (g : List Bool) : Nat := g.count false
theorem lefts_none (n : Nat) : lefts (List.replicate n false) = n := by simp [lefts]
theorem lefts_true (g : List Bool) : lefts (true :: g) = lefts g := by simp [lefts]
theorem lefts_false (g : List Bool) : lefts (false :: g) = lefts g + 1 := by simp [lefts]
theorem lefts_le (g : List Bool) : lefts g ≤ g.length := List.count_le_length
theorem pick_false : ∀ (g : List Bool) (k : Nat), k < lefts g → g[pickAt g k]? = some false
  | [], k, h => by simp [lefts] at h
  | true :: g, k, h => by
    rw [lefts_true] at h
    simpa [pickAt] using pick_false g k h
  | false :: g, 0, _ => by simp [pickAt]
  | false :: g, k + 1, h => by
    rw [lefts_false] at h
    simpa [pickAt] using pick_false g k (by omega)
theorem pick_lt {g : List Bool} {k : Nat} (h : k < lefts g) : pickAt g k < g.length := (List.getElem?_eq_some_iff.1 (pick_false g k h)).1
theorem lefts_set : ∀ {g : List Bool} {p : Nat}, g[p]? = some false → lefts (g.set p true) + 1 = lefts g
  | [], _, h => by simp at h
  | b :: g, 0, h => by
    simp at h
    subst h
    rw [List.set_cons_zero, lefts_true, lefts_false]
  | b :: g, p + 1, h => by
    have ih := lefts_set (g := g) (p := p) (by simpa using h)
    rw [List.set_cons_succ]
    cases b
    · rw [lefts_false, lefts_false]; omega
    · rw [lefts_true, lefts_true]; exact ih
theorem pick_next {g : List Bool} {i k : Nat} (hi : i < g.length) : pickAt (g.drop i) k = if g[i]?.getD true = true then pickAt (g.drop (i + 1)) k + 1 else if k = 0 then 0 else pickAt (g.drop (i + 1)) (k - 1) + 1 := by
  rw [List.drop_eq_getElem_cons hi, List.getElem?_eq_getElem hi]
  cases e : g[i] <;> cases k <;> simp [pickAt]
theorem lefts_next {g : List Bool} {i : Nat} (hi : i < g.length) : lefts (g.drop i) = if g[i]?.getD true = true then lefts (g.drop (i + 1)) else lefts (g.drop (i + 1)) + 1 := by
  rw [List.drop_eq_getElem_cons hi, List.getElem?_eq_getElem hi]
  cases e : g[i]
  · rw [lefts_false]; simp
  · rw [lefts_true]; simp
theorem ordG_len : ∀ (m : Nat) (g : List Bool) (d : Nat), (ordG g d m).length = m
  | 0, _, _ => rfl
  | m + 1, g, d => by rw [ordG, List.length_cons, ordG_len m]
theorem order_len (d n : Nat) : (order d n).length = n := ordG_len n _ d
/-- Each is one that is left, and no one twice. -/
def Once : List Bool → List Nat → Prop
  | _, [] => True
  | g, x :: l => g[x]? = some false ∧ Once (g.set x true) l
theorem ordG_once : ∀ (m : Nat) (g : List Bool) (d : Nat), lefts g = m → Once g (ordG g d m)
  | 0, _, _, _ => trivial
  | m + 1, g, d, h => by
    have h1 := pick_false g (d % (m + 1)) (by rw [h]; exact Nat.mod_lt _ (by omega))
    exact ⟨h1, ordG_once m _ _ (by have := lefts_set h1; omega)⟩
theorem order_once (d n : Nat) : Once (List.replicate n false) (order d n) := ordG_once n _ d (lefts_none n)
/-- What is picked, one behind the other. -/
def picks : List Bool → List Nat → List Nat
  | _, [] => []
  | g, k :: l => pickAt g k :: picks (g.set (pickAt g k) true) l
theorem picks_len : ∀ (l : List Nat) (g : List Bool), (picks g l).length = l.length
  | [], _ => rfl
  | k :: l, g => by rw [picks, List.length_cons, List.length_cons, picks_len l]
/-- The draw that picks so. -/
def code : List Nat → Nat
  | [] => 0
  | k :: l => k + (l.length + 1) * code l
def Small : List Nat → Prop
  | [] => True
  | k :: l => k < l.length + 1 ∧ Small l
theorem ordG_code : ∀ (l : List Nat) (g : List Bool), Small l → ordG g (code l) l.length = picks g l
  | [], _, _ => rfl
  | k :: l, g, h => by
    have e1 : (k + (l.length + 1) * code l) % (l.length + 1) = k := by rw [Nat.add_mul_mod_self_left]; exact Nat.mod_eq_of_lt h.1
    have e2 : (k + (l.length + 1) * code l) / (l.length + 1) = code l := by rw [Nat.add_mul_div_left _ _ (by omega), Nat.div_eq_of_lt h.1, Nat.zero_add]
    rw [List.length_cons, ordG, code, e1, e2, picks, ordG_code l _ h.2]
/-- What a list of any numbers picks. -/
def ksOf : List Int → List Nat
  | [] => []
  | x :: l => (x % 18446744073709551616).toNat % (l.length + 1) :: ksOf l
theorem ksOf_len : ∀ l, (ksOf l).length = l.length
  | [] => rfl
  | x :: l => by rw [ksOf, List.length_cons, List.length_cons, ksOf_len l]
theorem ksOf_small : ∀ l, Small (ksOf l)
  | [] => trivial
  | x :: l => ⟨by rw [ksOf_len]; exact Nat.mod_lt _ (by omega), ksOf_small l⟩
theorem ksOf_at {l : List Int} {i : Nat} {x : Int} (h : l[i]? = some x) : (ksOf l).drop i = (x % 18446744073709551616).toNat % (l.length - i) :: (ksOf l).drop (i + 1) := by
  induction l generalizing i with
  | nil => simp at h
  | cons y l ih =>
    cases i with
    | zero =>
      simp at h
      subst h
      simp [ksOf]
    | succ i =>
      have h1 : l[i]? = some x := by simpa using h
      have hi := (List.getElem?_eq_some_iff.1 h1).1
      rw [ksOf, List.drop_succ_cons, List.drop_succ_cons, ih h1, List.length_cons, show l.length + 1 - (i + 1) = l.length - i by omega]
theorem order_code (l : List Int) : order (code (ksOf l)) l.length = picks (List.replicate l.length false) (ksOf l) := by
  have := ordG_code (ksOf l) (List.replicate l.length false) (ksOf_small l)
  rw [ksOf_len] at this
  exact this
theorem pow12 : ∀ i, i ≤ 12 → 12 ^ i ≤ 8916100448256
  | 0, _ => by decide
  | 1, _ => by decide
  | 2, _ => by decide
  | 3, _ => by decide
  | 4, _ => by decide
  | 5, _ => by decide
  | 6, _ => by decide
  | 7, _ => by decide
  | 8, _ => by decide
  | 9, _ => by decide
  | 10, _ => by decide
  | 11, _ => by decide
  | 12, _ => by decide
  | _ + 13, h => by omega

/-- The same, said by the list of those that are left. -/
def ordE : List Nat → Nat → Nat → List Nat
  | _, _, 0 => []
  | l, d, m + 1 => l[d % (m + 1)]?.getD 0 :: ordE (l.eraseIdx (d % (m + 1))) (d / (m + 1)) m
/-- The numbers that are left, from one on. -/
def leftL (o : Nat) : List Bool → List Nat
  | [] => []
  | true :: g => leftL (o + 1) g
  | false :: g => o :: leftL (o + 1) g
theorem leftL_len : ∀ (g : List Bool) (o : Nat), (leftL o g).length = lefts g
  | [], _ => rfl
  | true :: g, o => by rw [leftL, leftL_len g, lefts_true]
  | false :: g, o => by rw [leftL, List.length_cons, leftL_len g, lefts_false]
theorem leftL_at : ∀ (g : List Bool) (o k : Nat), k < lefts g → (leftL o g)[k]? = some (o + pickAt g k)
  | [], _, _, h => by simp [lefts] at h
  | true :: g, o, k, h => by
    rw [lefts_true] at h
    rw [leftL, leftL_at g (o + 1) k h, pickAt, show o + 1 + pickAt g k = o + (pickAt g k + 1) by omega]
  | false :: g, o, 0, _ => rfl
  | false :: g, o, k + 1, h => by
    rw [lefts_false] at h
    rw [leftL, List.getElem?_cons_succ, leftL_at g (o + 1) k (by omega), pickAt, show o + 1 + pickAt g k = o + (pickAt g k + 1) by omega]
theorem leftL_set : ∀ (g : List Bool) (o k : Nat), k < lefts g → leftL o (g.set (pickAt g k) true) = (leftL o g).eraseIdx k
  | [], _, _, h => by simp [lefts] at h
  | true :: g, o, k, h => by
    rw [lefts_true] at h
    rw [pickAt, List.set_cons_succ, leftL, leftL, leftL_set g (o + 1) k h]
  | false :: g, o, 0, _ => rfl
  | false :: g, o, k + 1, h => by
    rw [lefts_false] at h
    rw [pickAt, List.set_cons_succ, leftL, leftL, leftL_set g (o + 1) k (by omega), List.eraseIdx_cons_succ]
theorem ordE_ordG : ∀ (m : Nat) (g : List Bool) (d : Nat), lefts g = m → ordE (leftL 0 g) d m = ordG g d m
  | 0, _, _, _ => rfl
  | m + 1, g, d, h => by
    have hk : d % (m + 1) < lefts g := by rw [h]; exact Nat.mod_lt _ (by omega)
    have h1 := lefts_set (pick_false g _ hk)
    rw [ordE, ordG, leftL_at g 0 _ hk, ← leftL_set g 0 _ hk, ordE_ordG m _ _ (by omega)]
    simp
theorem leftL_none : ∀ (n o : Nat), leftL o (List.replicate n false) = (List.range n).map (o + ·)
  | 0, _ => rfl
  | n + 1, o => by
    rw [List.replicate_succ, leftL, leftL_none n, List.range_succ_eq_map, List.map_cons, List.map_map]
    congr 1
    refine List.map_congr_left fun a _ => ?_
    show o + 1 + a = o + (a + 1)
    omega
theorem order_ordE (d n : Nat) : ordE (List.range n) d n = order d n := by
  have h := ordE_ordG n (List.replicate n false) d (lefts_none n)
  rw [leftL_none, show (fun x => 0 + x) = (id : Nat → Nat) by funext x; simp, List.map_id] at h
  exact h
end Go.Proofs.Ytehamngfkmnckaa.Dc
