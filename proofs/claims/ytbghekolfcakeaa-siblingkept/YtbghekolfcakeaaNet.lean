/-
  Plain facts on leaves that grew by writes, deletions and syncing alone: no program, no world. Conditions: none but those that each theorem names.
-/
import Derived.Test.YtbghekolfcakeaaSib
namespace Go.Proofs.Ytbghekolfcakeaa.Vc

theorem sumTo_le (f g : Nat → Int) (h : ∀ i, f i ≤ g i) : ∀ k, sumTo f k ≤ sumTo g k
  | 0 => Int.le_refl _
  | k + 1 => by have := sumTo_le f g h k; have := h k; unfold sumTo; omega
theorem sumTo_lt (f g : Nat → Int) (h : ∀ i, f i ≤ g i) (m : Nat) (hm : f m < g m) : ∀ k, m < k → sumTo f k < sumTo g k
  | 0, hk => absurd hk (Nat.not_lt_zero _)
  | k + 1, hk => by
    unfold sumTo
    by_cases e : m = k
    · subst e
      have := sumTo_le f g h m
      omega
    · have := sumTo_lt f g h m hm k (by omega)
      have := h k
      omega

/-- All versions that were written, and how many at each peer. -/
structure Wd (all : List V) (n : Int → Int) : Prop where
  ok : ∀ v ∈ all, OkV v
  dots : ∀ v ∈ all, v.dot.2 ≤ n v.dot.1
  there : ∀ p k, 1 ≤ k → k ≤ n p → ∃ v ∈ all, v.dot = (p, k)
  one : ∀ u ∈ all, ∀ v ∈ all, u.dot = v.dot → u = v
  own : ∀ v ∈ all, look v.past v.dot.1 = v.dot.2 - 1
  trans : ∀ u ∈ all, ∀ v ∈ all, covers u v = true → ∀ p, look v.past p ≤ look u.past p
  low : ∀ v ∈ all, ∀ p, look v.past p ≤ n p
/-- What a peer knows. -/
structure Cl (all : List V) (n K : Int → Int) : Prop where
  bd : ∀ p, 0 ≤ K p ∧ K p ≤ n p
  past : ∀ v ∈ all, v.dot.2 ≤ K v.dot.1 → ∀ p, look v.past p ≤ K p
/-- The leaf of what is known. -/
structure Leaf (all : List V) (K : Int → Int) (L : List V) : Prop where
  up : VUp (-1) L
  mem : ∀ v, v ∈ L ↔ v ∈ all ∧ v.dot.2 ≤ K v.dot.1 ∧ ∀ u ∈ all, u.dot.2 ≤ K u.dot.1 → covers u v = false
theorem Leaf.ext {all : List V} {K : Int → Int} {L M : List V} (h : Leaf all K L) (h' : Leaf all K M) : L = M := VUp.ext h.up h'.up fun x => (h.mem x).trans (h'.mem x).symm
theorem Leaf.ok {all : List V} {K : Int → Int} {L : List V} (h : Leaf all K L) : LeafOk L :=
  ⟨h.up, fun u hu v hv => ((h.mem v).1 hv).2.2 u ((h.mem u).1 hu).1 ((h.mem u).1 hu).2.1⟩

theorem Wd.cov {all : List V} {n : Int → Int} (h : Wd all n) {u v : V} (hu : u ∈ all) (hv : v ∈ all) : covers u v = true ↔ v.dot.2 ≤ look u.past v.dot.1 := covers_ok (h.ok u hu) (h.ok v hv)
theorem Wd.chain {all : List V} {n : Int → Int} (h : Wd all n) {u v x : V} (hu : u ∈ all) (hv : v ∈ all) (hx : x ∈ all) (h1 : covers u v = true) (h2 : covers v x = true) : covers u x = true := by
  rw [h.cov hu hx]
  have := h.trans u hu v hv h1 x.dot.1
  have := (h.cov hv hx).1 h2
  omega
theorem Wd.more {all : List V} {n : Int → Int} (h : Wd all n) {u v : V} (hu : u ∈ all) (hv : v ∈ all) (h1 : covers u v = true) : total v.past < total u.past := by
  have ou := h.ok u hu
  have ov := h.ok v hv
  have hd := ov.dot
  unfold Ok at hd
  rw [← total_sum ov.past, ← total_sum ou.past]
  refine sumTo_lt _ _ (fun i => h.trans u hu v hv h1 _) v.dot.1.toNat ?_ 64 (by omega)
  rw [show ((v.dot.1.toNat : Nat) : Int) = v.dot.1 by omega]
  have := (h.cov hu hv).1 h1
  have := ov.new
  omega
/-- What is known is in the leaf, or covered by what is. -/
theorem Leaf.above {all : List V} {n K : Int → Int} {L : List V} (hw : Wd all n) (hl : Leaf all K L) : ∀ (m : Nat) (v : V), v ∈ all → v.dot.2 ≤ K v.dot.1 → (67108864 - total v.past).toNat ≤ m → v ∈ L ∨ ∃ u ∈ L, covers u v = true
  | m, v, hv, hk, hm => by
    by_cases h : ∀ u ∈ all, u.dot.2 ≤ K u.dot.1 → covers u v = false
    · exact .inl ((hl.mem v).2 ⟨hv, hk, h⟩)
    · obtain ⟨u, hu, hku, hc⟩ : ∃ u, u ∈ all ∧ u.dot.2 ≤ K u.dot.1 ∧ covers u v = true := by
        apply Classical.byContradiction
        intro hno
        apply h
        intro u hu hku
        cases hc : covers u v with
        | false => rfl
        | true => exact absurd ⟨u, hu, hku, hc⟩ hno
      have hmore := hw.more hu hv hc
      have hb := total_bd (hw.ok u hu).past
      have hlen := vec_len (hw.ok u hu).past
      have hbv := total_bd (hw.ok v hv).past
      match m with
      | 0 => omega
      | m + 1 =>
        right
        rcases Leaf.above hw hl m u hu hku (by omega) with h1 | ⟨x, hx, h1⟩
        · exact ⟨u, h1, hc⟩
        · exact ⟨x, hx, hw.chain ((hl.mem x).1 hx).1 hu hv h1 hc⟩
theorem Leaf.over {all : List V} {n K : Int → Int} {L : List V} (hl : Leaf all K L) (hw : Wd all n) {v : V} (hv : v ∈ all) (hk : v.dot.2 ≤ K v.dot.1) : v ∈ L ∨ ∃ u ∈ L, covers u v = true := Leaf.above hw hl _ v hv hk (Nat.le_refl _)
theorem Leaf.top {all : List V} {n K : Int → Int} {L : List V} (hl : Leaf all K L) (hw : Wd all n) (hc : Cl all n K) (p : Int) : top L p = K p := by
  have h1 : Vc.top L p ≤ K p := top_le (hc.bd p).1 fun v hv => by
    obtain ⟨a, b, _⟩ := (hl.mem v).1 hv
    have := hc.past v a b p
    unfold reach
    split
    · rename_i e; subst e; omega
    · have := (hc.bd p).1; omega
  have h2 : K p ≤ Vc.top L p := by
    by_cases h0 : K p = 0
    · have := top_zero L p; omega
    · obtain ⟨v, hv, e⟩ := hw.there p (K p) (by have := hc.bd p; omega) (hc.bd p).2
      have e1 : v.dot.1 = p := by rw [e]
      have e2 : v.dot.2 = K p := by rw [e]
      rcases hl.over hw hv (by rw [e1, e2]; exact Int.le_refl _) with h3 | ⟨u, hu, h3⟩
      · have := le_top p h3
        unfold reach at this
        rw [if_pos e1] at this
        omega
      · have h4 := (hw.cov ((hl.mem u).1 hu).1 hv).1 h3
        rw [e1, e2] at h4
        have := le_top p hu
        unfold reach at this
        omega
  omega
theorem Cl.max {all : List V} {n K M : Int → Int} (h : Cl all n K) (h' : Cl all n M) : Cl all n fun p => max (K p) (M p) :=
  ⟨fun p => by have := h.bd p; have := h'.bd p; first | omega | (dsimp only; omega), fun v hv hk p => by
    try dsimp only at hk ⊢
    by_cases hl : v.dot.2 ≤ K v.dot.1
    · have := h.past v hv hl p; omega
    · have := h'.past v hv (by omega) p; omega⟩
theorem Wd.same {all : List V} {n : Int → Int} (hw : Wd all n) {u v : V} (hu : u ∈ all) (hv : v ∈ all) (e : u.dot.1 = v.dot.1) (h : v.dot.2 < u.dot.2) : covers u v = true := by
  rw [hw.cov hu hv, ← e, hw.own u hu]
  omega
theorem Leaf.sync {all : List V} {n K M : Int → Int} {A B S : List V} (hw : Wd all n) (ha : Leaf all K A) (hb : Leaf all M B) (hs : IsSync A B S) : Leaf all (fun p => Max.max (K p) (M p)) S := by
  refine ⟨hs.up, fun v => (hs.mem v).trans ?_⟩
  have cross : ∀ {K M : Int → Int} {A B : List V}, Leaf all K A → Leaf all M B → ∀ v ∈ A, (∀ u ∈ B, covers u v = false) → ∀ u ∈ all, u.dot.2 ≤ Max.max (K u.dot.1) (M u.dot.1) → covers u v = false := by
    intro K M A B ha hb v hv hfree u hu hk
    obtain ⟨v1, v2, v3⟩ := (ha.mem v).1 hv
    by_cases hl : u.dot.2 ≤ K u.dot.1
    · exact v3 u hu hl
    · rcases hb.over hw hu (by omega) with h1 | ⟨x, hx, h1⟩
      · exact hfree u h1
      · cases hc : covers u v with
        | false => rfl
        | true =>
          have := hw.chain ((hb.mem x).1 hx).1 hu v1 h1 hc
          rw [hfree x hx] at this
          cases this
  constructor
  · intro h
    obtain ⟨h1, h2⟩ := h.of
    rcases h1 with h1 | h1
    · obtain ⟨v1, v2, v3⟩ := (ha.mem v).1 h1
      exact ⟨v1, by first | omega | (dsimp only; omega), fun u hu hk => cross ha hb v h1 h2.2 u hu hk⟩
    · obtain ⟨v1, v2, v3⟩ := (hb.mem v).1 h1
      exact ⟨v1, by first | omega | (dsimp only; omega), fun u hu hk => cross hb ha v h1 h2.1 u hu (by first | omega | (dsimp only at hk; omega))⟩
  · rintro ⟨v1, v2, v3⟩
    try dsimp only at v2
    have hfree : Free A B v := ⟨fun u hu => v3 u ((ha.mem u).1 hu).1 (by have := ((ha.mem u).1 hu).2.1; first | omega | (dsimp only; omega)), fun u hu => v3 u ((hb.mem u).1 hu).1 (by have := ((hb.mem u).1 hu).2.1; first | omega | (dsimp only; omega))⟩
    by_cases hA : v ∈ A
    · refine .inl ⟨hA, hfree, fun y hy e _ => ?_⟩
      by_cases hl : y.dot.2 ≤ v.dot.2
      · exact hl
      · have := hw.same ((hb.mem y).1 hy).1 v1 e (by omega)
        rw [hfree.2 y hy] at this
        cases this
    · have hB : v ∈ B := by
        by_cases hl : v.dot.2 ≤ M v.dot.1
        · exact (hb.mem v).2 ⟨v1, hl, fun u hu hk => v3 u hu (by first | omega | (dsimp only; omega))⟩
        · exact absurd ((ha.mem v).2 ⟨v1, by omega, fun u hu hk => v3 u hu (by first | omega | (dsimp only; omega))⟩) hA
      refine .inr ⟨hB, hfree, fun y hy e _ => ?_⟩
      by_cases hl : y.dot.2 < v.dot.2
      · exact hl
      · exfalso
        by_cases he : y.dot.2 = v.dot.2
        · have := hw.one y ((ha.mem y).1 hy).1 v v1 (Prod.ext e he)
          rw [this] at hy
          exact hA hy
        · have := hw.same ((ha.mem y).1 hy).1 v1 e (by omega)
          rw [hfree.1 y hy] at this
          cases this

def updI (n : Int → Int) (p x : Int) : Int → Int := fun q => if q = p then x else n q
theorem updI_at (n : Int → Int) (p x : Int) : updI n p x p = x := if_pos rfl
theorem updI_off (n : Int → Int) (p x : Int) {q : Int} (h : q ≠ p) : updI n p x q = n q := if_neg h
theorem updI_le (n : Int → Int) (p q : Int) : n q ≤ updI n p (n p + 1) q := by
  unfold updI
  split
  · rename_i e; subst e; omega
  · exact Int.le_refl _

/-- A version is written: all that is known besides is kept. -/
theorem Wd.write {all : List V} {n K : Int → Int} {v : V} {p : Int} (hw : Wd all n) (hc : Cl all n K) (hp : K p = n p) (hv : OkV v) (hd : v.dot = (p, n p + 1)) (hl : ∀ q, look v.past q = K q) : Wd (all ++ [v]) (updI n p (n p + 1)) := by
  have d1 : v.dot.1 = p := by rw [hd]
  have d2 : v.dot.2 = n p + 1 := by rw [hd]
  have self : covers v v = false := by
    cases h : covers v v with
    | false => rfl
    | true =>
      have := (covers_ok hv hv).1 h
      have := hv.new
      omega
  have olds : ∀ u ∈ all, covers u v = false := fun u hu => by
    cases h : covers u v with
    | false => rfl
    | true =>
      have h1 := (covers_ok (hw.ok u hu) hv).1 h
      have := hw.low u hu p
      rw [d1, d2] at h1
      omega
  have spl : ∀ {x : V}, x ∈ all ++ [v] → x ∈ all ∨ x = v := fun {x} hx => by
    rcases List.mem_append.1 hx with h | h
    · exact .inl h
    · exact .inr (List.mem_singleton.1 h)
  refine ⟨fun x hx => ?_, fun x hx => ?_, fun q k h1 h2 => ?_, fun x hx y hy e => ?_, fun x hx => ?_, fun x hx y hy h => ?_, fun x hx q => ?_⟩
  · rcases spl hx with h | rfl
    · exact hw.ok x h
    · exact hv
  · rcases spl hx with h | rfl
    · have := hw.dots x h
      have := updI_le n p x.dot.1
      omega
    · rw [d1, d2, updI_at]
      exact Int.le_refl _
  · by_cases e : q = p
    · subst e
      rw [updI_at] at h2
      by_cases ek : k = n q + 1
      · exact ⟨v, List.mem_append_right _ (List.mem_singleton.2 rfl), by rw [hd, ek]⟩
      · obtain ⟨u, hu, e⟩ := hw.there q k h1 (by omega)
        exact ⟨u, List.mem_append_left _ hu, e⟩
    · rw [updI_off _ _ _ e] at h2
      obtain ⟨u, hu, e⟩ := hw.there q k h1 h2
      exact ⟨u, List.mem_append_left _ hu, e⟩
  · rcases spl hx with h | rfl
    · rcases spl hy with h' | rfl
      · exact hw.one x h y h' e
      · exfalso
        have := hw.dots x h
        rw [e, d1, d2] at this
        omega
    · rcases spl hy with h' | rfl
      · exfalso
        have := hw.dots y h'
        rw [← e, d1, d2] at this
        omega
      · rfl
  · rcases spl hx with h | rfl
    · exact hw.own x h
    · rw [hl, d1, d2, hp]
      omega
  · rcases spl hx with h1 | rfl
    · rcases spl hy with h2 | rfl
      · exact hw.trans x h1 y h2 h
      · rw [olds x h1] at h
        cases h
    · rcases spl hy with h2 | rfl
      · intro q
        have h3 := (covers_ok hv (hw.ok y h2)).1 h
        rw [hl] at h3
        have := hc.past y h2 h3 q
        rw [hl]
        exact this
      · rw [self] at h
        cases h
  · have := updI_le n p q
    rcases spl hx with h | rfl
    · have := hw.low x h q
      omega
    · rw [hl]
      have := (hc.bd q).2
      omega
theorem Cl.old {all : List V} {n M : Int → Int} {v : V} {p : Int} (h : Cl all n M) (hd : v.dot = (p, n p + 1)) : Cl (all ++ [v]) (updI n p (n p + 1)) M := by
  refine ⟨fun q => ?_, fun x hx hk q => ?_⟩
  · have := h.bd q
    have := updI_le n p q
    omega
  · rcases List.mem_append.1 hx with hx | hx
    · exact h.past x hx hk q
    · rw [List.mem_singleton.1 hx, hd] at hk
      have h1 : n p + 1 ≤ M p := hk
      have := (h.bd p).2
      omega
theorem Leaf.old {all : List V} {n M : Int → Int} {v : V} {p : Int} {L : List V} (hl : Leaf all M L) (h : Cl all n M) (hd : v.dot = (p, n p + 1)) : Leaf (all ++ [v]) M L := by
  have hno : ¬ v.dot.2 ≤ M v.dot.1 := fun hk => by
    rw [hd] at hk
    have h1 : n p + 1 ≤ M p := hk
    have := (h.bd p).2
    omega
  refine ⟨hl.up, fun x => (hl.mem x).trans ?_⟩
  constructor
  · rintro ⟨h1, h2, h3⟩
    refine ⟨List.mem_append_left _ h1, h2, fun u hu hk => ?_⟩
    rcases List.mem_append.1 hu with hu | hu
    · exact h3 u hu hk
    · rw [List.mem_singleton.1 hu] at hk
      exact absurd hk hno
  · rintro ⟨h1, h2, h3⟩
    rcases List.mem_append.1 h1 with h1 | h1
    · exact ⟨h1, h2, fun u hu hk => h3 u (List.mem_append_left _ hu) hk⟩
    · rw [List.mem_singleton.1 h1] at h2
      exact absurd h2 hno
theorem Cl.write {all : List V} {n K : Int → Int} {v : V} {p : Int} (hw : Wd all n) (hc : Cl all n K) (hp : K p = n p) (hd : v.dot = (p, n p + 1)) (hl : ∀ q, look v.past q = K q) : Cl (all ++ [v]) (updI n p (n p + 1)) (updI K p (n p + 1)) := by
  have hk0 : ∀ q, K q ≤ updI K p (n p + 1) q := fun q => by have := updI_le K p q; rw [hp] at this; exact this
  refine ⟨fun q => ?_, fun x hx hk q => ?_⟩
  · by_cases e : q = p
    · subst e
      rw [updI_at, updI_at]
      have := hc.bd q
      omega
    · rw [updI_off _ _ _ e, updI_off _ _ _ e]
      exact hc.bd q
  · have := hk0 q
    rcases List.mem_append.1 hx with hx | hx
    · have h1 : x.dot.2 ≤ K x.dot.1 := by
        by_cases e : x.dot.1 = p
        · rw [e, hp, ← e]; exact hw.dots x hx
        · rw [updI_off _ _ _ e] at hk; exact hk
      have := hc.past x hx h1 q
      omega
    · rw [List.mem_singleton.1 hx, hl]
      exact this
theorem Leaf.write {all : List V} {n K : Int → Int} {v : V} {p : Int} (hw : Wd all n) (hp : K p = n p) (hv : OkV v) (hd : v.dot = (p, n p + 1)) (hl : ∀ q, look v.past q = K q) : Leaf (all ++ [v]) (updI K p (n p + 1)) [v] := by
  have d1 : v.dot.1 = p := by rw [hd]
  have d2 : v.dot.2 = n p + 1 := by rw [hd]
  have hv0 : -1 < v.dot.1 := by have := hv.dot; unfold Ok at this; omega
  refine ⟨⟨hv, hv0, trivial⟩, fun x => ?_⟩
  rw [List.mem_singleton]
  constructor
  · rintro rfl
    refine ⟨List.mem_append_right _ (List.mem_singleton.2 rfl), by rw [d1, d2, updI_at]; exact Int.le_refl _, fun u hu _ => ?_⟩
    rcases List.mem_append.1 hu with hu | hu
    · cases h : covers u x with
      | false => rfl
      | true =>
        have h1 := (covers_ok (hw.ok u hu) hv).1 h
        have := hw.low u hu p
        rw [d1, d2] at h1
        omega
    · rw [List.mem_singleton.1 hu]
      cases h : covers x x with
      | false => rfl
      | true =>
        have := (covers_ok hv hv).1 h
        have := hv.new
        omega
  · rintro ⟨h1, h2, h3⟩
    rcases List.mem_append.1 h1 with h1 | h1
    · exfalso
      have hk : x.dot.2 ≤ K x.dot.1 := by
        by_cases e : x.dot.1 = p
        · rw [e, hp, ← e]; exact hw.dots x h1
        · rw [updI_off _ _ _ e] at h2; exact h2
      have h4 : covers v x = true := (covers_ok hv (hw.ok x h1)).2 (by rw [hl]; exact hk)
      rw [h3 v (List.mem_append_right _ (List.mem_singleton.2 rfl)) (by rw [d1, d2, updI_at]; exact Int.le_refl _)] at h4
      cases h4
    · exact List.mem_singleton.1 h1

/-- What three peers have of a path, behind some steps. -/
structure Net (all : List V) (n : Int → Int) (L : Nat → List V) : Prop where
  wd : Wd all n
  out : ∀ p, (p < 0 ∨ 2 < p) → n p = 0
  ctx : ∃ K : Nat → Int → Int, ∀ q, q < 3 → Cl all n (K q) ∧ Leaf all (K q) (L q) ∧ K q (q : Int) = n (q : Int)
def updL (L : Nat → List V) (p : Nat) (S : List V) : Nat → List V := fun q => if q = p then S else L q
theorem Net.start : Net [] (fun _ => 0) (fun _ => []) :=
  ⟨⟨fun _ h => (by cases h), fun _ h => (by cases h), fun _ _ _ _ => (by omega), fun _ h => (by cases h), fun _ h => (by cases h), fun _ h => (by cases h), fun _ h => (by cases h)⟩, fun _ _ => rfl,
    fun _ _ => 0, fun _ _ => ⟨⟨fun _ => ⟨Int.le_refl _, Int.le_refl _⟩, fun _ h => (by cases h)⟩, ⟨trivial, fun v => ⟨fun h => (by cases h), fun h => (by cases h.1)⟩⟩, rfl⟩⟩
theorem Net.leaf {all : List V} {n : Int → Int} {L : Nat → List V} (h : Net all n L) {q : Nat} (hq : q < 3) : LeafOk (L q) := by
  obtain ⟨K, hK⟩ := h.ctx
  exact (hK q hq).2.1.ok
theorem Net.cover {all : List V} {n : Int → Int} {L : Nat → List V} (h : Net all n L) {q : Nat} (hq : q < 3) : look (coverL (L q)) (q : Int) = n (q : Int) := by
  obtain ⟨K, hK⟩ := h.ctx
  obtain ⟨h1, h2, h3⟩ := hK q hq
  rw [coverL_leaf h2.ok, (coverF_up h2.up).2, h2.top h.wd h1, h3]
theorem Net.nonneg {all : List V} {n : Int → Int} {L : Nat → List V} (h : Net all n L) {q : Nat} (hq : q < 3) : 0 ≤ n (q : Int) := by
  obtain ⟨K, hK⟩ := h.ctx
  obtain ⟨h1, _, h3⟩ := hK q hq
  have := (h1.bd (q : Int)).1
  omega
theorem Net.sync {all : List V} {n : Int → Int} {L : Nat → List V} (h : Net all n L) {p q : Nat} (hp : p < 3) (hq : q < 3) {S : List V} (hs : IsSync (L p) (L q) S) : Net all n (updL L p S) := by
  obtain ⟨K, hK⟩ := h.ctx
  refine ⟨h.wd, h.out, fun i => if i = p then (fun x => Max.max (K p x) (K q x)) else K i, fun i hi => ?_⟩
  unfold updL
  dsimp only
  by_cases e : i = p
  · subst e
    rw [if_pos rfl, if_pos rfl]
    obtain ⟨a1, a2, a3⟩ := hK i hp
    obtain ⟨b1, b2, _⟩ := hK q hq
    refine ⟨a1.max b1, Leaf.sync h.wd a2 b2 hs, ?_⟩
    have := (b1.bd (i : Int)).2
    try dsimp only
    omega
  · rw [if_neg e, if_neg e]
    exact hK i hi
theorem Net.write {all : List V} {n : Int → Int} {L : Nat → List V} (h : Net all n L) {p : Nat} (hp : p < 3) {v : V} (hv : OkV v) (hd : v.dot = ((p : Int), n (p : Int) + 1)) (hl : v.past = coverL (L p)) : Net (all ++ [v]) (updI n (p : Int) (n (p : Int) + 1)) (updL L p [v]) := by
  obtain ⟨K, hK⟩ := h.ctx
  obtain ⟨a1, a2, a3⟩ := hK p hp
  have hl2 : ∀ q, look v.past q = K p q := fun q => by rw [hl, coverL_leaf a2.ok, (coverF_up a2.up).2, a2.top h.wd a1]
  refine ⟨h.wd.write a1 a3 hv hd hl2, fun q hq => ?_, fun i => if i = p then updI (K p) (p : Int) (n (p : Int) + 1) else K i, fun i hi => ?_⟩
  · rw [updI_off _ _ _ (by omega)]
    exact h.out q hq
  · unfold updL
    dsimp only
    by_cases e : i = p
    · subst e
      rw [if_pos rfl, if_pos rfl]
      exact ⟨Cl.write h.wd a1 a3 hd hl2, Leaf.write h.wd a3 hv hd hl2, by rw [updI_at, updI_at]⟩
    · rw [if_neg e, if_neg e]
      obtain ⟨b1, b2, b3⟩ := hK i hi
      exact ⟨b1.old hd, b2.old b1 hd, by rw [updI_off _ _ _ (by omega)]; exact b3⟩
/-- What is written, or deleted, at a peer. -/
theorem Net.over {all : List V} {n : Int → Int} {L : Nat → List V} (h : Net all n L) {p : Nat} (hp : p < 3) (hn : n (p : Int) + 1 ≤ 1048576) (dead : Bool) (data : ByteArray) (hd : data.size ≤ 48) (hx : ¬ (dead = true ∧ 0 < data.size)) : overF (L p) ((p : Int), n (p : Int) + 1) dead data = ([⟨((p : Int), n (p : Int) + 1), coverL (L p), dead, data⟩], 0) ∧ OkV ⟨((p : Int), n (p : Int) + 1), coverL (L p), dead, data⟩ ∧ dotErr ((p : Int), n (p : Int) + 1) = 0 := by
  have h0 := h.nonneg hp
  have hc := h.cover hp
  have hup := coverL_up (L p)
  have hok : Ok ((p : Int), n (p : Int) + 1) := by unfold Ok; dsimp only; omega
  refine ⟨?_, ⟨hok, hup, by dsimp only; omega, hd, hx⟩, (dotErr_zero _).2 hok⟩
  unfold overF
  rw [if_neg]
  intro hh
  have := (hasV_up hup _).1 hh
  dsimp only at this
  omega
theorem Net.writes {all : List V} {n : Int → Int} {L : Nat → List V} (h : Net all n L) {p : Nat} (hp : p < 3) (hn : n (p : Int) + 1 ≤ 1048576) (data : ByteArray) (hd : data.size ≤ 48) : writeF (L p) ((p : Int), n (p : Int) + 1) data = ([⟨((p : Int), n (p : Int) + 1), coverL (L p), false, data⟩], 0) ∧ OkV ⟨((p : Int), n (p : Int) + 1), coverL (L p), false, data⟩ := by
  obtain ⟨h1, h2, h3⟩ := h.over hp hn false data hd (by simp)
  refine ⟨?_, h2⟩
  unfold writeF
  rw [if_neg (by simp [(checkLeaf_zero _).2 (h.leaf hp)]), if_neg (by simp [h3]), if_neg (by omega), h1]
theorem Net.erases {all : List V} {n : Int → Int} {L : Nat → List V} (h : Net all n L) {p : Nat} (hp : p < 3) (hn : n (p : Int) + 1 ≤ 1048576) : (eraseF (L p) ((p : Int), n (p : Int) + 1) = ([⟨((p : Int), n (p : Int) + 1), coverL (L p), true, ⟨#[]⟩⟩], 0) ∧ OkV ⟨((p : Int), n (p : Int) + 1), coverL (L p), true, ⟨#[]⟩⟩) ∨ eraseF (L p) ((p : Int), n (p : Int) + 1) = ([], 3) := by
  obtain ⟨h1, h2, h3⟩ := h.over hp hn true ⟨#[]⟩ (by decide) (by simp [ByteArray.size])
  unfold eraseF
  rw [if_neg (by simp [(checkLeaf_zero _).2 (h.leaf hp)]), if_neg (by simp [h3])]
  by_cases hl : (live (L p)).length = 0
  · exact .inr (if_pos hl)
  · exact .inl ⟨by rw [if_neg hl, h1], h2⟩
/-- Syncing does not hang on the order, nor on how often. -/
theorem Net.order {all : List V} {n : Int → Int} {L : Nat → List V} (h : Net all n L) {ab bc cb x y z t bb : List V} (h1 : IsSync (L 0) (L 1) ab) (h2 : IsSync ab (L 2) x) (h3 : IsSync (L 1) (L 2) bc) (h4 : IsSync (L 0) bc y) (h5 : IsSync (L 2) (L 1) cb) (h6 : IsSync cb (L 0) z) (h7 : IsSync x (L 0) t) (h8 : IsSync (L 1) (L 1) bb) : x = y ∧ x = z ∧ x = t ∧ bb = L 1 := by
  obtain ⟨K, hK⟩ := h.ctx
  obtain ⟨_, l0, _⟩ := hK 0 (by omega)
  obtain ⟨_, l1, _⟩ := hK 1 (by omega)
  obtain ⟨_, l2, _⟩ := hK 2 (by omega)
  have w := h.wd
  have kx := Leaf.sync w (Leaf.sync w l0 l1 h1) l2 h2
  have ky := Leaf.sync w l0 (Leaf.sync w l1 l2 h3) h4
  have kz := Leaf.sync w (Leaf.sync w l2 l1 h5) l0 h6
  have kt := Leaf.sync w kx l0 h7
  have kb := Leaf.sync w l1 l1 h8
  refine ⟨kx.ext ?_, kx.ext ?_, kx.ext ?_, kb.ext ?_⟩
  · rw [show (fun p => Max.max (Max.max (K 0 p) (K 1 p)) (K 2 p)) = fun p => Max.max (K 0 p) (Max.max (K 1 p) (K 2 p)) from funext fun p => by omega]
    exact ky
  · rw [show (fun p => Max.max (Max.max (K 0 p) (K 1 p)) (K 2 p)) = fun p => Max.max (Max.max (K 2 p) (K 1 p)) (K 0 p) from funext fun p => by omega]
    exact kz
  · rw [show (fun p => Max.max (Max.max (K 0 p) (K 1 p)) (K 2 p)) = fun p => Max.max (Max.max (Max.max (K 0 p) (K 1 p)) (K 2 p)) (K 0 p) from funext fun p => by omega]
    exact kt
  · rw [show (fun p => Max.max (K 1 p) (K 1 p)) = K 1 from funext fun p => by omega]
    exact l1
/-- Each version that was ever written is there, when all are synced, or covered by one that is. -/
theorem Net.kept {all : List V} {n : Int → Int} {L : Nat → List V} (h : Net all n L) {ab x : List V} (h1 : IsSync (L 0) (L 1) ab) (h2 : IsSync ab (L 2) x) : ∀ v ∈ all, ∃ u ∈ x, u.dot = v.dot ∨ covers u v = true := by
  obtain ⟨K, hK⟩ := h.ctx
  obtain ⟨_, l0, e0⟩ := hK 0 (by omega)
  obtain ⟨_, l1, e1⟩ := hK 1 (by omega)
  obtain ⟨_, l2, e2⟩ := hK 2 (by omega)
  have w := h.wd
  have kx := Leaf.sync w (Leaf.sync w l0 l1 h1) l2 h2
  intro v hv
  have hd := w.dots v hv
  have hok := (w.ok v hv).dot
  unfold Ok at hok
  have hp : v.dot.1 = 0 ∨ v.dot.1 = 1 ∨ v.dot.1 = 2 := by
    by_cases ho : v.dot.1 < 0 ∨ 2 < v.dot.1
    · rw [h.out _ ho] at hd
      omega
    · omega
  have hk : v.dot.2 ≤ Max.max (Max.max (K 0 v.dot.1) (K 1 v.dot.1)) (K 2 v.dot.1) := by
    rcases hp with e | e | e
    · rw [e] at hd ⊢
      have e0' : K 0 0 = n 0 := e0
      omega
    · rw [e] at hd ⊢
      have e1' : K 1 1 = n 1 := e1
      omega
    · rw [e] at hd ⊢
      have e2' : K 2 2 = n 2 := e2
      omega
  rcases kx.over w hv hk with h3 | ⟨u, hu, h3⟩
  · exact ⟨v, h3, .inl rfl⟩
  · exact ⟨u, hu, .inr h3⟩
end Go.Proofs.Ytbghekolfcakeaa.Vc
