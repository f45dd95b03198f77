/-
  Plain facts on sets of dots with gaps: no program, no world. Conditions: none but those that each theorem names.
-/
import Derived.Test.YtpcfblpenealbaaMath
namespace Go.Proofs.Ytpcfblpenealbaa.Vc

/-- A dot stands ahead of another one. -/
def Ah (a b : D) : Prop := a.1 < b.1 ∨ a.1 = b.1 ∧ a.2 < b.2
instance (a b : D) : Decidable (Ah a b) := by unfold Ah; infer_instance
def Le (a b : D) : Prop := a.1 < b.1 ∨ a.1 = b.1 ∧ a.2 ≤ b.2
theorem d_eq {a b : D} (h1 : a.1 = b.1) (h2 : a.2 = b.2) : a = b := Prod.ext h1 h2
theorem Ah.irr {a : D} (h : Ah a a) : False := by unfold Ah at h; omega
theorem Ah.trans {a b c : D} (h : Ah a b) (h' : Ah b c) : Ah a c := by unfold Ah at *; omega
theorem Le.ah {a b c : D} (h : Le a b) (h' : Ah b c) : Ah a c := by unfold Ah Le at *; omega
theorem Ah.le' {a b c : D} (h : Ah a b) (h' : Le b c) : Ah a c := by unfold Ah Le at *; omega
theorem Ah.le {a b : D} (h : Ah a b) : Le a b := by unfold Ah Le at *; omega
theorem Le.refl (a : D) : Le a a := by unfold Le; omega
theorem Le.trans {a b c : D} (h : Le a b) (h' : Le b c) : Le a c := by unfold Le at *; omega
theorem Le.ne {a b : D} (h : Le a b) (h' : a ≠ b) : Ah a b := by
  unfold Ah Le at *
  rcases h with h | ⟨h1, h2⟩
  · exact .inl h
  · exact .inr ⟨h1, by have : a.2 ≠ b.2 := fun e => h' (d_eq h1 e); omega⟩
theorem not_ah {a b : D} : ¬ Ah a b ↔ Le b a := by unfold Ah Le; omega
theorem tri (a b : D) : Ah a b ∨ a = b ∨ Ah b a := by
  by_cases h : Ah a b
  · exact .inl h
  · by_cases h' : Ah b a
    · exact .inr (.inr h')
    · refine .inr (.inl (d_eq ?_ ?_)) <;> (unfold Ah at *; omega)

/-- Rising, behind a dot. -/
def Ris : D → List D → Prop
  | _, [] => True
  | p, d :: l => Ah p d ∧ Ris d l
theorem Ris.weak : ∀ {l : List D} {p q : D}, Ris p l → Le q p → Ris q l
  | [], _, _, _, _ => trivial
  | _ :: _, _, _, h, hq => ⟨hq.ah h.1, h.2⟩
theorem Ris.mem : ∀ {l : List D} {p x : D}, Ris p l → x ∈ l → Ah p x
  | [], _, _, _, hx => by cases hx
  | d :: l, p, x, h, hx => by
    rcases List.mem_cons.1 hx with rfl | hx
    · exact h.1
    · exact h.1.trans (Ris.mem h.2 hx)
theorem Ris.ext : ∀ {a b : List D} {p q : D}, Ris p a → Ris q b → (∀ x, x ∈ a ↔ x ∈ b) → a = b
  | [], [], _, _, _, _, _ => rfl
  | [], e :: b, _, _, _, _, h => by have := (h e).2 (List.mem_cons_self ..); cases this
  | d :: a, [], _, _, _, _, h => by have := (h d).1 (List.mem_cons_self ..); cases this
  | d :: a, e :: b, p, q, ha, hb, h => by
    have hde : d = e := by
      rcases tri d e with hl | rfl | hl
      · exfalso
        rcases List.mem_cons.1 ((h d).1 (List.mem_cons_self ..)) with rfl | hd
        · exact hl.irr
        · exact (hl.trans (Ris.mem hb.2 hd)).irr
      · rfl
      · exfalso
        rcases List.mem_cons.1 ((h e).2 (List.mem_cons_self ..)) with rfl | hd
        · exact hl.irr
        · exact (hl.trans (Ris.mem ha.2 hd)).irr
    subst hde
    rw [Ris.ext ha.2 hb.2 fun x => ?_]
    constructor
    · intro hx
      rcases List.mem_cons.1 ((h x).1 (List.mem_cons_of_mem _ hx)) with rfl | hx'
      · exact absurd (Ris.mem ha.2 hx) Ah.irr
      · exact hx'
    · intro hx
      rcases List.mem_cons.1 ((h x).2 (List.mem_cons_of_mem _ hx)) with rfl | hx'
      · exact absurd (Ris.mem hb.2 hx) Ah.irr
      · exact hx'
theorem Ris.snoc : ∀ {l : List D} {p d : D}, Ris p l → Ah p d → (∀ x ∈ l, Ah x d) → Ris p (l ++ [d])
  | [], _, _, _, h, _ => ⟨h, trivial⟩
  | e :: _, _, _, h, _, hl => ⟨h.1, Ris.snoc h.2 (hl e (List.mem_cons_self ..)) fun x hx => hl x (List.mem_cons_of_mem _ hx)⟩
theorem Ris.filter (f : D → Bool) : ∀ {l : List D} {p : D}, Ris p l → Ris p (l.filter f)
  | [], _, _ => trivial
  | d :: l, p, h => by
    rw [List.filter_cons]
    split
    · exact ⟨h.1, Ris.filter f h.2⟩
    · exact (Ris.filter f h.2).weak h.1.le
theorem Ris.nodup : ∀ {l : List D} {p : D}, Ris p l → l.Nodup
  | [], _, _ => List.nodup_nil
  | _ :: _, _, h => List.nodup_cons.2 ⟨fun hx => (Ris.mem h.2 hx).irr, Ris.nodup h.2⟩
theorem Ris.append : ∀ {l m : List D} {p q : D}, Ris p l → Ris q m → (∀ x ∈ l, ∀ y ∈ m, Ah x y) → (∀ y ∈ m, Ah p y) → Ris p (l ++ m)
  | [], m, p, q, _, hm, _, h2 => by
    cases m with
    | nil => trivial
    | cons y m => exact ⟨h2 y (List.mem_cons_self ..), hm.2⟩
  | d :: l, m, p, q, hl, hm, h1, _ => ⟨hl.1, Ris.append hl.2 hm (fun x hx => h1 x (List.mem_cons_of_mem _ hx)) (h1 d (List.mem_cons_self ..))⟩

/-- What stands ahead of all dots that may be. -/
def d0 : D := (-1, 0)
theorem d0_ok {d : D} (h : Ok d) : Ah d0 d := by unfold Ok at h; unfold Ah d0; left; show (-1 : Int) < d.1; omega

/-- What is wrong with the further dots, behind a dot. -/
def chkE (f : Int → Int) : D → List D → Int
  | _, [] => 0
  | p, d :: l => if dotErr d ≠ 0 then dotErr d else if ¬ Ah p d then 8 else if d.2 ≤ f d.1 + 1 then 7 else chkE f d l
def checkS (B E : List D) : Int := if check B ≠ 0 then check B else chkE (look B) d0 E

/-- A set that may be. -/
structure SetOk (B E : List D) : Prop where
  base : Up (-1) B
  ris : Ris d0 E
  ok : ∀ d ∈ E, Ok d
  far : ∀ d ∈ E, look B d.1 + 1 < d.2

theorem chkE_zero (f : Int → Int) : ∀ (l : List D) (p : D), chkE f p l = 0 ↔ Ris p l ∧ ∀ d ∈ l, Ok d ∧ f d.1 + 1 < d.2
  | [], p => by simp [chkE, Ris]
  | d :: l, p => by
    unfold chkE Ris
    by_cases h : dotErr d = 0
    · rw [if_neg (by simpa using h)]
      have hok := (dotErr_zero d).1 h
      by_cases h2 : Ah p d
      · rw [if_neg (by simpa using h2)]
        by_cases h3 : d.2 ≤ f d.1 + 1
        · rw [if_pos h3]
          constructor
          · intro h; omega
          · intro h; have := (h.2 d (List.mem_cons_self ..)).2; omega
        · rw [if_neg h3, chkE_zero f l d]
          constructor
          · rintro ⟨h4, h5⟩
            refine ⟨⟨h2, h4⟩, fun x hx => ?_⟩
            rcases List.mem_cons.1 hx with rfl | hx
            · exact ⟨hok, by omega⟩
            · exact h5 x hx
          · rintro ⟨h4, h5⟩
            exact ⟨h4.2, fun x hx => h5 x (List.mem_cons_of_mem _ hx)⟩
      · rw [if_pos h2]
        constructor
        · intro h; omega
        · intro h; exact absurd h.1.1 h2
    · rw [if_pos (by simpa using h)]
      constructor
      · intro h'; exact absurd h' h
      · intro h'; exact absurd ((dotErr_zero d).2 (h'.2 d (List.mem_cons_self ..)).1) h

theorem checkS_zero (B E : List D) : checkS B E = 0 ↔ SetOk B E := by
  unfold checkS
  by_cases h : check B = 0
  · rw [if_neg (by simpa using h), chkE_zero]
    constructor
    · rintro ⟨h1, h2⟩
      exact ⟨(check_zero B).1 h, h1, fun d hd => (h2 d hd).1, fun d hd => (h2 d hd).2⟩
    · intro hs
      exact ⟨hs.ris, fun d hd => ⟨hs.ok d hd, hs.far d hd⟩⟩
  · rw [if_pos (by simpa using h)]
    constructor
    · intro h'; exact absurd h' h
    · intro hs; exact absurd ((check_zero B).2 hs.base) h

/-- A dot is there. -/
def In (B E : List D) (x : D) : Prop := (1 ≤ x.2 ∧ x.2 ≤ look B x.1) ∨ x ∈ E
instance (B E : List D) (x : D) : Decidable (In B E x) := by unfold In; infer_instance

theorem In.ok {B E : List D} (h : SetOk B E) {x : D} (hx : In B E x) : Ok x := by
  rcases hx with ⟨h1, h2⟩ | hx
  · have hb := look_bd x.1 h.base
    have : ¬ (x.1 < 0 ∨ 63 < x.1) := fun ho => by rw [look_out x.1 h.base ho] at h2; omega
    unfold Ok
    omega
  · exact h.ok x hx

theorem base_le {B E B' E' : List D} (_h : SetOk B E) (h' : SetOk B' E') (hm : ∀ x, In B E x ↔ In B' E' x) (p : Int) : look B p ≤ look B' p := by
  by_cases hl : look B p ≤ look B' p
  · exact hl
  · exfalso
    have hb := look_bd p h'.base
    have h1 : In B E (p, look B' p + 1) := .inl ⟨by show 1 ≤ look B' p + 1; omega, by show look B' p + 1 ≤ look B p; omega⟩
    rcases (hm _).1 h1 with ⟨_, h2⟩ | h2
    · have h2' : look B' p + 1 ≤ look B' p := h2; omega
    · have h2' : look B' p + 1 < look B' p + 1 := h'.far _ h2
      omega
/-- The same dots are the same set. -/
theorem set_ext {B E B' E' : List D} (h : SetOk B E) (h' : SetOk B' E') (hm : ∀ x, In B E x ↔ In B' E' x) : B = B' ∧ E = E' := by
  have hl : ∀ p, look B p = look B' p := fun p => by
    have h1 := base_le h h' hm p
    have h2 := base_le h' h (fun x => (hm x).symm) p
    omega
  have hB : B = B' := vec_ext h.base h'.base hl
  refine ⟨hB, Ris.ext h.ris h'.ris fun x => ?_⟩
  subst hB
  constructor
  · intro hx
    rcases (hm x).1 (.inr hx) with ⟨_, h2⟩ | h2
    · have := h.far x hx; omega
    · exact h2
  · intro hx
    rcases (hm x).2 (.inr hx) with ⟨_, h2⟩ | h2
    · have := h'.far x hx; omega
    · exact h2

theorem set_nil : SetOk [] [] := ⟨trivial, trivial, fun _ h => (by cases h), fun _ h => (by cases h)⟩
theorem in_nil (x : D) : ¬ In [] [] x := by
  rintro (⟨h1, h2⟩ | h)
  · have : x.2 ≤ 0 := h2; omega
  · cases h

/-- How many there are. -/
def card (B E : List D) : Int := total B + (E.length : Int)
def lenS (B E : List D) : Int := if checkS B E = 0 then card B E else 0

/-- All of them, one by one. -/
def upTo (d : D) : List D := (List.range d.2.toNat).map fun (i : Nat) => (d.1, (i : Int) + 1)
theorem mem_upTo (d x : D) : x ∈ upTo d ↔ x.1 = d.1 ∧ 1 ≤ x.2 ∧ x.2 ≤ d.2 := by
  unfold upTo
  rw [List.mem_map]
  constructor
  · rintro ⟨i, hi, rfl⟩
    have := List.mem_range.1 hi
    exact ⟨rfl, by show 1 ≤ (i : Int) + 1; omega, by show (i : Int) + 1 ≤ d.2; omega⟩
  · rintro ⟨h1, h2, h3⟩
    exact ⟨(x.2 - 1).toNat, List.mem_range.2 (by omega), d_eq h1.symm (by show ((x.2 - 1).toNat : Int) + 1 = x.2; omega)⟩
theorem upTo_ris (a : Int) : ∀ (n : Nat), Ris (a, 0) ((List.range n).map fun (i : Nat) => (a, (i : Int) + 1))
  | 0 => trivial
  | n + 1 => by
    rw [List.range_succ, List.map_append]
    refine Ris.snoc (upTo_ris a n) (.inr ⟨rfl, by show (0 : Int) < (n : Int) + 1; omega⟩) fun x hx => ?_
    obtain ⟨i, hi, rfl⟩ := List.mem_map.1 hx
    exact .inr ⟨rfl, by have := List.mem_range.1 hi; show (i : Int) + 1 < (n : Int) + 1; omega⟩
def allB (B : List D) : List D := B.flatMap upTo
theorem mem_allB : ∀ {B : List D} {q : Int}, Up q B → ∀ x, x ∈ allB B ↔ 1 ≤ x.2 ∧ x.2 ≤ look B x.1
  | [], _, _, x => by simp [allB, look]; omega
  | d :: B, q, h, x => by
    have ih := mem_allB h.2.2 x
    unfold allB at ih ⊢
    rw [List.flatMap_cons, List.mem_append, ih, mem_upTo]
    show _ ↔ 1 ≤ x.2 ∧ x.2 ≤ if d.1 = x.1 then d.2 else look B x.1
    by_cases he : d.1 = x.1
    · rw [if_pos he]
      have hz := look_low h.2.2 (show x.1 ≤ d.1 by omega)
      rw [hz]
      omega
    · rw [if_neg he]
      omega
theorem allB_ris : ∀ {B : List D} {q : Int}, Up q B → Ris (q, 1048576) (allB B)
  | [], _, _ => trivial
  | d :: B, q, h => by
    have ih := allB_ris h.2.2
    unfold allB at ih ⊢
    rw [List.flatMap_cons]
    have h1 := h.1
    have h2 := h.2.1
    unfold Ok at h1
    refine Ris.append ((upTo_ris d.1 d.2.toNat).weak (.inl h2)) ih (fun x hx y hy => ?_) fun y hy => ?_
    · obtain ⟨e1, e2, e3⟩ := (mem_upTo d x).1 hx
      have := Ris.mem ih hy
      unfold Ah at this ⊢
      dsimp only at this
      omega
    · have := Ris.mem ih hy
      unfold Ah at this ⊢
      dsimp only at this ⊢
      omega
theorem allB_len : ∀ {B : List D} {q : Int}, Up q B → ((allB B).length : Int) = total B
  | [], _, _ => rfl
  | d :: B, q, h => by
    have ih := allB_len h.2.2
    have h1 := h.1
    unfold Ok at h1
    unfold allB at ih ⊢
    rw [List.flatMap_cons, List.length_append]
    unfold total
    rw [← ih]
    unfold upTo
    simp
    omega
theorem nodup_len : ∀ {l m : List D}, l.Nodup → (∀ x ∈ l, x ∈ m) → l.length ≤ m.length
  | [], _, _, _ => Nat.zero_le _
  | d :: l, m, h, hs => by
    have hd := hs d (List.mem_cons_self ..)
    have h1 := List.nodup_cons.1 h
    have ih := nodup_len (m := m.erase d) h1.2 fun x hx => (List.mem_erase_of_ne (fun e => h1.1 (by rw [← e]; exact hx))).2 (hs x (List.mem_cons_of_mem _ hx))
    rw [List.length_erase_of_mem hd] at ih
    have : 0 < m.length := List.length_pos_of_mem hd
    rw [List.length_cons]
    omega
def allS (B E : List D) : List D := allB B ++ E
theorem mem_allS {B E : List D} (h : SetOk B E) (x : D) : x ∈ allS B E ↔ In B E x := by
  unfold allS In
  rw [List.mem_append, mem_allB h.base]
theorem allS_nodup {B E : List D} (h : SetOk B E) : (allS B E).Nodup := by
  unfold allS
  refine List.nodup_append.2 ⟨(allB_ris h.base).nodup, h.ris.nodup, fun x hx y hy e => ?_⟩
  subst e
  have h1 := (mem_allB h.base x).1 hx
  have h2 := h.far x hy
  omega
theorem allS_len {B E : List D} (h : SetOk B E) : ((allS B E).length : Int) = card B E := by
  unfold allS card
  rw [List.length_append, ← allB_len h.base]
  omega
theorem card_add {B E B' E' : List D} (h : SetOk B E) (h' : SetOk B' E') (d : D) (hd : ¬ In B E d) (hm : ∀ x, In B' E' x ↔ In B E x ∨ x = d) : card B' E' = card B E + 1 := by
  rw [← allS_len h, ← allS_len h']
  have h1 : (allS B' E').length ≤ (d :: allS B E).length := nodup_len (allS_nodup h') fun x hx => by
    rcases (hm x).1 ((mem_allS h' x).1 hx) with h1 | rfl
    · exact List.mem_cons_of_mem _ ((mem_allS h x).2 h1)
    · exact List.mem_cons_self ..
  have h2 : (d :: allS B E).length ≤ (allS B' E').length := nodup_len (List.nodup_cons.2 ⟨fun hx => hd ((mem_allS h d).1 hx), allS_nodup h⟩) fun x hx => by
    rcases List.mem_cons.1 hx with rfl | hx
    · exact (mem_allS h' _).2 ((hm _).2 (.inr rfl))
    · exact (mem_allS h' _).2 ((hm _).2 (.inl ((mem_allS h x).1 hx)))
  rw [List.length_cons] at h1 h2
  omega
theorem card_same {B E B' E' : List D} (h : SetOk B E) (h' : SetOk B' E') (hm : ∀ x, In B' E' x ↔ In B E x) : card B' E' = card B E := by
  obtain ⟨rfl, rfl⟩ := set_ext h' h hm
  rfl
theorem card_nil : card [] [] = 0 := rfl
theorem card_bd {B E : List D} (h : SetOk B E) : 0 ≤ card B E ∧ card B E ≤ 67108864 + (E.length : Int) := by
  have := total_bd h.base
  have := vec_len h.base
  unfold card
  omega
end Go.Proofs.Ytpcfblpenealbaa.Vc
