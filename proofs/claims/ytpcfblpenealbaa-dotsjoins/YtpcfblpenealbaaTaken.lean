/-
  Plain facts on how a set is made of counts and of dots that are taken up, and on gaps: no program, no world. Conditions: none but those that each theorem names.
-/
import Derived.Test.YtpcfblpenealbaaSets
namespace Go.Proofs.Ytpcfblpenealbaa.Vc

def upd (f : Int → Int) (p c : Int) : Int → Int := fun q => if q = p then c else f q

/-- While dots are taken up: counts f, further dots X, what is left a and b, the one taken up last; T: what shall be there. -/
structure TU (T : D → Prop) (f : Int → Int) (X a b : List D) (last : D) : Prop where
  f0 : ∀ p, 0 ≤ f p ∧ f p ≤ 1048576
  fo : ∀ p, p < 0 ∨ 63 < p → f p = 0
  xr : Ris d0 X
  xok : ∀ x ∈ X, Ok x
  xfar : ∀ x ∈ X, f x.1 + 1 < x.2
  xle : ∀ x ∈ X, Le x last
  ar : Ris d0 a
  br : Ris d0 b
  aok : ∀ x ∈ a, Ok x
  bok : ∀ x ∈ b, Ok x
  al : ∀ x ∈ a, Le last x
  bl : ∀ x ∈ b, Le last x
  lst : last.2 ≤ f last.1 ∨ last ∈ X
  mem : ∀ x, ((1 ≤ x.2 ∧ x.2 ≤ f x.1) ∨ x ∈ X ∨ x ∈ a ∨ x ∈ b) ↔ T x

theorem TU.swap {T : D → Prop} {f : Int → Int} {X a b : List D} {last : D} (h : TU T f X a b last) : TU T f X b a last :=
  ⟨h.f0, h.fo, h.xr, h.xok, h.xfar, h.xle, h.br, h.ar, h.bok, h.aok, h.bl, h.al, h.lst, fun x => by rw [← h.mem x]; constructor <;> (rintro (h | h | h | h) <;> simp [h])⟩

theorem ris_le {d : D} {l : List D} {e : D} (hr : Ris d0 (e :: l)) (h : Le d e) : ∀ x ∈ e :: l, Le d x := by
  intro x hx
  rcases List.mem_cons.1 hx with rfl | hx
  · exact h
  · exact h.trans (Ris.mem hr.2 hx).le

theorem TU.bump {T : D → Prop} {f : Int → Int} {X a b : List D} {last d : D} (h : TU T f X (d :: a) b last) (hb : ∀ x ∈ b, Le d x) (hd : d.2 = f d.1 + 1) : TU T (upd f d.1 d.2) X a b d := by
  have dok := h.aok d (List.mem_cons_self ..)
  have dl := h.al d (List.mem_cons_self ..)
  have hx : ∀ x ∈ X, x.1 ≠ d.1 := fun x hx e => by
    have h1 := h.xfar x hx
    have h2 := (h.xle x hx).trans dl
    unfold Le at h2
    rw [e] at h1
    omega
  refine ⟨fun p => ?_, fun p hp => ?_, h.xr, h.xok, fun x hx' => ?_, fun x hx' => (h.xle x hx').trans dl, h.ar.2.weak (d0_ok dok).le, h.br, fun x hx => h.aok x (List.mem_cons_of_mem _ hx), h.bok, fun x hx => (Ris.mem h.ar.2 hx).le, hb, ?_, fun x => ?_⟩
  · unfold upd
    unfold Ok at dok
    have := h.f0 p
    split <;> omega
  · unfold upd
    unfold Ok at dok
    rw [if_neg (by omega)]
    exact h.fo p hp
  · unfold upd
    rw [if_neg (hx x hx')]
    exact h.xfar x hx'
  · left
    unfold upd
    rw [if_pos rfl]
    omega
  · rw [← h.mem x]
    unfold upd
    unfold Ok at dok
    constructor
    · rintro (⟨h1, h2⟩ | h | h | h)
      · by_cases e : x.1 = d.1
        · rw [if_pos e] at h2
          by_cases e2 : x.2 = d.2
          · right; right; left; rw [d_eq e e2]; exact List.mem_cons_self ..
          · left; rw [e]; omega
        · rw [if_neg e] at h2; exact .inl ⟨h1, h2⟩
      · exact .inr (.inl h)
      · exact .inr (.inr (.inl (List.mem_cons_of_mem _ h)))
      · exact .inr (.inr (.inr h))
    · rintro (⟨h1, h2⟩ | h | h | h)
      · left
        refine ⟨h1, ?_⟩
        split
        · rename_i e; rw [e] at h2; omega
        · exact h2
      · exact .inr (.inl h)
      · rcases List.mem_cons.1 h with rfl | h
        · left; rw [if_pos rfl]; omega
        · exact .inr (.inr (.inl h))
      · exact .inr (.inr (.inr h))

theorem TU.push {T : D → Prop} {f : Int → Int} {X a b : List D} {last d : D} (h : TU T f X (d :: a) b last) (hb : ∀ x ∈ b, Le d x) (hd : f d.1 + 1 < d.2) (hne : d ≠ last) : TU T f (X ++ [d]) a b d := by
  have dok := h.aok d (List.mem_cons_self ..)
  have dl := h.al d (List.mem_cons_self ..)
  have hlt : Ah last d := dl.ne (Ne.symm hne)
  refine ⟨h.f0, h.fo, h.xr.snoc (d0_ok dok) fun x hx => (h.xle x hx).ah hlt, fun x hx => ?_, fun x hx => ?_, fun x hx => ?_, h.ar.2.weak (d0_ok dok).le, h.br, fun x hx => h.aok x (List.mem_cons_of_mem _ hx), h.bok, fun x hx => (Ris.mem h.ar.2 hx).le, hb, .inr (by simp), fun x => ?_⟩
  · rcases List.mem_append.1 hx with hx | hx
    · exact h.xok x hx
    · rw [List.mem_singleton.1 hx]; exact dok
  · rcases List.mem_append.1 hx with hx | hx
    · exact h.xfar x hx
    · rw [List.mem_singleton.1 hx]; exact hd
  · rcases List.mem_append.1 hx with hx | hx
    · exact (h.xle x hx).trans dl
    · rw [List.mem_singleton.1 hx]; exact Le.refl _
  · rw [← h.mem x, List.mem_append, List.mem_singleton, List.mem_cons]
    constructor
    · rintro (h | (h | h) | h | h) <;> simp [h]
    · rintro (h | h | (h | h) | h) <;> simp [h]

theorem TU.drop {T : D → Prop} {f : Int → Int} {X a b : List D} {last d : D} (h : TU T f X (d :: a) b last) (hb : ∀ x ∈ b, Le d x) (hd : d.2 < f d.1 + 1 ∨ (f d.1 + 1 < d.2 ∧ d = last)) : TU T f X a b d := by
  have dok := h.aok d (List.mem_cons_self ..)
  have dl := h.al d (List.mem_cons_self ..)
  have hin : d.2 ≤ f d.1 ∨ d ∈ X := by
    rcases hd with hd | ⟨h1, rfl⟩
    · left; omega
    · rcases h.lst with h2 | h2
      · omega
      · exact .inr h2
  unfold Ok at dok
  refine ⟨h.f0, h.fo, h.xr, h.xok, h.xfar, fun x hx => (h.xle x hx).trans dl, h.ar.2.weak (d0_ok (h.aok d (List.mem_cons_self ..))).le, h.br, fun x hx => h.aok x (List.mem_cons_of_mem _ hx), h.bok, fun x hx => (Ris.mem h.ar.2 hx).le, hb, hin, fun x => ?_⟩
  rw [← h.mem x, List.mem_cons]
  constructor
  · rintro (h | h | h | h) <;> simp [h]
  · rintro (h | h | (rfl | h) | h)
    · exact .inl h
    · exact .inr (.inl h)
    · rcases hin with h | h
      · exact .inl ⟨by omega, h⟩
      · exact .inr (.inl h)
    · exact .inr (.inr (.inl h))
    · exact .inr (.inr (.inr h))

def vecOf (f : Int → Int) (n : Nat) : List D := ofN (fun i : Nat => f (i : Int)) n
theorem vecOf_up {f : Int → Int} (h : ∀ p, 0 ≤ f p ∧ f p ≤ 1048576) (n : Nat) (hn : n = 64) : Up (-1) (vecOf f n) := by
  unfold vecOf
  exact ofN_up (fun i : Nat => f (i : Int)) (fun i => (h (i : Int)).2) n (by omega)
theorem vecOf_look {f : Int → Int} (h : ∀ p, 0 ≤ f p ∧ f p ≤ 1048576) (ho : ∀ p, p < 0 ∨ 63 < p → f p = 0) (n : Nat) (hn : n = 64) (p : Int) : look (vecOf f n) p = f p := by
  by_cases hp : p < 0 ∨ 63 < p
  · rw [look_out p (vecOf_up h n hn) hp, ho p hp]
  · obtain ⟨k, rfl⟩ : ∃ k : Nat, p = (k : Int) := ⟨p.toNat, by omega⟩
    unfold vecOf
    rw [ofN_look (fun i : Nat => f (i : Int)) (fun i => (h (i : Int)).1), if_pos (by omega)]

theorem TU.done {T : D → Prop} {f : Int → Int} {X : List D} {last : D} (h : TU T f X [] [] last) (n : Nat) (hn : n = 64) : SetOk (vecOf f n) X ∧ ∀ x, In (vecOf f n) X x ↔ T x := by
  refine ⟨⟨vecOf_up h.f0 n hn, h.xr, h.xok, fun d hd => by rw [vecOf_look h.f0 h.fo n hn]; exact h.xfar d hd⟩, fun x => ?_⟩
  unfold In
  rw [vecOf_look h.f0 h.fo n hn, ← h.mem x]
  simp

theorem TU.start {f : Int → Int} {a b : List D} (f0 : ∀ p, 0 ≤ f p ∧ f p ≤ 1048576) (fo : ∀ p, p < 0 ∨ 63 < p → f p = 0) (ar : Ris d0 a) (br : Ris d0 b) (aok : ∀ x ∈ a, Ok x) (bok : ∀ x ∈ b, Ok x) :
    TU (fun x => (1 ≤ x.2 ∧ x.2 ≤ f x.1) ∨ x ∈ a ∨ x ∈ b) f [] a b (0, 0) := by
  have hz : ∀ x, Ok x → Le (0, 0) x := fun x h => by unfold Ok at h; unfold Le; dsimp only; omega
  exact ⟨f0, fo, trivial, fun _ h => (by cases h), fun _ h => (by cases h), fun _ h => (by cases h), ar, br, aok, bok, fun x hx => hz x (aok x hx), fun x hx => hz x (bok x hx), .inl (f0 _).1, fun x => by simp⟩

theorem one_ris {d : D} (h : Ok d) : Ris d0 [d] := ⟨d0_ok h, trivial⟩
theorem look_f0 {B : List D} (h : Up (-1) B) (p : Int) : 0 ≤ look B p ∧ look B p ≤ 1048576 := look_bd p h
theorem look_fo {B : List D} (h : Up (-1) B) (p : Int) (hp : p < 0 ∨ 63 < p) : look B p = 0 := look_out p h hp

/-- The document's way: counts B, further dots X, of one peer p not yet far. -/
structure Near (T : D → Prop) (p : Int) (B X : List D) : Prop where
  base : Up (-1) B
  ris : Ris d0 X
  ok : ∀ x ∈ X, Ok x
  far : ∀ x ∈ X, x.1 ≠ p → look B x.1 + 1 < x.2
  near : ∀ x ∈ X, x.1 = p → look B x.1 < x.2
  mem : ∀ x, In B X x ↔ T x
theorem Near.done {T : D → Prop} {p : Int} {B X : List D} (h : Near T p B X) (hn : (p, look B p + 1) ∉ X) : SetOk B X ∧ ∀ x, In B X x ↔ T x := by
  refine ⟨⟨h.base, h.ris, h.ok, fun d hd => ?_⟩, h.mem⟩
  by_cases e : d.1 = p
  · have h1 := h.near d hd e
    have h2 : d.2 ≠ look B d.1 + 1 := fun e2 => hn (by rw [← e, ← e2]; exact hd)
    omega
  · exact h.far d hd e
theorem look_with {B : List D} (h : Up (-1) B) {d : D} (hd : Ok d) (hl : look B d.1 ≤ d.2) (q : Int) : look (joins B [d]) q = upd (look B) d.1 d.2 q := by
  have hu : Up (-1) [d] := ⟨hd, by unfold Ok at hd; omega, trivial⟩
  unfold joins
  rw [if_pos ⟨(check_zero B).2 h, (check_zero _).2 hu⟩, join_look h hu]
  show max (look B q) (if d.1 = q then d.2 else 0) = _
  unfold upd
  have := look_bd q h
  by_cases e : d.1 = q
  · subst e; rw [if_pos rfl, if_pos rfl]; omega
  · rw [if_neg e, if_neg (Ne.symm e)]; omega
theorem Near.step {T : D → Prop} {p : Int} {B X : List D} (h : Near T p B X) (n : D) (hp : n.1 = p) (hc : n.2 = look B p + 1) (hn : n ∈ X) : Near T p (joins B [n]) (X.filter fun x => decide (x ≠ n)) := by
  have nok := h.ok n hn
  have lw := look_with h.base nok (by rw [hp, hc]; omega)
  refine ⟨(check_zero _).1 (joins_ok _ _), h.ris.filter _, fun x hx => h.ok x (List.mem_filter.1 hx).1, fun x hx e => ?_, fun x hx e => ?_, fun x => ?_⟩
  · rw [lw]; unfold upd; rw [if_neg (by rw [hp]; exact e)]; exact h.far x (List.mem_filter.1 hx).1 e
  · obtain ⟨hx1, hx2⟩ := List.mem_filter.1 hx
    rw [lw]; unfold upd; rw [if_pos (by rw [hp]; exact e)]
    have h1 := h.near x hx1 e
    have h2 : x.2 ≠ n.2 := fun e2 => (of_decide_eq_true hx2) (d_eq (e.trans hp.symm) e2)
    rw [e] at h1
    omega
  · rw [← h.mem x]
    unfold In
    rw [lw]
    unfold upd
    have hb := look_bd p h.base
    rw [List.mem_filter]
    constructor
    · rintro (⟨h1, h2⟩ | h)
      · by_cases e : x.1 = n.1
        · rw [if_pos e] at h2
          by_cases e2 : x.2 = n.2
          · right; rw [d_eq e e2]; exact hn
          · left; rw [e, hp]; omega
        · rw [if_neg e] at h2; exact .inl ⟨h1, h2⟩
      · exact .inr h.1
    · rintro (⟨h1, h2⟩ | h)
      · left
        refine ⟨h1, ?_⟩
        split
        · rename_i e; rw [e, hp] at h2; omega
        · exact h2
      · by_cases e : x = n
        · subst e; left; rw [if_pos rfl]; omega
        · exact .inr ⟨h, decide_eq_true e⟩
theorem filter_less {X : List D} {n : D} (hn : n ∈ X) : (X.filter fun x => decide (x ≠ n)).length < X.length := by
  induction X with
  | nil => cases hn
  | cons e X ih =>
    rw [List.filter_cons]
    by_cases he : e = n
    · rw [if_neg (by simpa using he)]
      have := List.length_filter_le (fun x => decide (x ≠ n)) X
      rw [List.length_cons]; omega
    · rw [if_pos (by simpa using he)]
      rcases List.mem_cons.1 hn with rfl | hn
      · exact absurd rfl he
      · have := ih hn
        rw [List.length_cons, List.length_cons]; omega

/-- A dot put into its place. -/
theorem put_ris {X : List D} {k : Nat} {d : D} (h : Ris d0 X) (hd : Ah d0 d) (hn : d ∉ X) (h1 : ∀ x ∈ X.take k, Ah x d) (h2 : ∀ e, X[k]? = some e → ¬ Ah e d) : Ris d0 (X.take k ++ d :: X.drop k) := by
  have hs : ∀ {l m : List D} {p : D}, Ris p (l ++ m) → Ris p l := by
    intro l
    induction l with
    | nil => intro m p _; trivial
    | cons e l ih => intro m p h; exact ⟨h.1, ih h.2⟩
  have hr : ∀ {l m : List D} {p : D}, Ris p (l ++ m) → Ris p m := by
    intro l
    induction l with
    | nil => intro m p h; exact h
    | cons e l ih => intro m p h; exact (ih h.2).weak h.1.le
  have e := List.take_append_drop k X
  have hX := h
  rw [← e] at h
  have hdr : Ris d (X.drop k) := by
    cases hc : X.drop k with
    | nil => trivial
    | cons y l =>
      have hy : X[k]? = some y := by
        have : (X.drop k)[0]? = some y := by rw [hc]; rfl
        rw [List.getElem?_drop] at this
        simpa using this
      have h3 := hr h
      rw [hc] at h3
      refine ⟨(not_ah.1 (h2 y hy)).ne fun e' => hn ?_, h3.2⟩
      subst e'
      exact List.mem_of_getElem? hy
  refine Ris.append (q := d0) (hs h) (m := d :: X.drop k) ⟨hd, hdr⟩ (fun x hx y hy => ?_) fun y hy => ?_
  · rcases List.mem_cons.1 hy with rfl | hy
    · exact h1 x hx
    · exact (h1 x hx).trans (Ris.mem hdr hy)
  · rcases List.mem_cons.1 hy with rfl | hy
    · exact hd
    · exact hd.trans (Ris.mem hdr hy)
theorem put_mem {X : List D} {k : Nat} {d : D} (x : D) : x ∈ X.take k ++ d :: X.drop k ↔ x ∈ X ∨ x = d := by
  have e : x ∈ X ↔ x ∈ X.take k ++ X.drop k := by rw [List.take_append_drop]
  rw [e, List.mem_append, List.mem_append, List.mem_cons]
  constructor
  · rintro (h | h | h) <;> simp [h]
  · rintro ((h | h) | h) <;> simp [h]
theorem Near.of_set {B E X : List D} {d : D} (h : SetOk B E) (hd : Ok d) (hnd : ¬ In B E d) (hX : Ris d0 X) (hm : ∀ x, x ∈ X ↔ x ∈ E ∨ x = d) : Near (fun x => In B E x ∨ x = d) d.1 B X := by
  refine ⟨h.base, hX, fun x hx => ?_, fun x hx e => ?_, fun x hx e => ?_, fun x => ?_⟩
  · rcases (hm x).1 hx with hx | rfl
    · exact h.ok x hx
    · exact hd
  · rcases (hm x).1 hx with hx | rfl
    · exact h.far x hx
    · exact absurd rfl e
  · rcases (hm x).1 hx with hx | rfl
    · have := h.far x hx; omega
    · by_cases hl : look B x.1 < x.2
      · exact hl
      · exact absurd (.inl ⟨by unfold Ok at hd; omega, by omega⟩) hnd
  · unfold In
    rw [hm x]
    constructor
    · rintro (h | h | h) <;> simp [h]
    · rintro ((h | h) | h) <;> simp [h]

/-- Dots that are not there, ahead of others of their peers. -/
def Gap (B E : List D) (x : D) : Prop := 1 ≤ x.2 ∧ ¬ In B E x ∧ ∃ y, In B E y ∧ y.1 = x.1 ∧ x.2 < y.2
theorem Gap.there {B E : List D} {x : D} (h : Gap B E x) : ∃ y ∈ E, y.1 = x.1 ∧ x.2 < y.2 := by
  obtain ⟨h1, h2, y, hy, e, hl⟩ := h
  rcases hy with ⟨h3, h4⟩ | hy
  · exact absurd (.inl ⟨h1, by rw [← e]; omega⟩) h2
  · exact ⟨y, hy, e, hl⟩
theorem Gap.peer {B E : List D} (hs : SetOk B E) {x : D} (h : Gap B E x) : 0 ≤ x.1 ∧ x.1 ≤ 63 := by
  obtain ⟨y, hy, e, _⟩ := h.there
  have := hs.ok y hy
  unfold Ok at this
  omega
theorem Gap.ok {B E : List D} (hs : SetOk B E) {x : D} (h : Gap B E x) : Ok x := by
  obtain ⟨y, hy, e, hl⟩ := h.there
  have := hs.ok y hy
  have := h.1
  unfold Ok at *
  omega
structure GapsTo (B E : List D) (cur : D) (P : List D) : Prop where
  ris : Ris d0 P
  mem : ∀ x, x ∈ P ↔ Gap B E x ∧ Ah x cur
def IsGaps (B E : List D) (m : Nat) (P : List D) : Prop := (∃ cur, GapsTo B E cur P ∧ (P.length = m ∨ ∀ x, Gap B E x → Ah x cur)) ∧ P.length ≤ m
theorem gaps_pre {B E : List D} {c c' : D} {P R : List D} (hP : GapsTo B E c P) (hR : GapsTo B E c' R) (hl : Le c c') : P.Sublist R := by
  have : P = R.filter fun x => decide (Ah x c) := Ris.ext hP.ris (hR.ris.filter _) fun x => by
    rw [List.mem_filter, hR.mem x, hP.mem x, decide_eq_true_iff]
    constructor
    · rintro ⟨h1, h2⟩; exact ⟨⟨h1, h2.le' hl⟩, h2⟩
    · rintro ⟨⟨h1, _⟩, h2⟩; exact ⟨h1, h2⟩
  rw [this]
  exact List.filter_sublist
theorem gaps_one' {B E : List D} {m : Nat} {c c' : D} {P R : List D} (hP : GapsTo B E c P) (hR : GapsTo B E c' R) (hl : Le c c') (h : P.length = m ∨ ∀ x, Gap B E x → Ah x c) (hm : R.length ≤ m) : P = R := by
  have hs := gaps_pre hP hR hl
  rcases h with h | h
  · exact hs.eq_of_length_le (by omega)
  · exact Ris.ext hP.ris hR.ris fun x => by
      rw [hP.mem x, hR.mem x]
      exact ⟨fun ⟨h1, h2⟩ => ⟨h1, h2.le' hl⟩, fun ⟨h1, _⟩ => ⟨h1, h x h1⟩⟩
theorem gaps_one {B E : List D} {m : Nat} {P R : List D} (hP : IsGaps B E m P) (hR : IsGaps B E m R) : P = R := by
  obtain ⟨⟨c, gP, eP⟩, lP⟩ := hP
  obtain ⟨⟨c', gR, eR⟩, lR⟩ := hR
  by_cases h : Ah c' c
  · exact (gaps_one' gR gP h.le eR lP).symm
  · exact gaps_one' gP gR (not_ah.1 h) eP lR

/-- The program's way: behind the further dots pre, counts f. -/
structure Walk (B pre : List D) (f : Int → Int) : Prop where
  low : ∀ p, look B p ≤ f p
  top : ∀ x ∈ pre, x.2 ≤ f x.1
  is : ∀ p, f p = look B p ∨ (p, f p) ∈ pre
theorem Walk.start (B : List D) : Walk B [] (look B) := ⟨fun _ => Int.le_refl _, fun _ h => (by cases h), fun _ => .inl rfl⟩
theorem ris_mid : ∀ {pre : List D} {d : D} {post : List D} {p : D}, Ris p (pre ++ d :: post) → (∀ x ∈ pre, Ah x d) ∧ ∀ x ∈ post, Ah d x
  | [], _, _, _, h => ⟨fun _ hx => (by cases hx), fun _ hx => Ris.mem h.2 hx⟩
  | e :: pre, d, post, p, h => by
    have ih := ris_mid h.2
    refine ⟨fun x hx => ?_, ih.2⟩
    rcases List.mem_cons.1 hx with rfl | hx
    · exact Ris.mem h.2 (by simp)
    · exact ih.1 x hx
theorem Walk.next {B pre post : List D} {d : D} {f : Int → Int} (h : Walk B pre f) (hs : SetOk B (pre ++ d :: post)) : Walk B (pre ++ [d]) (upd f d.1 d.2) := by
  have hm := ris_mid hs.ris
  have hf := hs.far d (by simp)
  refine ⟨fun p => ?_, fun x hx => ?_, fun p => ?_⟩
  · unfold upd
    split
    · rename_i e; rw [e]; omega
    · exact h.low p
  · unfold upd
    rcases List.mem_append.1 hx with hx | hx
    · split
      · rename_i e
        have := hm.1 x hx
        unfold Ah at this
        omega
      · exact h.top x hx
    · rw [List.mem_singleton.1 hx, if_pos rfl]; exact Int.le_refl _
  · unfold upd
    split
    · rename_i e; right; rw [e]; simp
    · rcases h.is p with h | h
      · exact .inl h
      · exact .inr (List.mem_append_left _ h)
theorem Walk.bd {B pre post : List D} {d : D} {f : Int → Int} (h : Walk B pre f) (hs : SetOk B (pre ++ d :: post)) : 0 ≤ f d.1 ∧ f d.1 < d.2 := by
  have hm := ris_mid hs.ris
  have hf := hs.far d (by simp)
  have hb := look_bd d.1 hs.base
  have := h.low d.1
  refine ⟨by omega, ?_⟩
  rcases h.is d.1 with e | e
  · omega
  · have := hm.1 _ e
    unfold Ah at this
    dsimp only at this
    omega
/-- Where the walk has come to. -/
def last (pre : List D) : D := pre.getLastD d0
theorem last_le : ∀ {pre : List D} {p : D}, Ris p pre → ∀ x ∈ pre, Le x (pre.getLastD p)
  | [], _, _, _, hx => by cases hx
  | e :: pre, p, h, x, hx => by
    rw [List.getLastD_cons]
    rcases List.mem_cons.1 hx with rfl | hx
    · cases pre with
      | nil => exact Le.refl _
      | cons y l => exact (h.2.1.le).trans (last_le h.2 y (List.mem_cons_self ..))
    · exact last_le h.2 x hx
theorem last_is : ∀ (pre : List D) (p : D), pre.getLastD p = p ∨ pre.getLastD p ∈ pre
  | [], _ => .inl rfl
  | e :: pre, p => by
    right
    rw [List.getLastD_cons]
    rcases last_is pre e with h | h
    · rw [h]; exact List.mem_cons_self ..
    · exact List.mem_cons_of_mem _ h
theorem ris_pre : ∀ {l m : List D} {p : D}, Ris p (l ++ m) → Ris p l
  | [], _, _, _ => trivial
  | _ :: _, _, _, h => ⟨h.1, ris_pre h.2⟩
theorem gaps_in {B pre post : List D} {d : D} {f : Int → Int} {P : List D} (h : Walk B pre f) (hs : SetOk B (pre ++ d :: post)) (hg : GapsTo B (pre ++ d :: post) (last pre) P) : GapsTo B (pre ++ d :: post) (d.1, f d.1 + 1) P := by
  have hm := ris_mid hs.ris
  have hlast : Le (last pre) (d.1, f d.1 + 1) := by
    rcases last_is pre d0 with e | e
    · unfold last; rw [e]
      have := hs.ok d (by simp)
      unfold Ok at this
      left; show (-1 : Int) < d.1; omega
    · have h1 := hm.1 _ e
      have h2 := h.top _ e
      unfold last
      generalize pre.getLastD d0 = l at e h1 h2
      unfold Ah at h1
      unfold Le
      dsimp only
      rcases h1 with h1 | ⟨h1, _⟩
      · left; omega
      · right; rw [h1] at h2; exact ⟨h1, by omega⟩
  refine ⟨hg.ris, fun x => ?_⟩
  rw [hg.mem x]
  constructor
  · rintro ⟨h1, h2⟩; exact ⟨h1, h2.le' hlast⟩
  · rintro ⟨h1, h2⟩
    refine ⟨h1, ?_⟩
    by_cases hx : Ah x (last pre)
    · exact hx
    · exfalso
      have hle := not_ah.1 hx
      obtain ⟨y, hy, e, hl⟩ := h1.there
      have hxy : Ah x y := .inr ⟨e.symm, hl⟩
      unfold Ah at h2
      dsimp only at h2
      rcases h2 with h2 | ⟨h2, h3⟩
      · have hyd : y ∈ pre := by
          rcases List.mem_append.1 hy with hy | hy
          · exact hy
          · rcases List.mem_cons.1 hy with rfl | hy
            · omega
            · have := hm.2 y hy
              unfold Ah at this
              omega
        exact (hxy.le' ((last_le (ris_pre hs.ris) y hyd).trans hle)).irr
      · rcases h.is d.1 with e2 | e2
        · exact h1.2.1 (.inl ⟨h1.1, by rw [h2]; omega⟩)
        · have h4 := (last_le (ris_pre hs.ris) _ e2).trans hle
          unfold Le at h4
          dsimp only at h4
          have e3 : x = (d.1, f d.1) := d_eq h2 (by show x.2 = f d.1; omega)
          exact h1.2.1 (.inr (by rw [e3]; exact List.mem_append_left _ e2))
theorem gaps_step {B pre post : List D} {d : D} {f : Int → Int} {P : List D} {c : Int} (h : Walk B pre f) (hs : SetOk B (pre ++ d :: post)) (hc : f d.1 < c) (hc2 : c < d.2) (hg : GapsTo B (pre ++ d :: post) (d.1, c) P) : GapsTo B (pre ++ d :: post) (d.1, c + 1) (P ++ [(d.1, c)]) := by
  have hm := ris_mid hs.ris
  have dok := hs.ok d (by simp)
  have hb := look_bd d.1 hs.base
  have hl := h.low d.1
  unfold Ok at dok
  have hgap : Gap B (pre ++ d :: post) (d.1, c) := by
    refine ⟨by show 1 ≤ c; omega, ?_, d, .inr (by simp), rfl, hc2⟩
    rintro (⟨_, h2⟩ | h2)
    · have h2' : c ≤ look B d.1 := h2; omega
    · rcases List.mem_append.1 h2 with h2 | h2
      · have h3 : c ≤ f d.1 := h.top _ h2; omega
      · rcases List.mem_cons.1 h2 with h2 | h2
        · have : c = d.2 := by rw [← h2]
          omega
        · have := hm.2 _ h2
          unfold Ah at this
          dsimp only at this
          omega
  refine ⟨hg.ris.snoc (by left; show (-1 : Int) < d.1; omega) fun x hx => ((hg.mem x).1 hx).2, fun x => ?_⟩
  rw [List.mem_append, List.mem_singleton, hg.mem x]
  constructor
  · rintro (⟨h1, h2⟩ | rfl)
    · exact ⟨h1, by unfold Ah at *; dsimp only at *; omega⟩
    · exact ⟨hgap, .inr ⟨rfl, by show c < c + 1; omega⟩⟩
  · rintro ⟨h1, h2⟩
    by_cases e : x = (d.1, c)
    · exact .inr e
    · left
      refine ⟨h1, ?_⟩
      have : ¬ (x.1 = d.1 ∧ x.2 = c) := fun ⟨e1, e2⟩ => e (d_eq e1 e2)
      unfold Ah at *
      dsimp only at *
      omega
theorem last_snoc (pre : List D) (d : D) : last (pre ++ [d]) = d := by unfold last; simp [List.getLastD_eq_getLast?]
theorem gaps_end {B E : List D} (hs : SetOk B E) (x : D) (hx : Gap B E x) : Ah x (last E) := by
  obtain ⟨y, hy, e, hl⟩ := hx.there
  have hxy : Ah x y := .inr ⟨e.symm, hl⟩
  exact hxy.le' (last_le hs.ris y hy)
theorem gaps_zero {B E : List D} (hs : SetOk B E) : GapsTo B E d0 [] := ⟨trivial, fun x => ⟨fun h => (by cases h), fun ⟨h1, h2⟩ => by have := h1.peer hs; unfold Ah d0 at h2; dsimp only at h2; omega⟩⟩

/-- The document's way: peer by peer. -/
structure Top (E : List D) (p t : Int) : Prop where
  most : ∀ x ∈ E, x.1 = p → x.2 ≤ t
  is : t = 0 ∨ (p, t) ∈ E
theorem ref_in {B E P : List D} {p : Int} (hg : GapsTo B E (p, 1) P) : GapsTo B E (p, look B p + 1) P ∨ look B p < 0 := by
  by_cases hb : look B p < 0
  · exact .inr hb
  left
  refine ⟨hg.ris, fun x => ?_⟩
  rw [hg.mem x]
  constructor
  · rintro ⟨h1, h2⟩; exact ⟨h1, by unfold Ah at *; dsimp only at *; omega⟩
  · rintro ⟨h1, h2⟩
    refine ⟨h1, ?_⟩
    unfold Ah at *
    dsimp only at *
    rcases h2 with h2 | ⟨h2, h3⟩
    · exact .inl h2
    · exact absurd (.inl ⟨h1.1, by rw [h2]; omega⟩) h1.2.1
theorem ref_skip {B E P : List D} {p c : Int} (hc : (p, c) ∈ E) (hg : GapsTo B E (p, c) P) : GapsTo B E (p, c + 1) P := by
  refine ⟨hg.ris, fun x => ?_⟩
  rw [hg.mem x]
  constructor
  · rintro ⟨h1, h2⟩; exact ⟨h1, by unfold Ah at *; dsimp only at *; omega⟩
  · rintro ⟨h1, h2⟩
    refine ⟨h1, ?_⟩
    have : ¬ (x.1 = p ∧ x.2 = c) := fun ⟨e1, e2⟩ => h1.2.1 (.inr (by rw [show x = (p, c) from d_eq e1 e2]; exact hc))
    unfold Ah at *
    dsimp only at *
    omega
theorem ref_step {B E P : List D} {p c t : Int} (hs : SetOk B E) (hp : 0 ≤ p) (ht : (p, t) ∈ E) (h1 : look B p < c) (h2 : c < t) (hc : (p, c) ∉ E) (hg : GapsTo B E (p, c) P) : GapsTo B E (p, c + 1) (P ++ [(p, c)]) := by
  have hb := look_bd p hs.base
  have hgap : Gap B E (p, c) := by
    refine ⟨by show 1 ≤ c; omega, ?_, (p, t), .inr ht, rfl, h2⟩
    rintro (⟨_, h3⟩ | h3)
    · have h3' : c ≤ look B p := h3; omega
    · exact hc h3
  refine ⟨hg.ris.snoc (by left; show (-1 : Int) < p; omega) fun x hx => ((hg.mem x).1 hx).2, fun x => ?_⟩
  rw [List.mem_append, List.mem_singleton, hg.mem x]
  constructor
  · rintro (⟨h1, h2⟩ | rfl)
    · exact ⟨h1, by unfold Ah at *; dsimp only at *; omega⟩
    · exact ⟨hgap, .inr ⟨rfl, by show c < c + 1; omega⟩⟩
  · rintro ⟨h1, h2⟩
    by_cases e : x = (p, c)
    · exact .inr e
    · left
      refine ⟨h1, ?_⟩
      have : ¬ (x.1 = p ∧ x.2 = c) := fun ⟨e1, e2⟩ => e (d_eq e1 e2)
      unfold Ah at *
      dsimp only at *
      omega
theorem ref_next {B E P : List D} {p c t : Int} (ht : Top E p t) (hc : t ≤ c) (hg : GapsTo B E (p, c) P) : GapsTo B E (p + 1, 1) P := by
  refine ⟨hg.ris, fun x => ?_⟩
  rw [hg.mem x]
  constructor
  · rintro ⟨h1, h2⟩; exact ⟨h1, by unfold Ah at *; dsimp only at *; omega⟩
  · rintro ⟨h1, h2⟩
    refine ⟨h1, ?_⟩
    obtain ⟨y, hy, e, hl⟩ := h1.there
    have h3 := ht.most y hy
    have h4 := h1.1
    unfold Ah at *
    dsimp only at *
    omega
theorem ref_zero {B E : List D} (hs : SetOk B E) : GapsTo B E (0, 1) [] := ⟨trivial, fun x => ⟨fun h => (by cases h), fun ⟨h1, h2⟩ => by have := h1.peer hs; have := h1.1; unfold Ah at h2; dsimp only at h2; omega⟩⟩
theorem ref_end {B E : List D} (hs : SetOk B E) (x : D) (hx : Gap B E x) : Ah x (64, 1) := by have := hx.peer hs; left; show x.1 < 64; omega
end Go.Proofs.Ytpcfblpenealbaa.Vc
