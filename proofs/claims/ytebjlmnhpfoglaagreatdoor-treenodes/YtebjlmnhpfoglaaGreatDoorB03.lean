/-
  Plain facts on lists of dots, vectors among them, joined and met: no program, no world. Conditions: none but those that each theorem names.
-/
import Derived.Test.YtebjlmnhpfoglaaGreatDoorRows
import Derived.WalkKit
import Derived.WalkSpells
import Derived.WalkLawsBesides
import Derived.BigQuiet
import Derived.Outline
import Derived.Test.YtebjlmnhpfoglaaGreatDoorB02
import Derived.RangeFuncNested
import Derived.RangeFuncBound
import Derived.RangeFuncCalls
import Derived.RangeFuncLeaves
import Derived.RangeFuncBox
import Derived.Shelf.Abstract
import Derived.Shelf.RegionOpen
import Derived.OwnWalkIn
import Derived.TacticsInMore
import Derived.LoopNIn
import Derived.LoopIn
import Derived.Maps.AppendAt
import Derived.Deep.RegionWith
import Derived.Deep.QuietTactic

namespace Go.Proofs.YtebjlmnhpfoglaaGreatDoor.Vc

/-- A dot: its peer, its count. -/
abbrev D := Int × Int

def dotErr (d : D) : Int := if d.1 < 0 ∨ 63 < d.1 then 11 else if d.2 < 1 ∨ 1048576 < d.2 then 12 else 0
def Ok (d : D) : Prop := 0 ≤ d.1 ∧ d.1 ≤ 63 ∧ 1 ≤ d.2 ∧ d.2 ≤ 1048576

theorem dotErr_zero (d : D) : dotErr d = 0 ↔ Ok d := by
  unfold dotErr Ok
  split
  · constructor <;> intro h <;> omega
  · split
    · constructor <;> intro h <;> omega
    · constructor
      · intro _; omega
      · intro _; rfl

/-- What is wrong with a list, behind a peer. -/
def chk : Int → List D → Int
  | _, [] => 0
  | p, d :: l => if dotErr d ≠ 0 then dotErr d else if d.1 ≤ p then 8 else chk d.1 l
def check (l : List D) : Int := chk (-1) l

/-- A vector, behind a peer. -/
def Up : Int → List D → Prop
  | _, [] => True
  | p, d :: l => Ok d ∧ p < d.1 ∧ Up d.1 l

theorem chk_zero : ∀ (l : List D) (p : Int), chk p l = 0 ↔ Up p l
  | [], p => by simp [chk, Up]
  | d :: l, p => by
    unfold chk Up
    by_cases h : dotErr d = 0
    · rw [if_neg (by simpa using h)]
      have hok := (dotErr_zero d).1 h
      by_cases h2 : d.1 ≤ p
      · rw [if_pos h2]
        constructor
        · intro h; omega
        · intro h; omega
      · rw [if_neg h2, chk_zero l d.1]
        constructor
        · intro h; exact ⟨hok, by omega, h⟩
        · intro h; exact h.2.2
    · rw [if_pos (by simpa using h)]
      constructor
      · intro h'; exact absurd h' h
      · intro h'; exact absurd ((dotErr_zero d).2 h'.1) h

theorem check_zero (l : List D) : check l = 0 ↔ Up (-1) l := chk_zero l (-1)

theorem Up.weak : ∀ {l : List D} {p q : Int}, Up p l → q ≤ p → Up q l
  | [], _, _, _, _ => trivial
  | _ :: _, _, _, h, hq => ⟨h.1, by have := h.2.1; omega, h.2.2⟩

def look : List D → Int → Int
  | [], _ => 0
  | d :: l, p => if d.1 = p then d.2 else look l p
def get (l : List D) (p : Int) : Int := if check l = 0 then look l p else 0

theorem get_vec {l : List D} (h : Up (-1) l) (p : Int) : get l p = look l p := by
  unfold get; rw [if_pos ((check_zero l).2 h)]
theorem get_none {l : List D} (h : ¬ check l = 0) (p : Int) : get l p = 0 := by
  unfold get; rw [if_neg h]

theorem look_low : ∀ {l : List D} {q p : Int}, Up q l → p ≤ q → look l p = 0
  | [], _, _, _, _ => rfl
  | d :: l, q, p, h, hp => by
    unfold look
    rw [if_neg (by have := h.2.1; omega)]
    exact look_low h.2.2 (by have := h.2.1; omega)

theorem look_bd : ∀ {l : List D} {q : Int} (p : Int), Up q l → 0 ≤ look l p ∧ look l p ≤ 1048576
  | [], _, _, _ => by simp [look]
  | d :: l, q, p, h => by
    unfold look
    split
    · have := h.1; unfold Ok at this; omega
    · exact look_bd p h.2.2

theorem look_out : ∀ {l : List D} {q : Int} (p : Int), Up q l → (p < 0 ∨ 63 < p) → look l p = 0
  | [], _, _, _, _ => rfl
  | d :: l, q, p, h, hp => by
    unfold look
    have h1 := h.1
    unfold Ok at h1
    rw [if_neg (by omega)]
    exact look_out p h.2.2 hp

theorem look_mem : ∀ {l : List D} {q : Int} {d : D}, Up q l → d ∈ l → look l d.1 = d.2 ∧ q < d.1
  | [], _, _, _, hd => by cases hd
  | e :: l, q, d, h, hd => by
    rcases List.mem_cons.1 hd with rfl | hd
    · exact ⟨by unfold look; rw [if_pos rfl], h.2.1⟩
    · have ih := look_mem h.2.2 hd
      refine ⟨?_, by have := h.2.1; omega⟩
      unfold look
      rw [if_neg (by omega)]
      exact ih.1

theorem look_pos : ∀ {l : List D} {p : Int}, look l p ≠ 0 → (p, look l p) ∈ l
  | [], _, h => absurd rfl h
  | d :: l, p, h => by
    unfold look at h ⊢
    split at h
    · rename_i e
      rw [if_pos e]
      subst e
      exact List.mem_cons_self ..
    · rename_i e
      rw [if_neg e]
      exact List.mem_cons_of_mem _ (look_pos h)

theorem mem_ok : ∀ {l : List D} {q : Int} {d : D}, Up q l → d ∈ l → Ok d
  | [], _, _, _, hd => by cases hd
  | e :: l, q, d, h, hd => by
    rcases List.mem_cons.1 hd with rfl | hd
    · exact h.1
    · exact mem_ok h.2.2 hd

theorem vec_ext : ∀ {a b : List D} {q r : Int}, Up q a → Up r b → (∀ p, look a p = look b p) → a = b
  | [], [], _, _, _, _, _ => rfl
  | [], e :: b, _, _, _, hb, h => by
    have := h e.1
    have h1 := hb.1
    unfold Ok at h1
    rw [show look (e :: b) e.1 = e.2 by unfold look; rw [if_pos rfl]] at this
    simp [look] at this
    omega
  | d :: a, [], _, _, ha, _, h => by
    have := h d.1
    have h1 := ha.1
    unfold Ok at h1
    rw [show look (d :: a) d.1 = d.2 by unfold look; rw [if_pos rfl]] at this
    simp [look] at this
    omega
  | d :: a, e :: b, q, r, ha, hb, h => by
    have d1 := ha.1
    have e1 := hb.1
    unfold Ok at d1 e1
    have hd := h d.1
    have he := h e.1
    have ld : look (d :: a) d.1 = d.2 := by unfold look; rw [if_pos rfl]
    have le : look (e :: b) e.1 = e.2 := by unfold look; rw [if_pos rfl]
    rw [ld] at hd
    rw [le] at he
    have h1 : d.1 = e.1 := by
      rcases Int.lt_trichotomy d.1 e.1 with hl | hl | hl
      · exfalso
        unfold look at hd
        rw [if_neg (by omega), look_low hb.2.2 (by omega)] at hd
        omega
      · exact hl
      · exfalso
        unfold look at he
        rw [if_neg (by omega), look_low ha.2.2 (by omega)] at he
        omega
    have h2 : d.2 = e.2 := by
      rw [h1, le] at hd
      exact hd
    have hde : d = e := Prod.ext h1 h2
    subst hde
    rw [vec_ext ha.2.2 hb.2.2 fun p => ?_]
    by_cases hp : d.1 = p
    · rw [look_low ha.2.2 (by omega), look_low hb.2.2 (by omega)]
    · have := h p
      unfold look at this
      rwa [if_neg hp, if_neg hp] at this

/-- Both side by side: each peer of either, with its count here and there. -/
def sides : List D → List D → List (D × D)
  | [], [] => []
  | x :: a, [] => (x, (x.1, 0)) :: sides a []
  | [], y :: b => ((y.1, 0), y) :: sides [] b
  | x :: a, y :: b => if x.1 < y.1 then (x, (x.1, 0)) :: sides a (y :: b) else if y.1 < x.1 then ((y.1, 0), y) :: sides (x :: a) b else (x, y) :: sides a b
termination_by a b => a.length + b.length

def first : List D → Int
  | [] => 64
  | d :: _ => d.1

/-- What may stand in it, behind a peer. -/
def SUp : Int → List (D × D) → Prop
  | _, [] => True
  | p, s :: l => p < s.1.1 ∧ 0 ≤ s.1.1 ∧ s.1.1 ≤ 63 ∧ s.2.1 = s.1.1 ∧ 0 ≤ s.1.2 ∧ s.1.2 ≤ 1048576 ∧ 0 ≤ s.2.2 ∧ s.2.2 ≤ 1048576 ∧ (1 ≤ s.1.2 ∨ 1 ≤ s.2.2) ∧ SUp s.1.1 l

theorem sides_up (a b : List D) (q : Int) (ha : Up q a) (hb : Up q b) : SUp q (sides a b) := by
  induction a, b using sides.induct generalizing q with
  | case1 => rw [sides]; trivial
  | case2 x a ih =>
    rw [sides]
    have h1 := ha.1
    unfold Ok at h1
    exact ⟨ha.2.1, by dsimp only; omega, by dsimp only; omega, rfl, by dsimp only; omega, by dsimp only; omega, Int.le_refl _, by simp, .inl (by dsimp only; omega), ih _ ha.2.2 trivial⟩
  | case3 y b ih =>
    rw [sides]
    have h1 := hb.1
    unfold Ok at h1
    exact ⟨hb.2.1, by dsimp only; omega, by dsimp only; omega, rfl, Int.le_refl _, by simp, by dsimp only; omega, by dsimp only; omega, .inr (by dsimp only; omega), ih _ trivial hb.2.2⟩
  | case4 x a y b h ih =>
    rw [sides, if_pos h]
    have h1 := ha.1
    unfold Ok at h1
    exact ⟨ha.2.1, by dsimp only; omega, by dsimp only; omega, rfl, by dsimp only; omega, by dsimp only; omega, Int.le_refl _, by simp, .inl (by dsimp only; omega), ih _ ha.2.2 ⟨hb.1, h, hb.2.2⟩⟩
  | case5 x a y b h h' ih =>
    rw [sides, if_neg h, if_pos h']
    have h1 := hb.1
    unfold Ok at h1
    exact ⟨hb.2.1, by dsimp only; omega, by dsimp only; omega, rfl, Int.le_refl _, by simp, by dsimp only; omega, by dsimp only; omega, .inr (by dsimp only; omega), ih _ ⟨ha.1, h', ha.2.2⟩ hb.2.2⟩
  | case6 x a y b h h' ih =>
    rw [sides, if_neg h, if_neg h']
    have h1 := ha.1
    have h2 := hb.1
    unfold Ok at h1 h2
    have e : y.1 = x.1 := by omega
    refine ⟨ha.2.1, by dsimp only; omega, by dsimp only; omega, e, by dsimp only; omega, by dsimp only; omega, by dsimp only; omega, by dsimp only; omega, .inl (by dsimp only; omega), ih _ ha.2.2 ?_⟩
    have := hb.2.2
    rwa [e] at this

theorem sides_fst (a b : List D) (q : Int) (ha : Up q a) (hb : Up q b) (p : Int) : look ((sides a b).map (·.1)) p = look a p := by
  induction a, b using sides.induct generalizing q with
  | case1 => rw [sides]; rfl
  | case2 x a ih =>
    rw [sides, List.map_cons]
    unfold look
    rw [ih _ ha.2.2 trivial]
  | case3 y b ih =>
    rw [sides, List.map_cons]
    unfold look
    have := ih _ trivial hb.2.2
    rw [this]
    simp [look]
  | case4 x a y b h ih =>
    rw [sides, if_pos h, List.map_cons]
    unfold look
    rw [ih _ ha.2.2 ⟨hb.1, h, hb.2.2⟩]
  | case5 x a y b h h' ih =>
    rw [sides, if_neg h, if_pos h', List.map_cons]
    have := ih _ ⟨ha.1, h', ha.2.2⟩ hb.2.2
    have e : ∀ l, look ((y.1, (0 : Int)) :: l) p = if y.1 = p then 0 else look l p := fun l => rfl
    rw [e, this]
    split
    · exact (look_low (q := y.1) (l := x :: a) ⟨ha.1, h', ha.2.2⟩ (by omega)).symm
    · rfl
  | case6 x a y b h h' ih =>
    rw [sides, if_neg h, if_neg h', List.map_cons]
    have e : y.1 = x.1 := by omega
    unfold look
    rw [ih _ ha.2.2 (by have := hb.2.2; rwa [e] at this)]

theorem sides_snd (a b : List D) (q : Int) (ha : Up q a) (hb : Up q b) (p : Int) : look ((sides a b).map (·.2)) p = look b p := by
  induction a, b using sides.induct generalizing q with
  | case1 => rw [sides]; rfl
  | case2 x a ih =>
    rw [sides, List.map_cons]
    have := ih _ ha.2.2 trivial
    have e : ∀ l, look ((x.1, (0 : Int)) :: l) p = if x.1 = p then 0 else look l p := fun l => rfl
    rw [e, this]
    simp [look]
  | case3 y b ih =>
    rw [sides, List.map_cons]
    unfold look
    rw [ih _ trivial hb.2.2]
  | case4 x a y b h ih =>
    rw [sides, if_pos h, List.map_cons]
    have := ih _ ha.2.2 ⟨hb.1, h, hb.2.2⟩
    have e : ∀ l, look ((x.1, (0 : Int)) :: l) p = if x.1 = p then 0 else look l p := fun l => rfl
    rw [e, this]
    split
    · exact (look_low (q := x.1) (l := y :: b) ⟨hb.1, h, hb.2.2⟩ (by omega)).symm
    · rfl
  | case5 x a y b h h' ih =>
    rw [sides, if_neg h, if_pos h', List.map_cons]
    unfold look
    rw [ih _ ⟨ha.1, h', ha.2.2⟩ hb.2.2]
  | case6 x a y b h h' ih =>
    rw [sides, if_neg h, if_neg h', List.map_cons]
    have e : y.1 = x.1 := by omega
    unfold look
    rw [ih _ ha.2.2 (by have := hb.2.2; rwa [e] at this)]

theorem sides_len (a b : List D) : (sides a b).length ≤ a.length + b.length := by
  induction a, b using sides.induct with
  | case1 => rw [sides]; simp
  | case2 x a ih => rw [sides]; simp at ih ⊢; omega
  | case3 y b ih => rw [sides]; simp at ih ⊢; omega
  | case4 x a y b h ih => rw [sides, if_pos h]; simp at ih ⊢; omega
  | case5 x a y b h h' ih => rw [sides, if_neg h, if_pos h']; simp at ih ⊢; omega
  | case6 x a y b h h' ih => rw [sides, if_neg h, if_neg h']; simp at ih ⊢; omega

def jn (s : D × D) : D := (s.1.1, max s.1.2 s.2.2)
def mt (s : D × D) : List D := if 0 < min s.1.2 s.2.2 then [(s.1.1, min s.1.2 s.2.2)] else []
def join (a b : List D) : List D := (sides a b).map jn
def meet (a b : List D) : List D := (sides a b).flatMap mt

theorem jn_up : ∀ (l : List (D × D)) (q : Int), SUp q l → Up q (l.map jn)
  | [], _, _ => trivial
  | s :: l, q, h => by
    obtain ⟨h1, h2, h3, h4, h5, h6, h7, h8, h9, h10⟩ := h
    refine ⟨?_, h1, jn_up l _ h10⟩
    show 0 ≤ s.1.1 ∧ s.1.1 ≤ 63 ∧ 1 ≤ max s.1.2 s.2.2 ∧ max s.1.2 s.2.2 ≤ 1048576
    omega
theorem jn_look : ∀ (l : List (D × D)) (q : Int) (p : Int), SUp q l → look (l.map jn) p = max (look (l.map (·.1)) p) (look (l.map (·.2)) p)
  | [], _, _, _ => by simp [look]
  | s :: l, q, p, h => by
    obtain ⟨h1, h2, h3, h4, h5, h6, h7, h8, h9, h10⟩ := h
    have ih := jn_look l _ p h10
    simp only [List.map_cons]
    have e1 : ∀ m, look (jn s :: m) p = if s.1.1 = p then max s.1.2 s.2.2 else look m p := fun m => rfl
    have e2 : ∀ m, look (s.1 :: m) p = if s.1.1 = p then s.1.2 else look m p := fun m => rfl
    have e3 : ∀ m, look (s.2 :: m) p = if s.2.1 = p then s.2.2 else look m p := fun m => rfl
    rw [e1, e2, e3, h4]
    split
    · rfl
    · exact ih

theorem fst_low : ∀ (l : List (D × D)) (q p : Int), SUp q l → p ≤ q → look (l.map (·.1)) p = 0
  | [], _, _, _, _ => rfl
  | s :: l, q, p, h, hp => by
    obtain ⟨h1, h2, h3, h4, h5, h6, h7, h8, h9, h10⟩ := h
    have e2 : ∀ m, look (s.1 :: m) p = if s.1.1 = p then s.1.2 else look m p := fun m => rfl
    rw [List.map_cons, e2, if_neg (by omega)]
    exact fst_low l _ p h10 (by omega)
theorem snd_low : ∀ (l : List (D × D)) (q p : Int), SUp q l → p ≤ q → look (l.map (·.2)) p = 0
  | [], _, _, _, _ => rfl
  | s :: l, q, p, h, hp => by
    obtain ⟨h1, h2, h3, h4, h5, h6, h7, h8, h9, h10⟩ := h
    have e2 : ∀ m, look (s.2 :: m) p = if s.2.1 = p then s.2.2 else look m p := fun m => rfl
    rw [List.map_cons, e2, if_neg (by omega)]
    exact snd_low l _ p h10 (by omega)

theorem mt_up : ∀ (l : List (D × D)) (q : Int), SUp q l → Up q (l.flatMap mt)
  | [], _, _ => trivial
  | s :: l, q, h => by
    obtain ⟨h1, h2, h3, h4, h5, h6, h7, h8, h9, h10⟩ := h
    rw [List.flatMap_cons]
    unfold mt
    split
    · refine ⟨?_, h1, mt_up l _ h10⟩
      show 0 ≤ s.1.1 ∧ s.1.1 ≤ 63 ∧ 1 ≤ min s.1.2 s.2.2 ∧ min s.1.2 s.2.2 ≤ 1048576
      omega
    · exact (mt_up l _ h10).weak (by omega)
theorem mt_look : ∀ (l : List (D × D)) (q : Int) (p : Int), SUp q l → look (l.flatMap mt) p = min (look (l.map (·.1)) p) (look (l.map (·.2)) p)
  | [], _, _, _ => by simp [look]
  | s :: l, q, p, h => by
    obtain ⟨h1, h2, h3, h4, h5, h6, h7, h8, h9, h10⟩ := h
    have ih := mt_look l _ p h10
    rw [List.flatMap_cons]
    simp only [List.map_cons]
    have e1 : ∀ (n : Int) m, look ((s.1.1, n) :: m) p = if s.1.1 = p then n else look m p := fun n m => rfl
    have e2 : ∀ m, look (s.1 :: m) p = if s.1.1 = p then s.1.2 else look m p := fun m => rfl
    have e3 : ∀ m, look (s.2 :: m) p = if s.2.1 = p then s.2.2 else look m p := fun m => rfl
    rw [e2, e3, h4]
    by_cases hp : s.1.1 = p
    · rw [if_pos hp, if_pos hp]
      unfold mt
      split
      · rw [List.singleton_append, e1, if_pos hp]
      · rw [List.nil_append]
        show look (l.flatMap mt) p = _
        rw [look_low (mt_up l _ h10) (by omega)]
        omega
    · rw [if_neg hp, if_neg hp, ← ih]
      unfold mt
      split
      · rw [List.singleton_append, e1, if_neg hp]
      · rw [List.nil_append]

theorem join_up {a b : List D} (ha : Up (-1) a) (hb : Up (-1) b) : Up (-1) (join a b) := jn_up _ _ (sides_up a b _ ha hb)
theorem join_look {a b : List D} (ha : Up (-1) a) (hb : Up (-1) b) (p : Int) : look (join a b) p = max (look a p) (look b p) := by
  unfold join
  rw [jn_look _ _ p (sides_up a b _ ha hb), sides_fst a b _ ha hb, sides_snd a b _ ha hb]
theorem meet_up {a b : List D} (ha : Up (-1) a) (hb : Up (-1) b) : Up (-1) (meet a b) := mt_up _ _ (sides_up a b _ ha hb)
theorem meet_look {a b : List D} (ha : Up (-1) a) (hb : Up (-1) b) (p : Int) : look (meet a b) p = min (look a p) (look b p) := by
  unfold meet
  rw [mt_look _ _ p (sides_up a b _ ha hb), sides_fst a b _ ha hb, sides_snd a b _ ha hb]

/-- Whether one is within the other, both vectors. -/
def le (s : D × D) : Bool := decide (s.1.2 ≤ s.2.2)
theorem le_look : ∀ (l : List (D × D)) (q : Int), SUp q l → (l.all le = true ↔ ∀ p, look (l.map (·.1)) p ≤ look (l.map (·.2)) p)
  | [], _, _ => by simp [look]
  | s :: l, q, h => by
    obtain ⟨h1, h2, h3, h4, h5, h6, h7, h8, h9, h10⟩ := h
    have ih := le_look l _ h10
    have e2 : ∀ m p, look (s.1 :: m) p = if s.1.1 = p then s.1.2 else look m p := fun m p => rfl
    have e3 : ∀ m p, look (s.2 :: m) p = if s.2.1 = p then s.2.2 else look m p := fun m p => rfl
    simp only [List.map_cons, List.all_cons, Bool.and_eq_true, e2, e3, h4, ih]
    unfold le
    rw [decide_eq_true_eq]
    constructor
    · rintro ⟨a, b⟩ p
      split
      · exact a
      · exact b p
    · intro h
      refine ⟨by simpa using h s.1.1, fun p => ?_⟩
      have := h p
      by_cases hp : s.1.1 = p
      · rw [fst_low l _ p h10 (by omega), snd_low l _ p h10 (by omega)]
        exact Int.le_refl _
      · rwa [if_neg hp, if_neg hp] at this

/-- Whether both are vectors, and the one has all that the other one has. -/
def within (a b : List D) : Bool := check a == 0 && check b == 0 && (sides a b).all le
theorem within_iff (a b : List D) : within a b = true ↔ Up (-1) a ∧ Up (-1) b ∧ ∀ p, look a p ≤ look b p := by
  unfold within
  rw [Bool.and_eq_true, Bool.and_eq_true, beq_iff_eq, beq_iff_eq, check_zero, check_zero]
  constructor
  · rintro ⟨⟨ha, hb⟩, h⟩
    refine ⟨ha, hb, fun p => ?_⟩
    have := (le_look _ _ (sides_up a b _ ha hb)).1 h p
    rwa [sides_fst a b _ ha hb, sides_snd a b _ ha hb] at this
  · rintro ⟨ha, hb, h⟩
    refine ⟨⟨ha, hb⟩, (le_look _ _ (sides_up a b _ ha hb)).2 fun p => ?_⟩
    rw [sides_fst a b _ ha hb, sides_snd a b _ ha hb]
    exact h p
theorem within_mem {a b : List D} (ha : Up (-1) a) (hb : Up (-1) b) : within a b = true ↔ ∀ d ∈ a, d.2 ≤ look b d.1 := by
  rw [within_iff]
  constructor
  · rintro ⟨_, _, h⟩ d hd
    have := h d.1
    rwa [(look_mem ha hd).1] at this
  · intro h
    refine ⟨ha, hb, fun p => ?_⟩
    by_cases h0 : look a p = 0
    · rw [h0]; exact (look_bd p hb).1
    · exact h _ (look_pos h0)

def compare (a b : List D) : Int := if within a b = true then (if within b a = true then 0 else 1) else if within b a = true then 2 else 3

/-- The vector of the counts of the first peers. -/
def ofN (f : Nat → Int) : Nat → List D
  | 0 => []
  | k + 1 => ofN f k ++ (if 0 < f k then [((k : Int), f k)] else [])

theorem Up.snoc : ∀ {l : List D} {q : Int} {d : D}, Up q l → Ok d → q < d.1 → (∀ e ∈ l, e.1 < d.1) → Up q (l ++ [d])
  | [], _, _, _, hd, hq, _ => ⟨hd, hq, trivial⟩
  | e :: _, _, _, h, hd, _, hl => ⟨h.1, h.2.1, Up.snoc h.2.2 hd (hl e (List.mem_cons_self ..)) fun x hx => hl x (List.mem_cons_of_mem _ hx)⟩
theorem look_append : ∀ (l m : List D) (p : Int), (∀ e ∈ l, e.1 ≠ p) → look (l ++ m) p = look m p
  | [], _, _, _ => rfl
  | d :: l, m, p, h => by
    rw [List.cons_append]
    unfold look
    rw [if_neg (h d (List.mem_cons_self ..)), look_append l m p fun e he => h e (List.mem_cons_of_mem _ he)]
    cases m <;> rfl
theorem look_front : ∀ (l m : List D) (p : Int), (∀ e ∈ m, e.1 ≠ p) → look (l ++ m) p = look l p
  | [], m, p, h => by
    induction m with
    | nil => rfl
    | cons d m ih =>
      show look (d :: m) p = 0
      unfold look
      rw [if_neg (h d (List.mem_cons_self ..))]
      exact ih fun e he => h e (List.mem_cons_of_mem _ he)
  | d :: l, m, p, h => by
    rw [List.cons_append]
    unfold look
    rw [look_front l m p h]

theorem ofN_peer (f : Nat → Int) : ∀ (k : Nat), ∀ d ∈ ofN f k, d.1 < (k : Int)
  | 0, _, h => by cases h
  | k + 1, d, h => by
    unfold ofN at h
    rcases List.mem_append.1 h with h | h
    · have := ofN_peer f k d h; omega
    · split at h
      · rw [List.mem_singleton.1 h]; show (k : Int) < ((k + 1 : Nat) : Int); omega
      · cases h
theorem ofN_up (f : Nat → Int) (hf : ∀ i, f i ≤ 1048576) : ∀ k, k ≤ 64 → Up (-1) (ofN f k)
  | 0, _ => trivial
  | k + 1, hk => by
    unfold ofN
    split
    · refine Up.snoc (ofN_up f hf k (by omega)) ?_ ?_ (ofN_peer f k)
      · show 0 ≤ (k : Int) ∧ (k : Int) ≤ 63 ∧ 1 ≤ f k ∧ f k ≤ 1048576
        have := hf k
        omega
      · show -1 < (k : Int); omega
    · rw [List.append_nil]; exact ofN_up f hf k (by omega)
theorem ofN_look (f : Nat → Int) (h0 : ∀ i, 0 ≤ f i) : ∀ (k : Nat) (p : Nat), look (ofN f k) (p : Int) = if p < k then f p else 0
  | 0, p => by simp [ofN, look]
  | k + 1, p => by
    unfold ofN
    have ih := ofN_look f h0 k p
    split
    · by_cases hp : p = k
      · subst hp
        rw [look_append _ _ _ fun e he => by have := ofN_peer f p e he; omega, if_pos (by omega)]
        simp [look]
      · rw [look_front _ _ _ (by intro e he; rw [List.mem_singleton.1 he]; show ((k : Int)) ≠ (p : Int); omega), ih]
        by_cases h : p < k
        · rw [if_pos h, if_pos (by omega)]
        · rw [if_neg h, if_neg (by omega)]
    · rename_i hz
      rw [List.append_nil, ih]
      by_cases hp : p = k
      · subst hp
        rw [if_neg (by omega), if_pos (by omega)]
        have := h0 p
        omega
      · by_cases h : p < k
        · rw [if_pos h, if_pos (by omega)]
        · rw [if_neg h, if_neg (by omega)]
theorem ofN_len (f : Nat → Int) : ∀ k, (ofN f k).length ≤ k
  | 0 => Nat.le_refl _
  | k + 1 => by
    unfold ofN
    have := ofN_len f k
    rw [List.length_append]
    split <;> simp <;> omega

theorem ofN_is (f : Nat → Int) (h0 : ∀ i, 0 ≤ f i) (hf : ∀ i, f i ≤ 1048576) (l : List D) (hl : Up (-1) l) (n : Nat) (hn : n = 64) (h : ∀ p : Nat, p < 64 → look l (p : Int) = f p) : ofN f n = l := by
  have hu := ofN_up f hf n (by omega)
  refine vec_ext hu hl fun p => ?_
  by_cases hp : p < 0 ∨ 63 < p
  · rw [look_out p hu hp, look_out p hl hp]
  · obtain ⟨k, rfl⟩ : ∃ k : Nat, p = (k : Int) := ⟨p.toNat, by omega⟩
    rw [ofN_look f h0, if_pos (by omega), h k (by omega)]

/-- All counts, by the list and by the peers. -/
def total : List D → Int
  | [] => 0
  | d :: l => d.2 + total l
def sumTo (f : Nat → Int) : Nat → Int
  | 0 => 0
  | k + 1 => sumTo f k + f k
theorem sumTo_add (f g h : Nat → Int) (e : ∀ i, h i = f i + g i) : ∀ k, sumTo h k = sumTo f k + sumTo g k
  | 0 => rfl
  | k + 1 => by unfold sumTo; rw [sumTo_add f g h e k, e k]; omega
theorem sumTo_congr (f g : Nat → Int) (e : ∀ i, f i = g i) : ∀ k, sumTo f k = sumTo g k
  | 0 => rfl
  | k + 1 => by unfold sumTo; rw [sumTo_congr f g e k, e k]
theorem sumTo_zero : ∀ k, sumTo (fun _ => 0) k = 0
  | 0 => rfl
  | k + 1 => by unfold sumTo; rw [sumTo_zero k]; rfl
theorem sumTo_one (p : Nat) (c : Int) : ∀ k, sumTo (fun i => if p = i then c else 0) k = if p < k then c else 0
  | 0 => by simp [sumTo]
  | k + 1 => by
    unfold sumTo
    rw [sumTo_one p c k]
    by_cases h : p < k
    · rw [if_pos h, if_neg (by omega), if_pos (by omega)]; omega
    · rw [if_neg h]
      by_cases h2 : p = k
      · rw [if_pos h2, if_pos (by omega)]; omega
      · rw [if_neg h2, if_neg (by omega)]; omega
theorem total_sum : ∀ {l : List D} {q : Int}, Up q l → sumTo (fun i => look l (i : Int)) 64 = total l
  | [], _, _ => by
    rw [sumTo_congr (fun i => look [] (i : Int)) (fun _ => 0) (fun _ => rfl) 64, sumTo_zero]
    rfl
  | d :: l, q, h => by
    have h1 := h.1
    unfold Ok at h1
    obtain ⟨k, hk⟩ : ∃ k : Nat, d.1 = (k : Int) := ⟨d.1.toNat, by omega⟩
    rw [sumTo_add (fun i => if k = i then d.2 else 0) (fun i => look l (i : Int)) _ ?_ 64, sumTo_one, if_pos (by omega), total_sum h.2.2]
    · rfl
    · intro i
      show (if d.1 = (i : Int) then d.2 else look l (i : Int)) = _
      by_cases hi : k = i
      · subst hi
        rw [if_pos hk, if_pos rfl, look_low h.2.2 (by omega)]
        omega
      · rw [if_neg (by omega), if_neg hi]
        omega
theorem total_bd : ∀ {l : List D} {q : Int}, Up q l → 0 ≤ total l ∧ total l ≤ 1048576 * (l.length : Int)
  | [], _, _ => by simp [total]
  | d :: l, q, h => by
    have h1 := h.1
    unfold Ok at h1
    have := total_bd h.2.2
    unfold total
    rw [List.length_cons]
    omega
theorem sumTo_bd (f : Nat → Int) (h0 : ∀ i, 0 ≤ f i) (hf : ∀ i, f i ≤ 1048576) : ∀ k, 0 ≤ sumTo f k ∧ sumTo f k ≤ 1048576 * (k : Int)
  | 0 => by simp [sumTo]
  | k + 1 => by
    have := sumTo_bd f h0 hf k
    have a := h0 k
    have b := hf k
    unfold sumTo
    omega
def size (l : List D) : Int := if check l = 0 then total l else 0

theorem up_len : ∀ {l : List D} {q : Int}, Up q l → -1 ≤ q → (l.length : Int) ≤ 63 - q ∨ l = []
  | [], _, _, _ => .inr rfl
  | d :: l, q, h, hq => by
    have h1 := h.1
    unfold Ok at h1
    have h2 := h.2.1
    left
    rcases up_len h.2.2 (by omega) with h | h
    · rw [List.length_cons]; omega
    · subst h; rw [List.length_cons]; simp; omega
theorem vec_len {l : List D} (h : Up (-1) l) : l.length ≤ 64 := by
  rcases up_len h (by omega) with h | h
  · omega
  · subst h; simp

theorem total_join_meet {a b : List D} (ha : Up (-1) a) (hb : Up (-1) b) : total (join a b) + total (meet a b) = total a + total b := by
  rw [← total_sum (join_up ha hb), ← total_sum (meet_up ha hb), ← total_sum ha, ← total_sum hb, ← sumTo_add _ _ _ (fun _ => rfl), ← sumTo_add _ _ _ (fun _ => rfl)]
  refine sumTo_congr _ _ (fun i => ?_) 64
  show look (join a b) (i : Int) + look (meet a b) (i : Int) = look a (i : Int) + look b (i : Int)
  rw [join_look ha hb, meet_look ha hb]
  omega
theorem join_self {a : List D} (ha : Up (-1) a) : join a a = a := vec_ext (join_up ha ha) ha fun p => by rw [join_look ha ha]; omega
theorem join_comm {a b : List D} (ha : Up (-1) a) (hb : Up (-1) b) : join a b = join b a := vec_ext (join_up ha hb) (join_up hb ha) fun p => by rw [join_look ha hb, join_look hb ha]; omega
theorem join_assoc {a b c : List D} (ha : Up (-1) a) (hb : Up (-1) b) (hc : Up (-1) c) : join (join a b) c = join a (join b c) :=
  vec_ext (join_up (join_up ha hb) hc) (join_up ha (join_up hb hc)) fun p => by rw [join_look (join_up ha hb) hc, join_look ha hb, join_look ha (join_up hb hc), join_look hb hc]; omega
theorem meet_join {a b : List D} (ha : Up (-1) a) (hb : Up (-1) b) : meet (join a b) a = a :=
  vec_ext (meet_up (join_up ha hb) ha) ha fun p => by rw [meet_look (join_up ha hb) ha, join_look ha hb]; omega

theorem within_left {a b : List D} (ha : Up (-1) a) (hb : Up (-1) b) : within a (join a b) = true := (within_iff _ _).2 ⟨ha, join_up ha hb, fun p => by rw [join_look ha hb]; omega⟩
theorem within_right {a b : List D} (ha : Up (-1) a) (hb : Up (-1) b) : within b (join a b) = true := (within_iff _ _).2 ⟨hb, join_up ha hb, fun p => by rw [join_look ha hb]; omega⟩
theorem meet_left {a b : List D} (ha : Up (-1) a) (hb : Up (-1) b) : within (meet a b) a = true := (within_iff _ _).2 ⟨meet_up ha hb, ha, fun p => by rw [meet_look ha hb]; omega⟩
theorem meet_right {a b : List D} (ha : Up (-1) a) (hb : Up (-1) b) : within (meet a b) b = true := (within_iff _ _).2 ⟨meet_up ha hb, hb, fun p => by rw [meet_look ha hb]; omega⟩
theorem join_least {a b c : List D} (ha : Up (-1) a) (hb : Up (-1) b) (hc : Up (-1) c) : within (join a b) c = (within a c && within b c) := by
  rw [Bool.eq_iff_iff, Bool.and_eq_true, within_iff, within_iff, within_iff]
  constructor
  · rintro ⟨_, _, h⟩
    exact ⟨⟨ha, hc, fun p => by have := h p; rw [join_look ha hb] at this; omega⟩, ⟨hb, hc, fun p => by have := h p; rw [join_look ha hb] at this; omega⟩⟩
  · rintro ⟨⟨_, _, h1⟩, ⟨_, _, h2⟩⟩
    exact ⟨join_up ha hb, hc, fun p => by have := h1 p; have := h2 p; rw [join_look ha hb]; omega⟩
theorem meet_most {a b c : List D} (ha : Up (-1) a) (hb : Up (-1) b) (hc : Up (-1) c) : within c (meet a b) = (within c a && within c b) := by
  rw [Bool.eq_iff_iff, Bool.and_eq_true, within_iff, within_iff, within_iff]
  constructor
  · rintro ⟨_, _, h⟩
    exact ⟨⟨hc, ha, fun p => by have := h p; rw [meet_look ha hb] at this; omega⟩, ⟨hc, hb, fun p => by have := h p; rw [meet_look ha hb] at this; omega⟩⟩
  · rintro ⟨⟨_, _, h1⟩, ⟨_, _, h2⟩⟩
    exact ⟨hc, meet_up ha hb, fun p => by have := h1 p; have := h2 p; rw [meet_look ha hb]; omega⟩

/-- What Join and Meet answer, of whatever lists. -/
def joins (a b : List D) : List D := if check a = 0 ∧ check b = 0 then join a b else []
def meets (a b : List D) : List D := if check a = 0 ∧ check b = 0 then meet a b else []
theorem joins_ok (a b : List D) : check (joins a b) = 0 := by
  unfold joins
  split
  · rename_i h
    exact (check_zero _).2 (join_up ((check_zero a).1 h.1) ((check_zero b).1 h.2))
  · rfl
theorem meets_ok (a b : List D) : check (meets a b) = 0 := by
  unfold meets
  split
  · rename_i h
    exact (check_zero _).2 (meet_up ((check_zero a).1 h.1) ((check_zero b).1 h.2))
  · rfl
theorem joins_len (a b : List D) : (joins a b).length ≤ 64 := vec_len ((check_zero _).1 (joins_ok a b))
theorem meets_len (a b : List D) : (meets a b).length ≤ 64 := vec_len ((check_zero _).1 (meets_ok a b))

theorem get_bd (l : List D) (p : Int) : 0 ≤ get l p ∧ get l p ≤ 1048576 := by
  unfold get
  split
  · rename_i h
    exact look_bd p ((check_zero l).1 h)
  · omega

theorem ref_join (a b : List D) (h : check a = 0 ∧ check b = 0) : ofN (fun p => max (get a (p : Int)) (get b (p : Int))) 64 = joins a b := by
  have ha := (check_zero a).1 h.1
  have hb := (check_zero b).1 h.2
  refine ofN_is _ (fun i => ?_) (fun i => ?_) _ ((check_zero _).1 (joins_ok a b)) 64 rfl fun p hp => ?_
  · have := get_bd a (i : Int); omega
  · have := get_bd a (i : Int); have := get_bd b (i : Int); omega
  · unfold joins
    rw [if_pos h, join_look ha hb, get_vec ha, get_vec hb]
theorem ref_meet (a b : List D) : ofN (fun p => min (get a (p : Int)) (get b (p : Int))) 64 = meets a b := by
  refine ofN_is _ (fun i => ?_) (fun i => ?_) _ ((check_zero _).1 (meets_ok a b)) 64 rfl fun p hp => ?_
  · have := get_bd a (i : Int); have := get_bd b (i : Int); omega
  · have := get_bd a (i : Int); omega
  · unfold meets
    split
    · rename_i h
      have ha := (check_zero a).1 h.1
      have hb := (check_zero b).1 h.2
      rw [meet_look ha hb, get_vec ha, get_vec hb]
    · rename_i h
      show (0 : Int) = min (get a (p : Int)) (get b (p : Int))
      have h1 := get_bd a (p : Int)
      have h2 := get_bd b (p : Int)
      by_cases h3 : check a = 0
      · have h4 : ¬ check b = 0 := fun h4 => h ⟨h3, h4⟩
        rw [get_none h4] at h2 ⊢
        omega
      · rw [get_none h3] at h1 ⊢
        omega
theorem ref_size (l : List D) : sumTo (fun i => get l (i : Int)) 64 = size l := by
  unfold size
  by_cases h : check l = 0
  · rw [if_pos h, ← total_sum ((check_zero l).1 h)]
    exact sumTo_congr _ _ (fun i => get_vec ((check_zero l).1 h) _) 64
  · rw [if_neg h, ← sumTo_zero 64]
    exact sumTo_congr _ _ (fun i => get_none h _) 64

/-- One round of going through both. -/
theorem sides_left (x : D) (a b : List D) (h : x.1 < first b) : sides (x :: a) b = (x, (x.1, 0)) :: sides a b := by
  cases b with
  | nil => rw [sides]
  | cons y b =>
    have h' : x.1 < y.1 := h
    rw [sides, if_pos h']
theorem sides_right (y : D) (a b : List D) (h : y.1 < first a) : sides a (y :: b) = ((y.1, 0), y) :: sides a b := by
  cases a with
  | nil => rw [sides]
  | cons x a =>
    have h' : y.1 < x.1 := h
    rw [sides, if_neg (by omega), if_pos h']
theorem sides_both (x y : D) (a b : List D) (h : x.1 = y.1) : sides (x :: a) (y :: b) = (x, y) :: sides a b := by
  rw [sides, if_neg (by omega), if_neg (by omega)]

def exA : List D := [(0, 2), (3, 1)]
def exB : List D := [(0, 1), (5, 4)]
theorem ex_sides : sides exA exB = [((0, 2), (0, 1)), ((3, 1), (3, 0)), ((5, 0), (5, 4))] := by
  unfold exA exB
  rw [sides_both (0, 2) (0, 1) _ _ rfl, sides, if_pos (by decide), sides, sides]
theorem ex_sides' : sides exB exA = [((0, 1), (0, 2)), ((3, 0), (3, 1)), ((5, 4), (5, 0))] := by
  unfold exA exB
  rw [sides_both (0, 1) (0, 2) _ _ rfl, sides, if_neg (by decide), if_pos (by decide), sides, sides]
theorem ex_join : joins exA exB = [(0, 2), (3, 1), (5, 4)] := by
  unfold joins join
  rw [if_pos (by decide), ex_sides]
  decide
theorem ex_meet : meets exA exB = [(0, 1)] := by
  unfold meets meet
  rw [if_pos (by decide), ex_sides]
  decide
theorem ex_apart : compare exA exB = 3 := by
  unfold compare within
  rw [ex_sides, ex_sides']
  decide
end Go.Proofs.YtebjlmnhpfoglaaGreatDoor.Vc

/-
  What the leaves answer: why a dot may not be, and which peer a list begins with; a slice of dots in memory.
-/

namespace Go.Proofs.YtebjlmnhpfoglaaGreatDoor
open Go.RowKit

theorem hide {p : Prop} (h : p) : Hid p := h
theorem unhide {p : Prop} (h : Hid p) : p := h
theorem ret_int {a b : Int} (h : a = b) : Ending.returned (.int .i64 a) = .returned (.int .i64 b) := by rw [h]
theorem ret_bool {a b : Bool} (h : a = b) : Ending.returned (.bool a) = .returned (.bool b) := by rw [h]
theorem below_grow {B : Nat} {a b c : World} (h : Below B a b) (hB : B ≤ a.heap.size) (h2 : Below b.heap.size b c) : Below B a c :=
  h.trans (h2.mono (Nat.le_trans hB h.size))

/-- A dot as a value. -/
def dotV (d : Vc.D) : Value := .agg #[.int .i64 d.1, .int .i64 d.2]

/-- A slice of dots, wherever it lies; nothing is asked of one that has none. -/
def Sl (W : World) (a : Option Addr) (ds : List Vc.D) : Prop :=
  0 < ds.length → ∃ g o, a = some ⟨g, o, none⟩ ∧ g < W.heap.size ∧ ∀ (j : Nat) (d : Vc.D), ds[j]? = some d → W.cell? ⟨g, o + j * 2, none⟩ = some (.int .i64 d.1) ∧ W.cell? ⟨g, o + j * 2 + 1, none⟩ = some (.int .i64 d.2)

theorem Sl.below {W W' : World} {n : Nat} {a : Option Addr} {ds : List Vc.D} (h : Sl W a ds) (hb : Below n W W') (hn : ∀ g o, a = some ⟨g, o, none⟩ → g < n) : Sl W' a ds := fun h0 => by
  obtain ⟨g, o, e, hg, hc⟩ := h h0
  refine ⟨g, o, e, Nat.lt_of_lt_of_le hg hb.size, fun j d hj => ?_⟩
  rw [hb.cell (p := ⟨g, o + j * 2, none⟩) (hn g o e), hb.cell (p := ⟨g, o + j * 2 + 1, none⟩) (hn g o e)]
  exact hc j d hj
theorem Sl.after {W W' : World} {a : Option Addr} {ds : List Vc.D} (h : Sl W a ds) (hb : Below W.heap.size W W') : Sl W' a ds := fun h0 => by
  obtain ⟨g, o, e, hg, hc⟩ := h h0
  refine ⟨g, o, e, Nat.lt_of_lt_of_le hg hb.size, fun j d hj => ?_⟩
  rw [hb.cell (p := ⟨g, o + j * 2, none⟩) hg, hb.cell (p := ⟨g, o + j * 2 + 1, none⟩) hg]
  exact hc j d hj
theorem Sl.drewN {W : World} {a : Option Addr} {ds : List Vc.D} (h : Sl W a ds) (n : Nat) : Sl (W.drewN n) a ds := h
theorem Sl.none (W : World) (a : Option Addr) : Sl W a [] := fun h => absurd h (Nat.lt_irrefl _)

set_option maxRecDepth 100000 in
set_option maxHeartbeats 400000 in
theorem dot_any (p c : Int) (w : World) :
    Calls Tryz.prog 120 #[.agg #[.int .i64 p, .int .i64 c]] w fun e w' => e = .returned (.int .i64 (Vc.dotErr (p, c))) ∧ Below w.heap.size w w' := by
  unfold Vc.dotErr
  go_enter Tryz.func120, Tryz.ntmps120
  go_wp2
  all_goals go_ret
  all_goals refine ⟨ret_int ?_, (Below.refl _ _).alloc (Nat.le_refl _) _⟩
  all_goals (first | omega | (split <;> omega))

set_option maxRecDepth 100000 in
set_option maxHeartbeats 400000 in
theorem refDot_any (p c : Int) (w : World) :
    Calls Tryz.prog 103 #[.agg #[.int .i64 p, .int .i64 c]] w fun e w' => e = .returned (.int .i64 (Vc.dotErr (p, c))) ∧ Below w.heap.size w w' := by
  unfold Vc.dotErr
  go_enter Tryz.func103, Tryz.ntmps103
  go_wp2
  all_goals go_ret
  all_goals refine ⟨ret_int ?_, (Below.refl _ _).alloc (Nat.le_refl _) _⟩
  all_goals (first | omega | (split <;> omega))

set_option maxRecDepth 100000 in
set_option maxHeartbeats 400000 in
theorem first_any (a : Option Addr) (cap : Nat) (ds : List Vc.D) (hb : ds.length ≤ 9223372036854775807) (w : World) (h : Sl w a ds) :
    Calls Tryz.prog 160 #[.slice a ds.length cap] w fun e w' => e = .returned (.int .i64 (Vc.first ds)) ∧ w' = w := by
  cases ds with
  | nil =>
    go_enter Tryz.func160, Tryz.ntmps160
    go_wp2
    go_ret
    exact ⟨rfl, rfl⟩
  | cons d l =>
    obtain ⟨g, o, rfl, hg, hc⟩ := h (by simp)
    have c0 : w.cell? ⟨g, o, none⟩ = some (.int .i64 d.1) := (hc 0 d rfl).1
    have HF := hide (show Vc.first (d :: l) = d.1 from rfl)
    obtain ⟨F, hF⟩ : ∃ F, Vc.first (d :: l) = F := ⟨_, rfl⟩
    obtain ⟨n, hn⟩ : ∃ n, (d :: l).length = n := ⟨_, rfl⟩
    have h0 : 0 < n := by rw [← hn]; simp
    rw [hn] at hb ⊢
    rw [hF] at HF ⊢
    have e : F = d.1 := unhide HF
    subst e
    clear h hc HF hF hn
    go_enter Tryz.func160, Tryz.ntmps160
    go_wp2
    go_ret
    exact ⟨rfl, rfl⟩
end Go.Proofs.YtebjlmnhpfoglaaGreatDoor

/-
  What the Go functions count.sizeAhead, count.numberOf, count.Take and the document's Take answer, for every string: they only compute.
-/

namespace Go.Proofs.YtebjlmnhpfoglaaGreatDoor
open Go.RowKit

theorem at_data (s : ByteArray) (k : Nat) (h : k < s.size) : s.data.toList[k]?.getD 0 = s[k] := by
  have h' : k < s.data.toList.length := by simpa using h
  rw [List.getElem?_eq_getElem h']
  rfl

theorem ret2_int {k j : IntKind} {a b c d : Int} (h : a = b) (h' : c = d) : Ending.returned (.tuple #[.int k a, .int j c]) = .returned (.tuple #[.int k b, .int j d]) := by rw [h, h']

def aheadF (l : List UInt8) : Int × Int :=
  if Cnt.fx l < 5 then if Cnt.fx l < l.length then ((Cnt.fx l + 1 : Nat), 0) else (0, 5) else (0, 2)

theorem aheadF_yes (l : List UInt8) (k : Nat) (h : Cnt.fx l = k) (h5 : k < 5) (hl : k < l.length) : aheadF l = ((k : Int) + 1, 0) := by
  unfold aheadF; rw [h, if_pos h5, if_pos hl]; rfl
theorem aheadF_short (l : List UInt8) (h : Cnt.fx l = l.length) (h5 : l.length < 5) : aheadF l = (0, 5) := by
  unfold aheadF; rw [h, if_pos h5, if_neg (by omega)]
theorem aheadF_long (l : List UInt8) (h : 5 ≤ Cnt.fx l) : aheadF l = (0, 2) := by
  unfold aheadF; rw [if_neg (by omega)]

theorem ext_data (s : ByteArray) (k : Nat) : (s.extract 0 k).data.toList = s.data.toList.take k := by simp
theorem ext_size (s : ByteArray) (k : Nat) (h : k ≤ s.size) : (s.extract 0 k).size = k := by simp; omega

theorem takeF_of (l : List UInt8) (a b c : Int) (h : Cnt.takeF l = (a, b, c)) : Ending.returned (.tuple #[.int .i64 a, .int .i64 b, .int .i64 c]) = .returned (.tuple #[.int .i64 (Cnt.takeF l).1, .int .i64 (Cnt.takeF l).2.1, .int .i64 (Cnt.takeF l).2.2]) := by rw [h]
theorem takeF_short (l : List UInt8) (h : Cnt.fx l = l.length) (h5 : l.length < 5) : Cnt.takeF l = (0, 0, 5) := by
  unfold Cnt.takeF; rw [h, if_pos h5, if_neg (by omega)]
theorem takeF_long (l : List UInt8) (h : 5 ≤ Cnt.fx l) : Cnt.takeF l = (0, 0, 2) := by
  unfold Cnt.takeF; rw [if_neg (by omega)]
theorem takeF_form (l : List UInt8) (k : Nat) (h : Cnt.fx l = k) (h5 : k < 5) (hl : k < l.length) (hz : 0 < k ∧ (l[k]?.getD 0).toNat = 0) : Cnt.takeF l = (0, 0, 7) := by
  unfold Cnt.takeF; rw [h, if_pos h5, if_pos hl, if_pos hz]
theorem takeF_great (l : List UInt8) (k : Nat) (h : Cnt.fx l = k) (h5 : k < 5) (hl : k < l.length) (hz : ¬ (0 < k ∧ (l[k]?.getD 0).toNat = 0)) (hm : 1073741824 < Cnt.num (l.take (k + 1))) : Cnt.takeF l = (0, 0, 2) := by
  unfold Cnt.takeF; rw [h, if_pos h5, if_pos hl, if_neg hz, if_pos hm]
theorem takeF_good (l : List UInt8) (k : Nat) (h : Cnt.fx l = k) (h5 : k < 5) (hl : k < l.length) (hz : ¬ (0 < k ∧ (l[k]?.getD 0).toNat = 0)) (hm : ¬ 1073741824 < Cnt.num (l.take (k + 1))) : Cnt.takeF l = ((Cnt.num (l.take (k + 1)) : Int), (k : Int) + 1, 0) := by
  unfold Cnt.takeF; rw [h, if_pos h5, if_pos hl, if_neg hz, if_neg hm]; rfl

end Go.Proofs.YtebjlmnhpfoglaaGreatDoor

/-
  What the Go functions count.bytesOf (the iterator), count.Size and count.Put answer, for every number: the bytes, and how many; nothing that lay in memory turns.
-/

namespace Go.Proofs.YtebjlmnhpfoglaaGreatDoor
open Go.RowKit Go.Shelf

attribute [local go_sem] Oper.semAt_some

set_option maxRecDepth 100000 in
set_option maxHeartbeats 1000000 in
theorem bytes1_in (F : Fence) (n : Nat) (h17 : F.fn 177) (hro : F.round = none) (hn : 1 ≤ n) (l Bn n₀ : Nat) (v : Int) (J Jx : List UInt8 → World → Prop)
    (hY : ∀ pre x W, J pre W → pre.length < 5 → YieldAt F (n - 1) Tryz.prog l #[.int .u8 (x.toNat : Int)] W fun e W' =>
      (e = .returned (.bool true) ∧ J (pre ++ [x]) W' ∧ Below n₀ W W') ∨ (e = .returned (.bool false) ∧ Jx (pre ++ [x]) W'))
    (W : World) (hBn : W.cell? ⟨Bn, 0, none⟩ = some (.int .i64 v)) (h0 : J [] W) :
    CallsIn F n Tryz.prog 177 #[.func (.yield l) #[] #[], .pointer (some ⟨Bn, 0, none⟩)] W fun e W' => (∃ v, e = .returned v) ∧
      ((∃ ys, ys = Cnt.putL v ∧ J ys W') ∨ (∃ pre, pre <+: Cnt.putL v ∧ Jx pre W')) := by
  have HY := hide hY
  clear hY
  have hlen5 := Cnt.putL_len v
  by_cases hneg : v < 0
  · have HP := hide (Cnt.putL_no v (.inl hneg))
    refine callsIn_of_wp Tryz.func177 rfl h17 ?_ hro
    simp only [Tryz.ntmps177, List.size_toArray, List.length_cons, List.length_nil, Nat.reduceAdd, Nat.reduceSub, Array.replicate_succ, Array.replicate_zero, List.push_toArray, List.append_toArray, List.nil_append, List.cons_append]
    gi_wp2
    refine bodyPost_ret (results_none rfl _ _ _) rfl ?_
    refine ⟨⟨_, rfl⟩, .inl ?_⟩
    first | exact ⟨[], (unhide HP).symm, h0⟩ | (rw [unhide HP]; exact h0)
  · by_cases hbig : 1073741824 < v
    · have HP := hide (Cnt.putL_no v (.inr hbig))
      refine callsIn_of_wp Tryz.func177 rfl h17 ?_ hro
      simp only [Tryz.ntmps177, List.size_toArray, List.length_cons, List.length_nil, Nat.reduceAdd, Nat.reduceSub, Array.replicate_succ, Array.replicate_zero, List.push_toArray, List.append_toArray, List.nil_append, List.cons_append]
      gi_wp2
      refine bodyPost_ret (results_none rfl _ _ _) rfl ?_
      refine ⟨⟨_, rfl⟩, .inl ?_⟩
      first | exact ⟨[], (unhide HP).symm, h0⟩ | (rw [unhide HP]; exact h0)
    · refine callsIn_of_wp Tryz.func177 rfl h17 ?_ hro
      simp only [Tryz.ntmps177, List.size_toArray, List.length_cons, List.length_nil, Nat.reduceAdd, Nat.reduceSub, Array.replicate_succ, Array.replicate_zero, List.push_toArray, List.append_toArray, List.nil_append, List.cons_append]
      gi_wp2
      gi_loopw [3] (fun p wr => ∃ (pre : List UInt8) (r : Int), p = .int .i64 r ∧ 0 ≤ r ∧ r ≤ 1073741824 ∧ Cnt.putL v = pre ++ Cnt.putL r ∧ J pre wr)
        (fun p _ => (intOf p).toNat)
      case atStart =>
        exact ⟨[], v, rfl, by omega, by omega, rfl, h0⟩
      case round =>
        obtain ⟨pre, r, rfl, hr0, hr1, hx, hJs⟩ := hrel
        have HX := hide hx
        have hl : (Cnt.putL v).length = pre.length + (Cnt.putL r).length := by rw [hx]; simp
        clear hx
        by_cases hge : 128 ≤ r
        · have hb := Cnt.putL_big r hge hr1
          obtain ⟨x, hxx⟩ : ∃ x, UInt8.ofNat (r.toNat % 128 + 128) = x := ⟨_, rfl⟩
          have hxi : (x.toNat : Int) = r % 128 + 128 := by rw [← hxx, Cnt.u8_lt (by omega)]; omega
          rw [hxx] at hb
          have hl1 : (Cnt.putL r).length = (Cnt.putL (r / 128)).length + 1 := by rw [hb]; simp
          have HBb := hide hb
          have HXI := hide hxi
          clear hb hxx hxi
          have hlt5 : pre.length < 5 := by omega
          clear hl hl1
          obtain ⟨fn, tmps, assign, body, hy, hR⟩ := (unhide HY) pre x wr hJs hlt5
          rw [unhide HXI] at hy
          gi_wp2
          refine hR.mono ?_
          rintro e W3 (⟨rfl, hJ3, hk3⟩ | ⟨rfl, hJx3⟩)
          · gi_wp2
            go_roundw
            case rel => exact ⟨pre ++ [x], r / 128, rfl, by omega, by omega, by rw [unhide HX, unhide HBb]; simp, hJ3⟩
            case measure => simp [intOf]; omega
          · gi_wp2
            refine bodyPost_ret (results_none rfl _ _ _) rfl ?_
            exact ⟨⟨_, rfl⟩, .inr ⟨pre ++ [x], ⟨Cnt.putL (r / 128), by rw [unhide HX, unhide HBb]; simp⟩, hJx3⟩⟩
        · have hb := Cnt.putL_small r hr0 (by omega)
          obtain ⟨x, hxx⟩ : ∃ x, UInt8.ofNat r.toNat = x := ⟨_, rfl⟩
          have hxi : (x.toNat : Int) = r := by rw [← hxx, Cnt.u8_lt (by omega)]; omega
          rw [hxx] at hb
          have hl1 : (Cnt.putL r).length = 1 := by rw [hb]; simp
          have HBb := hide hb
          have HXI := hide hxi
          clear hb hxx hxi
          have hlt5 : pre.length < 5 := by omega
          clear hl hl1
          obtain ⟨fn, tmps, assign, body, hy, hR⟩ := (unhide HY) pre x wr hJs hlt5
          rw [unhide HXI] at hy
          gi_wp2
          refine hR.mono ?_
          rintro e W3 (⟨rfl, hJ3, hk3⟩ | ⟨rfl, hJx3⟩)
          · gi_wp2
            go_end0
            exact ⟨⟨_, rfl⟩, .inl ⟨pre ++ [x], by rw [unhide HX, unhide HBb], hJ3⟩⟩
          · gi_wp2
            go_end0
            exact ⟨⟨_, rfl⟩, .inr ⟨pre ++ [x], ⟨[], by rw [unhide HX, unhide HBb]; simp⟩, hJx3⟩⟩

set_option maxHeartbeats 1000000 in
theorem bytesOf_in (F : Fence) (n : Nat) (h14 : F.fn 171) (hro : F.round = none) (v : Int) (w : World) :
    CallsIn F n Tryz.prog 171 #[.int .i64 v] w fun e w' => e = .returned (.func (.func 177) #[] #[.pointer (some ⟨w.heap.size, 0, none⟩)]) ∧ w' = w.alloc (.cells #[.int .i64 v] 3) := by
  refine callsIn_of_wp Tryz.func171 rfl h14 ?_ hro
  simp only [Tryz.ntmps171, List.size_toArray, List.length_cons, List.length_nil, Nat.reduceAdd, Nat.reduceSub, Array.replicate_succ, Array.replicate_zero, List.push_toArray, List.append_toArray, List.nil_append, List.cons_append]
  gi_wp2
  go_ret
  exact ⟨rfl, rfl⟩

theorem bytes_stops (F : Fence) (n : Nat) (h17 : F.fn 177) (hro : F.round = none) (hn : 1 ≤ n) (Bn n₀ : Nat) (v : Int) (w : World) (hBn : Bn < w.heap.size)
    (hc : w.cell? ⟨Bn, 0, none⟩ = some (.int .i64 v)) :
    SeqStopsK F n Tryz.prog 177 #[.pointer (some ⟨Bn, 0, none⟩)] (fun x : UInt8 => #[Value.int .u8 (x.toNat : Int)]) (Below n₀) (fun ys => ys = Cnt.putL v) (fun pre => pre <+: Cnt.putL v) 5 w := fun l J Jx W hW _ _ hY h0 =>
  bytes1_in F n h17 hro hn l Bn n₀ v J Jx hY W ((hW.cell (p := ⟨Bn, 0, none⟩) hBn).trans hc) h0

theorem info5 : (Tryz.prog.info? 5).map (fun i => (i.zero, i.size, i.bytes)) = some (some (.int .u8 0), 1, 1) := by kernel_rfl

def byteVal (b : UInt8) : Value := .int .u8 (b.toNat : Int)

/-- 'string(put)', where put owns the bytes. -/
theorem run_string_own {W : World} {base k : Nat} {v : Value} {bs : List UInt8} (h : W.ownsRow base 5 1 v k (bs.map byteVal)) :
    (convert 69 9 v).run Tryz.prog W = .ok (.string ⟨bs.toArray⟩) W := by
  rcases h.2 with ⟨rfl, h0⟩ | ⟨g, cap, cur, rfl, _, hg, hle, _, hsz, htk⟩
  · have hl := h.1
    rw [h0] at hl
    have : bs = [] := by simpa using hl
    subst this
    exact run_convert_bytes_nil W 69 5 Tryz.underlying69 Tryz.underlying5 0 0 9 Tryz.underlying9
  · have hl := h.1
    have hk : k = bs.length := by simpa using hl.symm
    subst hk
    refine run_convert_bytes_back W 69 9 5 ⟨g, 0, none⟩ cap bs Tryz.underlying69 Tryz.underlying5 Tryz.underlying9 fun j hj => ?_
    have e1 : cur.toList[j]? = some (byteVal bs[j]) := by
      have := congrArg (fun l => l[j]?) htk
      simp only [Nat.mul_one] at this
      rw [List.getElem?_take, if_pos hj] at this
      rw [this, List.getElem?_map, List.getElem?_eq_getElem hj]
      rfl
    have e2 : W.cell? ⟨g, j, none⟩ = cur[j]? := by
      simp [World.cell?, hg]
    have e3 : (⟨g, 0, none⟩ : Addr).add j = ⟨g, j, none⟩ := by simp [Addr.add]; exact fun h => h.symm
    rw [e3, e2]
    simpa [byteVal] using e1

set_option maxRecDepth 100000 in
set_option maxHeartbeats 2000000 in
theorem Put_in (F : Fence) (n : Nat) (h8 : F.fn 152) (h14 : F.fn 171) (h17 : F.fn 177) (hro : F.round = none) (hn : 3 ≤ n) (v : Int) (w : World) :
    CallsIn F n Tryz.prog 152 #[.int .i64 v] w fun e W' => e = .returned (.string ⟨(Cnt.putL v).toArray⟩) ∧ Below w.heap.size w W' := by
  have h1 : 1 ≤ n := by omega
  obtain ⟨i0, hi, hz0, hz1, hz2⟩ := info_parts info5
  refine callsIn_of_wp_marks Tryz.func152 rfl h8 ?_ hro
  simp only [Tryz.ntmps152, List.size_toArray, List.length_cons, List.length_nil, Nat.reduceAdd, Nat.reduceSub, Array.replicate_succ, Array.replicate_zero, List.push_toArray, List.append_toArray, List.nil_append, List.cons_append]
  gi_wp2_with (first
    | (gi_at_make; refine wpListIn_make_own _ rfl _ _ 69 rfl w.heap.size 5 i0 (.int .u8 0) 1 Tryz.underlying69 hi hz0 hz1 _ _ _ 5 rfl rfl rfl (by rw [hz2]; decide) (by decide) (Nat.le_refl _) ?_; intro w1 hown1 hgrow1)
    | (gi_at_call 171; refine (bytesOf_in F (n - 1) h14 hro _ _).mono ?_; rintro e w' ⟨rfl, rfl⟩))
  have hB1 : Below w.heap.size w w1 := (Below.refl _ w).grown hgrow1 (Nat.le_refl _) (fun k e => by cases e)
  have hsz := hB1.size
  have bO := Boxed.new w1 69 (.slice (some ⟨w.heap.size, 0, none⟩) 0 5)
  have bN := Boxed.new (w1.alloc (.cells #[.slice (some ⟨w.heap.size, 0, none⟩) 0 5] 69)) 3 (.int .i64 v)
  rw [World.size_alloc] at bN
  have hB0 : Below w.heap.size w ((w1.alloc (.cells #[.slice (some ⟨w.heap.size, 0, none⟩) 0 5] 69)).alloc (.cells #[.int .i64 v] 3)) := (hB1.alloc hsz _).alloc (by simp; omega) _
  refine wpIn_rangeFunc_ownG hro h1 (gf := 177) (lb := #[.pointer (some ⟨w1.heap.size + 1, 0, none⟩)]) rfl h17 (enters_of Tryz.func177 (by kernel_rfl) rfl)
    (bytes_stops F (n - 1) h17 hro (by omega) (w1.heap.size + 1) w.heap.size v _ (by simp) bN.cell) belowK_t (belowK_b (by simp; omega)) (Below.refl _ _) (fun _ => rfl)
    (fun pre W => (∃ u, Boxed W w1.heap.size 69 u ∧ W.ownsRow w.heap.size 5 1 u pre.length (pre.map byteVal) ∧ True) ∧ Below w.heap.size w W)
    (fun _ _ _ => False)
    (OwnFrom.and (Own.from (holdsRow_own w.heap.size w1.heap.size 69 5 1 (fun pre : List UInt8 => pre.length) (fun pre => pre.map byteVal) (fun _ _ => True)) _) (ownFrom_below (Nat.le_refl _) (by simp; omega)))
    (fun _ _ _ _ _ hs _ _ => hs)
    ⟨⟨_, bO.alloc _, (hown1.alloc _).alloc _, trivial⟩, hB0⟩
    (fun x => { tmps := #[.int .i64 v, undef, .string ⟨#[]⟩, .pointer (some ⟨w1.heap.size, 0, none⟩), .int .u8 (x.toNat : Int), .slice (some ⟨w.heap.size, 0, none⟩) 0 5, .int .i64 v, .func (.func 177) #[] #[.pointer (some ⟨w1.heap.size + 1, 0, none⟩)], .int .u8 (x.toNat : Int), undef, undef, undef, undef, undef, undef], defers := [] }) ?assign ?body ?done ?stop
  case assign =>
    intro l x W K hK
    gi_wp2
    exact hK
  case body =>
    rintro l pre x W ⟨⟨u, hv, hrow, _⟩, hB⟩ hlt
    have hc := hv.cell
    gi_wp2_with (gi_at_builtin; refine wpListIn_append_own _ rfl _ _ 69 rfl w.heap.size 5 i0 (.int .u8 0) 1 1 Tryz.underlying69 hi hz0 hz1 hz2 rfl (by decide) _ _ _ rfl (hrow.alloc _) ⟨W.heap.size, 0, none⟩ 1 1 [byteVal x] rfl rfl (cell_one_new _ _ _) (by simp [Value.oneCell', byteVal]) (by unfold maxLen; omega) (by omega) (by have := hB.size; simp; omega) ?_; intro v' w2 hown' hgrow _; obtain ⟨g', cap', rfl⟩ := ownsRow_succ hown'; obtain ⟨hv1, hv2, hr2, hk2, hb2⟩ := hv.appended (by decide) hrow hB.size hsz hown' hgrow; have hc1 := hv1.cell; have hf1 := hv1.frozen)
    exact ⟨hk2.from _, hb2, ⟨_, hv2, by simpa using hr2, trivial⟩, hB.trans hb2⟩
  case done =>
    rintro D ys W hD rfl ⟨⟨u, hv, hrow, _⟩, hB⟩ hK
    have hc := hv.cell
    have hcv := run_string_own hrow
    gi_wp2
    refine ⟨by simp, .inl ⟨_, _, rfl, run_takeDeferred hK, ?_⟩⟩
    exact ⟨_, results_tmp rfl _ _ _, rfl, hB.trans (belowK_b (w := w) (Nat.le_refl _) W D _ _ (by simp at hD; omega) hK rfl rfl)⟩
  case stop =>
    rintro D c pre W _ _ h _
    exact h.elim

theorem Put_any (v : Int) (w : World) : Calls Tryz.prog 152 #[.int .i64 v] w fun e W' => e = .returned (.string ⟨(Cnt.putL v).toArray⟩) ∧ Below w.heap.size w W' :=
  callsIn_wide.1 (Put_in Fence.wide 3 trivial trivial trivial rfl (Nat.le_refl _) v w)
end Go.Proofs.YtebjlmnhpfoglaaGreatDoor

/-
  What the document's Put answers, for every number: the same bytes as the program's; nothing that lay in memory turns.
-/

namespace Go.Proofs.YtebjlmnhpfoglaaGreatDoor
open Go.RowKit

theorem bcell {W w1 : World} (hb : Below W.heap.size W w1) : (∀ b o, b < W.heap.size → w1.cell? ⟨b, o, none⟩ = W.cell? ⟨b, o, none⟩) ∧ (∀ b o, b < W.heap.size → w1.frozen? ⟨b, o, none⟩ = W.frozen? ⟨b, o, none⟩) :=
  ⟨fun b o h => hb.cell (p := ⟨b, o, none⟩) h, fun b o h => hb.frozen (p := ⟨b, o, none⟩) h⟩

theorem wrap_smallC {m : Int} (h0 : 0 ≤ m) (h1 : m < 4611686018427387904) : IntKind.i64.wrap m = m := by simp [IntKind.wrap, IntKind.signed, IntKind.bits]; omega
theorem wrap_byte {m : Int} (h0 : 0 ≤ m) (h1 : m < 256) : IntKind.u8.wrap m = m := by simp [IntKind.wrap, IntKind.signed, IntKind.bits]; omega

theorem cat_small (x : UInt8) (m : Int) : ¬ (ByteArray.size ⟨#[x]⟩ + ByteArray.size ⟨(Cnt.putL m).toArray⟩ > 9223372036854775807) := by
  have := Cnt.putL_len m
  simp [ByteArray.size]
  omega

theorem ret_cat {x : UInt8} {m : Int} {l : List UInt8} (h : l = x :: Cnt.putL m) :
    Ending.returned (.string (⟨#[x]⟩ ++ ⟨(Cnt.putL m).toArray⟩)) = Ending.returned (.string ⟨l.toArray⟩) := by
  rw [h]
  exact congrArg (fun b => Ending.returned (.string b)) (ByteArray.mk_append_mk [x] (Cnt.putL m))

theorem run_string_one (x : UInt8) (m : Int) (hm : (x.toNat : Int) = m) (b : Nat) (W : World) (h : W.cell? ⟨b, 0, none⟩ = some (.int .u8 m)) :
    (convert 69 9 (.slice (some ⟨b, 0, none⟩) 1 1)).run Tryz.prog W = .ok (.string ⟨#[x]⟩) W := by
  refine run_convert_bytes_back W 69 9 5 ⟨b, 0, none⟩ 1 [x] Tryz.underlying69 Tryz.underlying5 Tryz.underlying9 fun j hj => ?_
  obtain rfl : j = 0 := by simpa using hj
  rw [← hm] at h
  simpa [Addr.add] using h

set_option maxRecDepth 100000 in
set_option maxHeartbeats 1000000 in
theorem refPut_any (k : Nat) : ∀ (n : Int) (w : World), n < 128 ^ k → 0 < k →
    Calls Tryz.prog 118 #[.int .i64 n] w fun e w' => e = .returned (.string ⟨(Cnt.putL n).toArray⟩) ∧ Below w.heap.size w w' := by
  induction k with
  | zero => intro n w _ h; omega
  | succ k ih =>
    intro n w hk _
    have IH := hide ih
    have HK := hide hk
    clear ih hk
    by_cases hneg : n < 0
    · have HP := hide (Cnt.putL_no n (.inl hneg))
      go_enter Tryz.func118, Tryz.ntmps118
      go_wp2_with fail
      go_ret
      exact ⟨by rw [unhide HP]; rfl, Below.refl _ _⟩
    · by_cases hbig : 1073741824 < n
      · have HP := hide (Cnt.putL_no n (.inr hbig))
        go_enter Tryz.func118, Tryz.ntmps118
        go_wp2_with fail
        go_ret
        exact ⟨by rw [unhide HP]; rfl, Below.refl _ _⟩
      · by_cases hsm : n < 128
        · have hp := Cnt.putL_small n (by omega) hsm
          obtain ⟨x, hx⟩ : ∃ x, UInt8.ofNat n.toNat = x := ⟨_, rfl⟩
          have hxi : (x.toNat : Int) = n := by rw [← hx, Cnt.u8_lt (by omega)]; omega
          rw [hx] at hp
          have HP := hide hp
          have hcv := run_string_one x n hxi
          clear hp hx hxi
          go_enter Tryz.func118, Tryz.ntmps118
          go_wp2_with fail
          go_ret
          exact ⟨by rw [unhide HP]; rfl, (Below.refl _ _).alloc (Nat.le_refl _) _⟩
        · have hp := Cnt.putL_big n (by omega) (by omega)
          obtain ⟨x, hx⟩ : ∃ x, UInt8.ofNat (n.toNat % 128 + 128) = x := ⟨_, rfl⟩
          have hxi : (x.toNat : Int) = n % 128 + 128 := by rw [← hx, Cnt.u8_lt (by omega)]; omega
          rw [hx] at hp
          have HP := hide hp
          have hcv := run_string_one x (n % 128 + 128) hxi
          have hd : n / 128 < 128 ^ k ∧ 0 < k := by
            have h := unhide HK
            rw [Int.pow_succ] at h
            refine ⟨by omega, ?_⟩
            rcases Nat.eq_zero_or_pos k with h0 | h0
            · subst h0; simp at h; omega
            · exact h0
          have HD := hide hd
          clear hp hx hxi hd
          have e1 : n.tmod 128 = n % 128 := Int.tmod_eq_emod_of_nonneg (by omega)
          have e2 : n.tdiv 128 = n / 128 := Int.tdiv_eq_ediv_of_nonneg (by omega)
          have e3 : IntKind.i64.wrap (n % 128 + 128) = n % 128 + 128 := wrap_smallC (by omega) (by omega)
          have e4 : IntKind.u8.wrap (n % 128 + 128) = n % 128 + 128 := wrap_byte (by omega) (by omega)
          have hcat := cat_small x (n / 128)
          have e5 : IntKind.i64.wrap (n / 128) = n / 128 := wrap_smallC (by omega) (by omega)
          go_enter Tryz.func118, Tryz.ntmps118
          go_wp2_with fail
          go_region_with (go_at_call 118; refine ((unhide IH) _ _ (unhide HD).1 (unhide HD).2).mono ?_; rintro e w' ⟨rfl, hb⟩; obtain ⟨hc, hf⟩ := bcell hb)
          all_goals go_wp2_with fail
          all_goals go_ret
          all_goals refine ⟨ret_cat (unhide HP), ?_⟩
          all_goals first
            | exact (Below.refl w.heap.size w).drew.trans hb
            | exact ((Below.refl w.heap.size w).drew.trans hb).alloc hb.size _
            | exact (((Below.refl w.heap.size w).alloc (Nat.le_refl _) _).drew).trans (hb.mono (by simp))

theorem refPut_all (n : Int) (w : World) :
    Calls Tryz.prog 118 #[.int .i64 n] w fun e w' => e = .returned (.string ⟨(Cnt.putL n).toArray⟩) ∧ Below w.heap.size w w' := by
  refine refPut_any (n.toNat + 1) n w ?_ (by omega)
  have h1 : n.toNat + 1 < 128 ^ (n.toNat + 1) := Nat.lt_pow_self (by decide)
  have h2 : (n : Int) ≤ (n.toNat : Int) := by omega
  have h3 : ((128 ^ (n.toNat + 1) : Nat) : Int) = (128 : Int) ^ (n.toNat + 1) := by simp
  rw [← h3]
  omega
end Go.Proofs.YtebjlmnhpfoglaaGreatDoor
