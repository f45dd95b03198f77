/-
  Plain facts on texts, their pieces and the order of pieces: no program, no world. Conditions: none but those that each theorem names.
-/
import Derived.Test.YthchcjjpplcfnaaDoorRows
import Derived.WalkKit
import Derived.Lib.Strings
import Derived.WalkSpells
import Derived.WalkLawsBesides
import Derived.BigQuiet
import Derived.Outline
import Derived.Deep.MidRow
import Derived.Deep.WholeRow
import Derived.RegionTactic
import Derived.BigRegion
import Derived.OwnWalk
import Derived.Laws.ResultCell
import Derived.WalkMore
namespace Go.Proofs.YthchcjjpplcfnaaDoor.Pth.Pt

abbrev Bs := List UInt8

/-- What stands between slashes. -/
def pieces : Bs → List Bs
  | [] => [[]]
  | b :: l => if b = 47 then [] :: pieces l else
      match pieces l with
      | [] => [[b]]
      | p :: r => (b :: p) :: r

theorem pieces_cons : ∀ l : Bs, ∃ p r, pieces l = p :: r
  | [] => ⟨[], [], rfl⟩
  | b :: l => by
    unfold pieces
    split
    · exact ⟨_, _, rfl⟩
    · obtain ⟨p, r, h⟩ := pieces_cons l
      rw [h]
      exact ⟨_, _, rfl⟩

theorem pieces_ne (l : Bs) : pieces l ≠ [] := by
  obtain ⟨p, r, h⟩ := pieces_cons l
  rw [h]
  exact List.cons_ne_nil _ _

theorem pieces_pos (l : Bs) : 1 ≤ (pieces l).length := by
  obtain ⟨p, r, h⟩ := pieces_cons l
  rw [h]
  simp

/-- No slash in what goes ahead: the first piece begins with it. -/
theorem pieces_ahead : ∀ (a b p : Bs) (r : List Bs), (∀ x ∈ a, x ≠ 47) → pieces b = p :: r → pieces (a ++ b) = (a ++ p) :: r
  | [], _, _, _, _, h => h
  | x :: a, b, p, r, hn, h => by
    have ih := pieces_ahead a b p r (fun y hy => hn y (List.mem_cons_of_mem _ hy)) h
    have hx : ¬ x = 47 := hn x (List.mem_cons_self ..)
    rw [List.cons_append]
    unfold pieces
    rw [if_neg hx, ih]
    rfl

theorem pieces_slash : ∀ a b : Bs, pieces (a ++ 47 :: b) = pieces a ++ pieces b
  | [], b => by simp [pieces]
  | x :: a, b => by
    have ih := pieces_slash a b
    rw [List.cons_append]
    by_cases hx : x = 47
    · rw [pieces, if_pos hx, pieces, if_pos hx, ih]; rfl
    · obtain ⟨p, r, h⟩ := pieces_cons a
      rw [pieces, if_neg hx, pieces, if_neg hx, ih, h]; rfl

theorem pieces_none (a : Bs) (h : ∀ x ∈ a, x ≠ 47) : pieces a = [a] := by
  have := pieces_ahead a [] [] [] h rfl
  simpa using this

theorem pieces_cut (a b : Bs) (h : ∀ x ∈ a, x ≠ 47) : pieces (a ++ 47 :: b) = a :: pieces b := by
  rw [pieces_slash, pieces_none a h]; rfl

theorem pieces_mem : ∀ (l p : Bs), p ∈ pieces l → ∀ x ∈ p, x ≠ 47
  | [], p, h, x, hx => by simp [pieces] at h; subst h; cases hx
  | b :: l, p, h, x, hx => by
    unfold pieces at h
    split at h
    · rcases List.mem_cons.1 h with rfl | h
      · cases hx
      · exact pieces_mem l p h x hx
    · rename_i hb
      obtain ⟨q, r, e⟩ := pieces_cons l
      rw [e] at h
      rcases List.mem_cons.1 h with rfl | h
      · rcases List.mem_cons.1 hx with rfl | hx
        · exact hb
        · exact pieces_mem l q (by rw [e]; exact List.mem_cons_self ..) x hx
      · exact pieces_mem l p (by rw [e]; exact List.mem_cons_of_mem _ h) x hx

/-- Names with a slash between each two. -/
def joinP : List Bs → Bs
  | [] => []
  | p :: r => match r with
    | [] => p
    | _ :: _ => p ++ 47 :: joinP r

theorem joinP_one (p : Bs) : joinP [p] = p := rfl
theorem joinP_two (p q : Bs) (r : List Bs) : joinP (p :: q :: r) = p ++ 47 :: joinP (q :: r) := rfl
theorem joinP_cons (p : Bs) (r : List Bs) (h : r ≠ []) : joinP (p :: r) = p ++ 47 :: joinP r := by
  cases r with
  | nil => exact absurd rfl h
  | cons q r => rfl

theorem joinP_bcons (b : UInt8) (p : Bs) (r : List Bs) : joinP ((b :: p) :: r) = b :: joinP (p :: r) := by
  cases r <;> rfl

theorem join_pieces : ∀ l : Bs, joinP (pieces l) = l
  | [] => rfl
  | b :: l => by
    have ih := join_pieces l
    obtain ⟨p, r, e⟩ := pieces_cons l
    unfold pieces
    split
    · rename_i hb
      rw [joinP_cons _ _ (pieces_ne l), ih, hb]; rfl
    · rw [e]
      rw [e] at ih
      show joinP ((b :: p) :: r) = b :: l
      rw [joinP_bcons, ih]

theorem pieces_join : ∀ ps : List Bs, ps ≠ [] → (∀ p ∈ ps, ∀ x ∈ p, x ≠ 47) → pieces (joinP ps) = ps
  | [], h, _ => absurd rfl h
  | [p], _, hn => by rw [joinP_one]; exact pieces_none p (hn p (List.mem_cons_self ..))
  | p :: q :: r, _, hn => by
    rw [joinP_two, pieces_cut _ _ (hn p (List.mem_cons_self ..)), pieces_join (q :: r) (List.cons_ne_nil _ _) fun y hy => hn y (List.mem_cons_of_mem _ hy)]

theorem pieces_inj (a b : Bs) (h : pieces a = pieces b) : a = b := by
  rw [← join_pieces a, ← join_pieces b, h]

theorem joinP_snoc : ∀ (ps : List Bs) (q : Bs), ps ≠ [] → joinP (ps ++ [q]) = joinP ps ++ 47 :: q
  | [], _, h => absurd rfl h
  | [p], q, _ => rfl
  | p :: p' :: r, q, _ => by
    have ih := joinP_snoc (p' :: r) q (List.cons_ne_nil _ _)
    show joinP (p :: p' :: (r ++ [q])) = _
    rw [joinP_two, joinP_two]
    have : p' :: (r ++ [q]) = (p' :: r) ++ [q] := rfl
    rw [this, ih]
    simp

theorem joinP_append : ∀ (ps qs : List Bs), ps ≠ [] → qs ≠ [] → joinP (ps ++ qs) = joinP ps ++ 47 :: joinP qs
  | [], _, h, _ => absurd rfl h
  | [p], qs, _, hq => by rw [joinP_one]; exact joinP_cons p qs hq
  | p :: p' :: r, qs, _, hq => by
    have ih := joinP_append (p' :: r) qs (List.cons_ne_nil _ _) hq
    show joinP (p :: p' :: (r ++ qs)) = _
    rw [joinP_two, joinP_two]
    have : p' :: (r ++ qs) = (p' :: r) ++ qs := rfl
    rw [this, ih]
    simp

/-- One byte more: the last piece gets it, or a new one begins. -/
theorem pieces_snoc_slash (l : Bs) : pieces (l ++ [47]) = pieces l ++ [[]] := by
  rw [pieces_slash]; rfl

theorem pieces_snoc : ∀ (l : Bs) (b : UInt8) (ps : List Bs) (q : Bs), b ≠ 47 → pieces l = ps ++ [q] → pieces (l ++ [b]) = ps ++ [q ++ [b]]
  | [], b, ps, q, hb, h => by
    cases ps with
    | nil => simp [pieces] at h; subst h; simp [pieces, hb]
    | cons a t => simp [pieces] at h
  | x :: l, b, ps, q, hb, h => by
    obtain ⟨p, r, e⟩ := pieces_cons l
    rw [List.cons_append]
    unfold pieces at h ⊢
    split at h
    · rename_i hx
      rw [if_pos hx]
      cases ps with
      | nil => simp at h; exact absurd h.2 (pieces_ne l)
      | cons a t =>
        simp only [List.cons_append, List.cons.injEq] at h
        rw [pieces_snoc l b t q hb h.2, ← h.1]; rfl
    · rename_i hx
      rw [if_neg hx]
      rw [e] at h
      cases ps with
      | nil =>
        simp at h
        have e' : pieces l = [] ++ [p] := by rw [e, h.2]; rfl
        rw [pieces_snoc l b [] p hb e', ← h.1]
        rfl
      | cons a t =>
        simp only [List.cons_append, List.cons.injEq] at h
        have e' : pieces l = (p :: t) ++ [q] := by rw [e, h.2]; rfl
        rw [pieces_snoc l b (p :: t) q hb e', ← h.1]
        rfl

/-! ### names and paths -/

def sign (b : UInt8) : Bool := (decide (97 ≤ b.toNat) && decide (b.toNat ≤ 122)) || (decide (48 ≤ b.toNat) && decide (b.toNat ≤ 57)) || decide (b.toNat = 46) || decide (b.toNat = 95) || decide (b.toNat = 45)

theorem sign_slash (b : UInt8) (h : sign b = true) : b ≠ 47 := by
  rintro rfl
  revert h
  decide

def isName (l : Bs) : Bool := decide (1 ≤ l.length) && decide (l.length ≤ 12) && decide (l ≠ [46]) && decide (l ≠ [46, 46]) && l.all sign

theorem isName_iff (l : Bs) : isName l = true ↔ 1 ≤ l.length ∧ l.length ≤ 12 ∧ l ≠ [46] ∧ l ≠ [46, 46] ∧ ∀ x ∈ l, sign x = true := by
  unfold isName
  simp only [Bool.and_eq_true, decide_eq_true_eq, List.all_eq_true]
  constructor
  · rintro ⟨⟨⟨⟨a, b⟩, c⟩, d⟩, e⟩; exact ⟨a, b, c, d, e⟩
  · rintro ⟨a, b, c, d, e⟩; exact ⟨⟨⟨⟨a, b⟩, c⟩, d⟩, e⟩

theorem isName_slash (l : Bs) (h : isName l = true) : ∀ x ∈ l, x ≠ 47 := fun x hx => sign_slash x (((isName_iff l).1 h).2.2.2.2 x hx)

def isPath (l : Bs) : Bool := decide ((pieces l).length ≤ 4) && (pieces l).all isName

theorem isPath_iff (l : Bs) : isPath l = true ↔ (pieces l).length ≤ 4 ∧ ∀ p ∈ pieces l, isName p = true := by
  unfold isPath
  simp only [Bool.and_eq_true, decide_eq_true_eq, List.all_eq_true]

def parts (l : Bs) : List Bs := if isPath l = true then pieces l else []

def check (l : Bs) : Int := if 51 < l.length then 2 else if isPath l = true then 0 else 1

/-- How long what is joined may be. -/
theorem joinP_length : ∀ ps : List Bs, (∀ p ∈ ps, p.length ≤ 12) → (joinP ps).length + 1 ≤ 13 * ps.length + (if ps = [] then 1 else 0)
  | [], _ => by simp [joinP]
  | [p], h => by have := h p (List.mem_cons_self ..); simp [joinP]; omega
  | p :: q :: r, h => by
    have ih := joinP_length (q :: r) fun y hy => h y (List.mem_cons_of_mem _ hy)
    have := h p (List.mem_cons_self ..)
    rw [joinP_two]
    simp only [List.length_append, List.length_cons, reduceCtorEq, if_false] at ih ⊢
    omega

theorem path_length (l : Bs) (h : isPath l = true) : l.length ≤ 51 := by
  obtain ⟨h4, hn⟩ := (isPath_iff l).1 h
  have := joinP_length (pieces l) fun p hp => ((isName_iff p).1 (hn p hp)).2.1
  rw [join_pieces, if_neg (pieces_ne l)] at this
  omega

theorem check_ok (l : Bs) : check l = 0 ↔ isPath l = true := by
  unfold check
  constructor
  · intro h
    split at h
    · exact absurd h (by decide)
    · split at h
      · assumption
      · exact absurd h (by decide)
  · intro h
    have := path_length l h
    rw [if_neg (by omega), if_pos h]

/-- A name alone is a path of one piece, and such a path is a name. -/
theorem name_path (l : Bs) (h : isName l = true) : pieces l = [l] ∧ isPath l = true := by
  have e := pieces_none l (isName_slash l h)
  refine ⟨e, (isPath_iff l).2 ?_⟩
  rw [e]
  refine ⟨by simp, ?_⟩
  intro p hp
  rw [List.mem_singleton.1 hp]
  exact h

theorem path_name (l : Bs) (h : isPath l = true) (h1 : (pieces l).length = 1) : isName l = true := by
  obtain ⟨_, hn⟩ := (isPath_iff l).1 h
  obtain ⟨p, e⟩ := List.length_eq_one_iff.1 h1
  have := join_pieces l
  rw [e, joinP_one] at this
  subst this
  exact hn p (by rw [e]; exact List.mem_cons_self ..)

theorem parts_one (l : Bs) : decide ((parts l).length = 1) = isName l := by
  unfold parts
  cases hn : isName l with
  | true =>
    obtain ⟨e, hp⟩ := name_path l hn
    rw [if_pos hp, e]; rfl
  | false =>
    split
    · rename_i hp
      refine decide_eq_false fun h1 => ?_
      rw [path_name l hp h1] at hn
      exact Bool.noConfusion hn
    · rfl

theorem parts_pos (l : Bs) : decide (0 < (parts l).length) = isPath l := by
  unfold parts
  cases hp : isPath l with
  | true => rw [if_pos rfl]; have := pieces_pos l; exact decide_eq_true (by omega)
  | false => rw [if_neg (by decide)]; rfl

theorem parts_path (l : Bs) (h : isPath l = true) : parts l = pieces l := if_pos h
theorem parts_none (l : Bs) (h : isPath l = false) : parts l = [] := if_neg (by rw [h]; decide)
theorem parts_le (l : Bs) : (parts l).length ≤ 4 := by
  unfold parts
  split
  · rename_i h; exact ((isPath_iff l).1 h).1
  · simp
theorem parts_names (l : Bs) : ∀ p ∈ parts l, isName p = true := by
  unfold parts
  split
  · rename_i h; exact ((isPath_iff l).1 h).2
  · intro p hp; cases hp

/-! ### pieces, one behind the other -/

/-- The pieces from a place on. -/
def left (s : Bs) (k : Nat) : List Bs := if k ≤ s.length then pieces (s.drop k) else []

theorem left_zero (s : Bs) : left s 0 = pieces s := by simp [left]

theorem left_step (s : Bs) (k e : Nat) (hk : k ≤ e) (he : e ≤ s.length) (hn : ∀ x ∈ (s.drop k).take (e - k), x ≠ 47)
    (hend : e = s.length ∨ s[e]? = some 47) : left s k = (s.drop k).take (e - k) :: left s (e + 1) := by
  unfold left
  rw [if_pos (by omega)]
  rcases Nat.lt_or_ge e s.length with hlt | hge
  · rw [if_pos (by omega)]
    have h47 : s[e]? = some 47 := by
      rcases hend with h | h
      · omega
      · exact h
    have hd : s.drop k = (s.drop k).take (e - k) ++ 47 :: s.drop (e + 1) := by
      conv => lhs; rw [← List.take_append_drop (e - k) (s.drop k)]
      rw [List.drop_drop, show k + (e - k) = e by omega]
      congr 1
      rw [List.drop_eq_getElem_cons hlt]
      congr 1
      rw [List.getElem?_eq_getElem hlt] at h47
      exact Option.some.inj h47
    conv => lhs; rw [hd]
    exact pieces_cut _ _ hn
  · have hee : e = s.length := by omega
    rw [if_neg (by omega)]
    have : (s.drop k).take (e - k) = s.drop k := by
      apply List.take_of_length_le
      rw [List.length_drop]; omega
    rw [this] at hn ⊢
    exact pieces_none _ hn

theorem left_end (s : Bs) (k : Nat) (h : s.length < k) : left s k = [] := if_neg (by omega)

/-- What is known of a text whose first pieces are names. -/
structure Sofar (s : Bs) (k : Nat) (cs : List Bs) : Prop where
  all : pieces s = cs ++ left s k
  names : ∀ p ∈ cs, isName p = true
  few : cs.length ≤ 4

theorem Sofar.zero (s : Bs) : Sofar s 0 [] where
  all := by rw [left_zero]; rfl
  names := by intro p hp; cases hp
  few := by simp

theorem Sofar.step {s : Bs} {k e : Nat} {cs : List Bs} (h : Sofar s k cs) (hk : k ≤ e) (he : e ≤ s.length) (hend : e = s.length ∨ s[e]? = some 47)
    (hp : isName ((s.drop k).take (e - k)) = true) (hc : cs.length < 4) : Sofar s (e + 1) (cs ++ [(s.drop k).take (e - k)]) := by
  refine ⟨?_, ?_, ?_⟩
  · rw [h.all, left_step s k e hk he (isName_slash _ hp) hend]
    simp
  · intro p hm
    rcases List.mem_append.1 hm with hm | hm
    · exact h.names p hm
    · rw [List.mem_singleton.1 hm]; exact hp
  · simp; omega

theorem Sofar.done {s : Bs} {k : Nat} {cs : List Bs} (h : Sofar s k cs) (hk : s.length < k) : isPath s = true ∧ pieces s = cs := by
  have e : pieces s = cs := by rw [h.all, left_end s k hk]; simp
  exact ⟨(isPath_iff s).2 (by rw [e]; exact ⟨h.few, h.names⟩), e⟩

theorem Sofar.bad {s : Bs} {k : Nat} {cs : List Bs} (h : Sofar s k cs) (p : Bs) (r : List Bs) (hl : left s k = p :: r) (hb : isName p = false ∨ cs.length = 4) : isPath s = false := by
  cases hp : isPath s with
  | false => rfl
  | true =>
    exfalso
    obtain ⟨h4, hn⟩ := (isPath_iff s).1 hp
    rw [h.all, hl] at h4 hn
    rcases hb with hb | hb
    · have := hn p (by simp)
      rw [hb] at this
      exact Bool.noConfusion this
    · simp at h4; omega

/-- A whole piece that is no name, or one too many. -/
theorem Sofar.stop {s : Bs} {k e : Nat} {cs : List Bs} (h : Sofar s k cs) (hk : k ≤ e) (he : e ≤ s.length) (hn : ∀ x ∈ (s.drop k).take (e - k), x ≠ 47) (hend : e = s.length ∨ s[e]? = some 47)
    (hb : isName ((s.drop k).take (e - k)) = false ∨ cs.length = 4) : isPath s = false :=
  h.bad _ _ (left_step s k e hk he hn hend) hb

/-- A sign that no name has, or a thirteenth. -/
theorem Sofar.break_ {s : Bs} {k e : Nat} {cs : List Bs} (h : Sofar s k cs) (hk : k ≤ e) (he : e < s.length) (hn : ∀ x ∈ (s.drop k).take (e - k), x ≠ 47) (h47 : s[e] ≠ 47)
    (hb : sign s[e] = false ∨ e - k = 12) : isPath s = false := by
  obtain ⟨p, r, hpr⟩ := pieces_cons (s.drop (e + 1))
  have hd : s.drop k = ((s.drop k).take (e - k) ++ [s[e]]) ++ s.drop (e + 1) := by
    conv => lhs; rw [← List.take_append_drop (e - k) (s.drop k)]
    rw [List.drop_drop, show k + (e - k) = e by omega, List.drop_eq_getElem_cons he]
    simp
  have hl : left s k = (((s.drop k).take (e - k) ++ [s[e]]) ++ p) :: r := by
    unfold left
    rw [if_pos (by omega)]
    conv => lhs; rw [hd]
    refine pieces_ahead _ _ _ _ ?_ hpr
    intro x hx
    rcases List.mem_append.1 hx with hx | hx
    · exact hn x hx
    · rw [List.mem_singleton.1 hx]; exact h47
  refine h.bad _ _ hl (.inl ?_)
  cases hN : isName (((s.drop k).take (e - k) ++ [s[e]]) ++ p) with
  | false => rfl
  | true =>
    exfalso
    obtain ⟨_, h12, _, _, hs⟩ := (isName_iff _).1 hN
    rcases hb with hb | hb
    · have := hs s[e] (by simp)
      rw [hb] at this
      exact Bool.noConfusion this
    · simp at h12; omega

/-! ### one order out of another -/

structure Good {α : Type} (c : α → α → Int) : Prop where
  rng : ∀ a b, c a b = -1 ∨ c a b = 0 ∨ c a b = 1
  anti : ∀ a b, c b a = - c a b
  eq : ∀ a b, c a b = 0 ↔ a = b
  tr : ∀ a b d, c a b = -1 → c b d = -1 → c a d = -1

def lexC {α : Type} (c : α → α → Int) : List α → List α → Int
  | [], [] => 0
  | [], _ :: _ => -1
  | _ :: _, [] => 1
  | a :: l, b :: m => if c a b = 0 then lexC c l m else c a b

theorem lexC_rng {α : Type} {c : α → α → Int} (g : Good c) : ∀ l m, lexC c l m = -1 ∨ lexC c l m = 0 ∨ lexC c l m = 1
  | [], [] => .inr (.inl rfl)
  | [], _ :: _ => .inl rfl
  | _ :: _, [] => .inr (.inr rfl)
  | a :: l, b :: m => by
    unfold lexC
    split
    · exact lexC_rng g l m
    · exact g.rng a b

theorem lexC_anti {α : Type} {c : α → α → Int} (g : Good c) : ∀ l m, lexC c m l = - lexC c l m
  | [], [] => rfl
  | [], _ :: _ => rfl
  | _ :: _, [] => rfl
  | a :: l, b :: m => by
    have h := g.anti a b
    unfold lexC
    rw [h]
    by_cases h0 : c a b = 0
    · rw [if_pos h0, if_pos (by omega)]; exact lexC_anti g l m
    · rw [if_neg h0, if_neg (by omega)]

theorem lexC_eq {α : Type} {c : α → α → Int} (g : Good c) : ∀ l m, lexC c l m = 0 ↔ l = m
  | [], [] => by simp [lexC]
  | [], _ :: _ => by simp [lexC]
  | _ :: _, [] => by simp [lexC]
  | a :: l, b :: m => by
    have ih := lexC_eq g l m
    have h := g.eq a b
    unfold lexC
    split
    · rename_i h0; rw [ih, List.cons.injEq]; simp [h.1 h0]
    · rename_i h0; rw [List.cons.injEq]; constructor
      · intro e; exact absurd e h0
      · rintro ⟨e, _⟩; exact h.2 e

theorem lexC_tr {α : Type} {c : α → α → Int} (g : Good c) : ∀ l m n, lexC c l m = -1 → lexC c m n = -1 → lexC c l n = -1
  | [], [], _, h, _ => by simp [lexC] at h
  | [], _ :: _, [], _, h => by simp [lexC] at h
  | [], _ :: _, _ :: _, _, _ => rfl
  | _ :: _, [], _, h, _ => by simp [lexC] at h
  | _ :: _, _ :: _, [], _, h => by simp [lexC] at h
  | a :: l, b :: m, d :: n, h1, h2 => by
    unfold lexC at h1 h2 ⊢
    split at h1
    · rename_i e1
      have e1 := (g.eq a b).1 e1
      subst e1
      split at h2
      · rename_i e2; rw [if_pos e2]; exact lexC_tr g l m n h1 h2
      · rename_i e2; rw [if_neg e2]; exact h2
    · rename_i e1
      split at h2
      · rename_i e2
        have e2 := (g.eq b d).1 e2
        subst e2
        rw [if_neg e1]; exact h1
      · have := g.tr a b d h1 h2
        rw [if_neg (by omega)]; exact this

theorem Good.lex {α : Type} {c : α → α → Int} (g : Good c) : Good (lexC c) := ⟨lexC_rng g, lexC_anti g, lexC_eq g, lexC_tr g⟩

def cmp8 (a b : UInt8) : Int := if a < b then -1 else if b < a then 1 else 0

theorem cmp8_good : Good cmp8 := by
  have key : ∀ a b : UInt8, cmp8 a b = if a.toNat < b.toNat then -1 else if b.toNat < a.toNat then 1 else 0 := fun a b => by
    unfold cmp8; simp only [UInt8.lt_iff_toNat_lt]
  refine ⟨?_, ?_, ?_, ?_⟩
  · intro a b; rw [key]; split; exact .inl rfl; split; exact .inr (.inr rfl); exact .inr (.inl rfl)
  · intro a b; rw [key, key]
    by_cases h : a.toNat < b.toNat
    · rw [if_neg (by omega), if_pos h, if_pos h]; rfl
    · by_cases h' : b.toNat < a.toNat
      · rw [if_pos h', if_neg h, if_pos h']
      · rw [if_neg h', if_neg h, if_neg h, if_neg h']; rfl
  · intro a b; rw [key, ← UInt8.toNat_inj]
    by_cases h : a.toNat < b.toNat
    · rw [if_pos h]; omega
    · rw [if_neg h]
      by_cases h' : b.toNat < a.toNat
      · rw [if_pos h']; omega
      · rw [if_neg h']; omega
  · intro a b d; rw [key, key, key]
    intro h1 h2
    have e1 : a.toNat < b.toNat := by
      by_cases h : a.toNat < b.toNat
      · exact h
      · rw [if_neg h] at h1; split at h1 <;> omega
    have e2 : b.toNat < d.toNat := by
      by_cases h : b.toNat < d.toNat
      · exact h
      · rw [if_neg h] at h2; split at h2 <;> omega
    rw [if_pos (by omega)]

/-- Byte by byte. -/
def cmpB : Bs → Bs → Int := lexC cmp8
/-- Piece by piece. -/
def cmpP : List Bs → List Bs → Int := lexC cmpB
/-- Text by text. -/
def cmpT (a b : Bs) : Int := cmpP (pieces a) (pieces b)

theorem cmpB_good : Good cmpB := cmp8_good.lex
theorem cmpP_good : Good cmpP := cmpB_good.lex
theorem cmpT_good : Good cmpT :=
  ⟨fun _ _ => cmpP_good.rng _ _, fun _ _ => cmpP_good.anti _ _, fun _ _ => ⟨fun h => pieces_inj _ _ ((cmpP_good.eq _ _).1 h), fun h => (cmpP_good.eq _ _).2 (by rw [h])⟩, fun _ _ _ h1 h2 => cmpP_good.tr _ _ _ h1 h2⟩

theorem cmpP_cons (p q : Bs) (r t : List Bs) : cmpP (p :: r) (q :: t) = if cmpB p q = 0 then cmpP r t else cmpB p q := rfl
theorem cmpP_nil : cmpP [] [] = 0 := rfl
theorem cmpP_nil_cons (q : Bs) (t : List Bs) : cmpP [] (q :: t) = -1 := rfl
theorem cmpP_cons_nil (p : Bs) (r : List Bs) : cmpP (p :: r) [] = 1 := rfl

/-- What the law of the order asks. -/
theorem cmpT_row (a b c : Bs) : (0 < cmpT a b ∨ 0 < cmpT b c ∨ cmpT a c ≤ 0) ∧ (0 ≤ cmpT a b ∨ 0 ≤ cmpT b c ∨ cmpT a c < 0) := by
  have r1 := cmpT_good.rng a b
  have r2 := cmpT_good.rng b c
  have r3 := cmpT_good.rng a c
  have e1 := cmpT_good.eq a b
  have e2 := cmpT_good.eq b c
  have t := cmpT_good.tr a b c
  rcases r1 with h1 | h1 | h1
  · rcases r2 with h2 | h2 | h2
    · have := t h1 h2; omega
    · have := e2.1 h2; subst this; omega
    · omega
  · have := e1.1 h1; subst this; omega
  · omega

/-! ### what stands together -/

/-- Below a directory. -/
def under (s d : Bs) : Bool := if d = [] then isPath s else decide ((d ++ [47]).isPrefixOf s = true) && isPath s

theorem between : ∀ (D x C y : List Bs), x ≠ [] → cmpP (D ++ x) C ≤ 0 → cmpP C (D ++ y) ≤ 0 → ∃ z, C = D ++ z ∧ z ≠ []
  | [], x, C, _, hx, h1, _ => by
    refine ⟨C, rfl, ?_⟩
    rintro rfl
    cases x with
    | nil => exact hx rfl
    | cons p r => simp [cmpP, lexC] at h1
  | d :: D, x, [], _, _, h1, _ => by simp [cmpP, lexC] at h1
  | d :: D, x, c :: C, y, hx, h1, h2 => by
    rw [List.cons_append, cmpP_cons] at h1 h2
    have ha := cmpB_good.anti d c
    have hr := cmpB_good.rng d c
    have h0 : cmpB d c = 0 := by
      by_cases h0 : cmpB d c = 0
      · exact h0
      · rw [if_neg h0] at h1
        rw [if_neg (by omega)] at h2
        omega
    have hdc := (cmpB_good.eq d c).1 h0
    rw [if_pos h0] at h1
    rw [if_pos (by omega)] at h2
    obtain ⟨z, hz, hne⟩ := between D x C y hx h1 h2
    exact ⟨z, by rw [hz, hdc]; rfl, hne⟩

/-- Below a directory: its pieces first, and more. -/
theorem prefix_pieces (s d : Bs) : (d ++ [47]).isPrefixOf s = true ↔ ∃ z, z ≠ [] ∧ pieces s = pieces d ++ z := by
  rw [List.isPrefixOf_iff_prefix]
  constructor
  · rintro ⟨t, rfl⟩
    refine ⟨pieces t, pieces_ne t, ?_⟩
    rw [List.append_assoc]
    exact pieces_slash d t
  · rintro ⟨z, hz, e⟩
    refine ⟨joinP z, ?_⟩
    have := join_pieces s
    rw [e, joinP_append _ _ (pieces_ne d) hz, join_pieces] at this
    rw [← this]
    simp

theorem together (a b c d : Bs) (ha : under a d = true) (hb : under b d = true) (hc : isPath c = true) (h1 : cmpT a c ≤ 0) (h2 : cmpT c b ≤ 0) : under c d = true := by
  unfold under at ha hb ⊢
  split
  · exact hc
  · rename_i hd
    rw [if_neg hd] at ha hb
    simp only [Bool.and_eq_true, decide_eq_true_eq] at ha hb ⊢
    refine ⟨?_, hc⟩
    obtain ⟨x, hx, ex⟩ := (prefix_pieces a d).1 ha.1
    obtain ⟨y, hy, ey⟩ := (prefix_pieces b d).1 hb.1
    unfold cmpT at h1 h2
    rw [ex] at h1
    rw [ey] at h2
    obtain ⟨z, ez, hz⟩ := between _ _ _ _ hx h1 h2
    exact (prefix_pieces c d).2 ⟨z, hz, ez⟩

/-- Below a directory, by names: the directory is one, its names are the first ones, and there are more. -/
theorem under_names (s d : Bs) : under s d = true ↔ isPath s = true ∧ (d = [] ∨ isPath d = true) ∧ (parts d).length < (parts s).length ∧ ∀ i, i < (parts d).length → (parts s)[i]? = (parts d)[i]? := by
  unfold under
  have hnil : isPath [] = false := by decide
  split
  · rename_i hd
    subst hd
    rw [parts_none [] hnil]
    constructor
    · intro h
      have := pieces_pos s
      rw [parts_path s h]
      exact ⟨h, .inl rfl, by simp; omega, fun i hi => absurd hi (by simp)⟩
    · exact fun h => h.1
  · rename_i hd
    simp only [Bool.and_eq_true, decide_eq_true_eq]
    rw [prefix_pieces]
    constructor
    · rintro ⟨⟨z, hz, e⟩, hs⟩
      obtain ⟨h4, hn⟩ := (isPath_iff s).1 hs
      have hdp : isPath d = true := by
        rw [isPath_iff]
        rw [e] at h4 hn
        simp only [List.length_append] at h4
        exact ⟨by omega, fun p hp => hn p (List.mem_append_left _ hp)⟩
      refine ⟨hs, .inr hdp, ?_, ?_⟩
      · rw [parts_path s hs, parts_path d hdp, e, List.length_append]
        have : 0 < z.length := List.length_pos_iff.2 hz
        omega
      · intro i hi
        rw [parts_path d hdp] at hi ⊢
        rw [parts_path s hs, e, List.getElem?_append_left hi]
    · rintro ⟨hs, hdd, hl, hi⟩
      have hdp : isPath d = true := by
        rcases hdd with h | h
        · exact absurd h hd
        · exact h
      rw [parts_path s hs, parts_path d hdp] at hl hi
      refine ⟨⟨(pieces s).drop (pieces d).length, ?_, ?_⟩, hs⟩
      · intro h
        have := congrArg List.length h
        simp at this
        omega
      · conv => lhs; rw [← List.take_append_drop (pieces d).length (pieces s)]
        congr 1
        apply List.ext_getElem?
        intro i
        rcases Nat.lt_or_ge i (pieces d).length with h | h
        · rw [List.getElem?_take_of_lt h]; exact hi i h
        · rw [List.getElem?_eq_none (by rw [List.length_take]; omega), List.getElem?_eq_none h]

/-! ### up and last -/

def up (s : Bs) : Bs := if isPath s = true then joinP (pieces s).dropLast else []
def last (s : Bs) : Bs := if isPath s = true then (pieces s).getLast?.getD [] else []

/-- No slash: one piece. -/
theorem one_up (s : Bs) (h : ∀ x ∈ s, x ≠ 47) : joinP (pieces s).dropLast = [] ∧ (pieces s).getLast?.getD [] = s := by
  rw [pieces_none s h]; exact ⟨rfl, rfl⟩

/-- The last slash: what stands ahead of it, and what behind it. -/
theorem more_up (a b : Bs) (h : ∀ x ∈ b, x ≠ 47) : joinP (pieces (a ++ 47 :: b)).dropLast = a ∧ (pieces (a ++ 47 :: b)).getLast?.getD [] = b := by
  rw [pieces_slash, pieces_none b h]
  simp [join_pieces]

theorem up_last (s : Bs) (h : isPath s = true) : (if up s = [] then up s else up s ++ [47]) ++ last s = s := by
  unfold up last
  rw [if_pos h, if_pos h]
  obtain ⟨_, hn⟩ := (isPath_iff s).1 h
  have hj := join_pieces s
  rcases List.eq_nil_or_concat (pieces s) with e | ⟨ps, q, e⟩
  · exact absurd e (pieces_ne s)
  · rw [List.concat_eq_append] at e
    rw [e] at hj hn ⊢
    rw [List.dropLast_concat, List.getLast?_concat]
    by_cases hps : ps = []
    · subst hps
      rw [show joinP [] = [] from rfl, if_pos rfl]
      exact hj
    · have hne : joinP ps ≠ [] := by
        intro h0
        cases ps with
        | nil => exact hps rfl
        | cons p r =>
          have hp := ((isName_iff p).1 (hn p (by simp))).1
          cases r with
          | nil => rw [joinP_one] at h0; rw [h0] at hp; simp at hp
          | cons p' r => rw [joinP_two] at h0; simp at h0
      rw [if_neg hne]
      rw [joinP_snoc ps q hps] at hj
      simpa using hj

theorem joinP_ne (ps : List Bs) (hps : ps ≠ []) (hn : ∀ p ∈ ps, isName p = true) : joinP ps ≠ [] := by
  intro h0
  cases ps with
  | nil => exact hps rfl
  | cons p r =>
    have hp := ((isName_iff p).1 (hn p (by simp))).1
    cases r with
    | nil => rw [joinP_one] at h0; rw [h0] at hp; simp at hp
    | cons p' r => rw [joinP_two] at h0; simp at h0

/-- A path of names that are joined. -/
theorem join_path (ps : List Bs) (hps : ps ≠ []) (h4 : ps.length ≤ 4) (hn : ∀ p ∈ ps, isName p = true) : pieces (joinP ps) = ps ∧ isPath (joinP ps) = true := by
  have e := pieces_join ps hps fun p hp => isName_slash p (hn p hp)
  exact ⟨e, (isPath_iff _).2 (by rw [e]; exact ⟨h4, hn⟩)⟩

/-- The path of some names, and whether there is one. -/
def joins (ps : List Bs) : Bool := decide (1 ≤ ps.length) && decide (ps.length ≤ 4) && ps.all isName

theorem joins_iff (ps : List Bs) : joins ps = true ↔ 1 ≤ ps.length ∧ ps.length ≤ 4 ∧ ∀ p ∈ ps, isName p = true := by
  unfold joins
  simp only [Bool.and_eq_true, decide_eq_true_eq, List.all_eq_true]
  constructor
  · rintro ⟨⟨a, b⟩, c⟩; exact ⟨a, b, c⟩
  · rintro ⟨a, b, c⟩; exact ⟨⟨a, b⟩, c⟩

end Go.Proofs.YthchcjjpplcfnaaDoor.Pth.Pt

namespace Go.Proofs.YthchcjjpplcfnaaDoor.Pth
open Go.RowKit

theorem hide {p : Prop} (h : p) : Hid p := h
theorem unhide {p : Prop} (h : Hid p) : p := h
theorem ret_bool {a b : Bool} (h : a = b) : Ending.returned (.bool a) = .returned (.bool b) := by rw [h]

set_option maxRecDepth 100000 in
set_option maxHeartbeats 400000 in
theorem sign_any (c : UInt8) (w : World) :
    Calls Tryd.prog 83 #[.int .u8 (c.toNat : Int)] w fun e w' => e = .returned (.bool (Pt.sign c)) ∧ w' = w := by
  have hc := c.toNat_lt
  unfold Pt.sign
  generalize c.toNat = x at *
  go_enter Tryd.func83, Tryd.ntmps83
  go_wp2
  all_goals go_ret
  all_goals refine ⟨ret_bool (Bool.eq_iff_iff.2 ?_), rfl⟩
  all_goals simp only [Bool.or_eq_true, Bool.and_eq_true, decide_eq_true_eq, beq_iff_eq, true_iff]
  all_goals omega

inductive CutAt (s : ByteArray) : ByteArray → ByteArray → Bool → Prop
  | none (h : ∀ x ∈ s.data.toList, x ≠ 47) : CutAt s s ⟨#[]⟩ false
  | some (p r : List UInt8) (h : ∀ x ∈ p, x ≠ 47) (e : s.data.toList = p ++ 47 :: r) : CutAt s (s.extract 0 p.length) (s.extract (p.length + 1) s.size) true

theorem extract_list (s : ByteArray) (a b : Nat) : (s.extract a b).data.toList = (s.data.toList.take b).drop a := by
  rw [ByteArray.data_extract, Array.toList_extract, List.extract_eq_take_drop, List.drop_take]

end Go.Proofs.YthchcjjpplcfnaaDoor.Pth

namespace Go.Proofs.YthchcjjpplcfnaaDoor.Pth
open Go.RowKit

/-- A text of bytes as a value. -/
def str (l : Pt.Bs) : Value := .string ⟨l.toArray⟩
theorem str_data (s : ByteArray) : str s.data.toList = .string s := by simp [str]

def VRow (W : World) (B T : Nat) (vs : List Value) : Prop := W.heap[B]? = some (.cells vs.toArray T (0, 0))

theorem VRow.cell {W : World} {B T : Nat} {vs : List Value} (h : VRow W B T vs) (k : Nat) (v : Value) (hv : vs[k]? = some v) : W.cell? ⟨B, k, none⟩ = some v := by
  rw [cell_of_row W B k vs.toArray T (0, 0) h]
  simpa using hv
theorem VRow.frozen {W : World} {B T : Nat} {vs : List Value} (h : VRow W B T vs) (k : Nat) : W.frozen? ⟨B, k, none⟩ = false := frozen_of_row W B k vs.toArray T h
theorem VRow.set {W : World} {B T : Nat} {vs : List Value} (h : VRow W B T vs) (k : Nat) (v : Value) : VRow (W.setCell ⟨B, k, none⟩ v) B T (vs.set k v) := by
  have := heap_setCell_same W B k vs.toArray T v h
  simpa [VRow] using this
theorem VRow.below {W W' : World} {n B T : Nat} {vs : List Value} (h : VRow W B T vs) (hb : Below n W W') (hn : B < n) : VRow W' B T vs := (hb.block B hn).trans h
theorem VRow.lt {W : World} {B T : Nat} {vs : List Value} (h : VRow W B T vs) : B < W.heap.size := (Array.getElem?_eq_some_iff.1 h).1
theorem VRow.new (W : World) (T : Nat) (vs : List Value) : VRow (W.alloc (.cells vs.toArray T)) W.heap.size T vs := heap_alloc_new W _
theorem VRow.newAt {W : World} {T n : Nat} {vs : List Value} (hn : n = W.heap.size) : VRow (W.alloc (.cells vs.toArray T)) n T vs := by subst hn; exact VRow.new W T vs
theorem VRow.alloc {W : World} {B T : Nat} {vs : List Value} (h : VRow W B T vs) (o : Obj) : VRow (W.alloc o) B T vs := (Below.heap_alloc W o B h.lt).trans h
theorem VRow.drewN {W : World} {B T : Nat} {vs : List Value} (h : VRow W B T vs) (n : Nat) : VRow (W.drewN n) B T vs := h

/-- Nothing turns but block B. -/
structure Only (B : Nat) (w w' : World) : Prop where
  os : w'.os = w.os
  tape : w'.tape = w.tape
  output : w'.output = w.output
  size : w'.heap.size = w.heap.size
  block : ∀ j, j ≠ B → w'.heap[j]? = w.heap[j]?
theorem Only.below {B n : Nat} {w w' : World} (h : Only B w w') (hn : n ≤ B) : Below n w w' := ⟨h.os, h.tape, h.output, Nat.le_of_eq h.size.symm, fun k hk => h.block k (by omega)⟩
theorem VRow.only {W W' : World} {A B T : Nat} {vs : List Value} (h : VRow W A T vs) (ho : Only B W W') (hne : A ≠ B) : VRow W' A T vs := (ho.block A hne).trans h
theorem below_drewN {B : Nat} {a w : World} (h : Below B a w) (q : Nat) : Below B a (w.drewN q) := ⟨h.os, h.tape, h.output, h.size, h.block⟩

theorem load_row {ops : Array Oper} {rest : List Oper} {o : Oper} {a : Act} {w : World} {Q : Exit → Act → World → Prop} (hgd : o.guard = none) (T : TypeId) (x : Operand) (ho : o.op = .load T x)
    (B : Nat) (hx : a.eval x = .pointer (some ⟨B, 0, none⟩)) (T' : TypeId) (vs : List Value) (hr : VRow w B T' vs) (n m : Nat) (e : TypeId) (hu : Tryd.prog.underlying T = some (.array m e))
    (hi : (Tryd.prog.info? T).map (·.size) = some n) (hn : vs.length = n)
    (h : wpList Tryd.prog ops Q rest (a.put o.dst (.agg vs.toArray)) w) : wpList Tryd.prog ops Q (o :: rest) a w :=
  wpList_load_row hgd T x ho B hx T' vs.toArray (0, 0) _ hr hu rfl (by rw [hi]; simp [hn]) h

theorem store_row {ops : Array Oper} {rest : List Oper} {o : Oper} {a : Act} {w : World} {Q : Exit → Act → World → Prop} (hgd : o.guard = none) (T : TypeId) (x y : Operand) (ho : o.op = .store T x y)
    (B : Nat) (vs : List Value) (hx : a.eval x = .pointer (some ⟨B, 0, none⟩)) (hy : a.eval y = .agg vs.toArray) (T' : TypeId) (olds : List Value) (hr : VRow w B T' olds) (n : Nat)
    (hi : (Tryd.prog.info? T).map (·.size) = some n) (hn : vs.length = n) (ho' : olds.length = n) (h1 : ∀ v ∈ vs, v.oneCell' = true)
    (h : ∀ w', Only B w w' → VRow w' B T' vs → wpList Tryd.prog ops Q rest (a.put o.dst undef) w') : wpList Tryd.prog ops Q (o :: rest) a w := by
  refine wpList_store_row hgd T x y ho B vs.toArray hx hy T' olds.toArray hr (by rw [hi]; simp [hn]) (by simp [hn, ho']) (all_oneCell_toArray h1) (h _ ?_ ?_)
  · exact ⟨rfl, rfl, rfl, by simp, fun j hj => setRow_other w B j _ hj⟩
  · exact setRow_heap w B olds.toArray _ T' (0, 0) hr

/-- A result in a row and one in a slot. -/
theorem results_row_int {fn : Func} {p q : Tmp} {ty : TypeId} (h : fn.results = #[.cell p ty, .tmp q]) (tmps : Array Value) (w : World) (g : Nat) (T : TypeId) (vs : List Value) {v : Value}
    (hp : tmps.getD p undef = .pointer (some ⟨g, 0, none⟩)) (hq : tmps.getD q undef = v) (hr : VRow w g T vs) (n m : Nat) (e : TypeId) (hu : Tryd.prog.underlying ty = some (.array m e))
    (hi : (Tryd.prog.info? ty).map (·.size) = some n) (hn : vs.length = n) : (results fn tmps).run Tryd.prog w = .ok (.tuple #[.agg vs.toArray, v]) w := by
  rw [results_cell_tmp h, hp, hq]
  simp only [asAddr, Sem.run_pure, Result.andThen_ok, run_loadVar_row w g T ty vs.toArray (0, 0) _ hr hu rfl (by rw [hi]; simp [hn])]

theorem size99 : (Tryd.prog.info? 99).map (·.size) = some 4 := by kernel_rfl

/-- Up to four texts, and empty ones behind them. -/
def row4 (cs : List Pt.Bs) : List Value := (cs ++ List.replicate (4 - cs.length) []).map str
theorem row4_len (cs : List Pt.Bs) (h : cs.length ≤ 4) : (row4 cs).length = 4 := by simp [row4]; omega
theorem row4_one (cs : List Pt.Bs) : ∀ v ∈ row4 cs, v.oneCell' = true := by
  intro v hv
  obtain ⟨x, _, rfl⟩ := List.mem_map.1 hv
  rfl
theorem row4_set (cs : List Pt.Bs) (p : Pt.Bs) (h : cs.length < 4) : (row4 cs).set cs.length (str p) = row4 (cs ++ [p]) := by
  unfold row4
  rw [← List.map_set]
  congr 1
  obtain ⟨n, hn⟩ : ∃ n, 4 - cs.length = n + 1 := ⟨3 - cs.length, by omega⟩
  rw [hn, List.set_append_right _ _ (Nat.le_refl _), Nat.sub_self, List.replicate_succ, List.set_cons_zero, List.append_assoc]
  simp
  omega
theorem row4_get (cs : List Pt.Bs) (k : Nat) (p : Pt.Bs) (h : cs[k]? = some p) : (row4 cs)[k]? = some (str p) := by
  have hk : k < cs.length := (List.getElem?_eq_some_iff.1 h).1
  unfold row4
  rw [List.getElem?_map, List.getElem?_append_left hk, h]
  rfl
theorem row4_old (cs : List Pt.Bs) (k : Nat) (h : k < 4) (hc : cs.length ≤ 4) : ∃ p, (row4 cs)[k]? = some (str p) := by
  have hk : k < (cs ++ List.replicate (4 - cs.length) ([] : Pt.Bs)).length := by simp; omega
  exact ⟨_, by unfold row4; rw [List.getElem?_map, List.getElem?_eq_getElem hk]; rfl⟩
theorem run_build99 (w : World) : (Instr.build 99 #[]).run Tryd.prog w = .ok (.agg (row4 []).toArray) w := by kernel_rfl
end Go.Proofs.YthchcjjpplcfnaaDoor.Pth

namespace Go.Proofs.YthchcjjpplcfnaaDoor.Pth
open Go.RowKit

theorem piece_cases (p : ByteArray) (n : Nat) (hn : n ≤ 4) :
    p.toList.isEmpty = true ∨ (p.toList.isEmpty = false ∧ (p.toList == [46]) = true) ∨ (p.toList.isEmpty = false ∧ (p.toList == [46]) = false ∧ (p.toList == [46, 46]) = true) ∨
    (p.toList.isEmpty = false ∧ (p.toList == [46]) = false ∧ (p.toList == [46, 46]) = false ∧ n = 4) ∨ (p.toList.isEmpty = false ∧ (p.toList == [46]) = false ∧ (p.toList == [46, 46]) = false ∧ n < 4) := by
  cases p.toList.isEmpty with
  | true => exact .inl rfl
  | false =>
    cases (p.toList == [46]) with
    | true => exact .inr (.inl ⟨rfl, rfl⟩)
    | false =>
      cases (p.toList == [46, 46]) with
      | true => exact .inr (.inr (.inl ⟨rfl, rfl, rfl⟩))
      | false =>
        rcases Nat.lt_or_ge n 4 with h | h
        · exact .inr (.inr (.inr (.inr ⟨rfl, rfl, rfl, h⟩)))
        · exact .inr (.inr (.inr (.inl ⟨rfl, rfl, rfl, by omega⟩)))

theorem not_name (l : Pt.Bs) (h : l.isEmpty = true ∨ (l == [46]) = true ∨ (l == [46, 46]) = true) : Pt.isName l = false := by
  cases hN : Pt.isName l with
  | false => rfl
  | true =>
    exfalso
    obtain ⟨h1, _, h2, h3, _⟩ := (Pt.isName_iff l).1 hN
    rcases h with h | h | h
    · rw [List.isEmpty_iff] at h; rw [h] at h1; simp at h1
    · exact h2 (beq_iff_eq.1 h)
    · exact h3 (beq_iff_eq.1 h)

theorem yes_name (l : Pt.Bs) (h1 : l.isEmpty = false) (h2 : (l == [46]) = false) (h3 : (l == [46, 46]) = false) (h4 : l.length ≤ 12) (h5 : ∀ x ∈ l, Pt.sign x = true) : Pt.isName l = true := by
  refine (Pt.isName_iff l).2 ⟨?_, h4, ?_, ?_, h5⟩
  · cases l with
    | nil => cases h1
    | cons a t => simp
  · intro h; rw [h] at h2; cases h2
  · intro h; rw [h] at h3; cases h3

theorem piece_list (s : ByteArray) (k e : Nat) : (s.extract k e).toList = (s.data.toList.drop k).take (e - k) := by
  rw [Lib.toList_data, ByteArray.data_extract, Array.toList_extract, List.extract_eq_take_drop]

theorem piece_str (s : ByteArray) (k e : Nat) : str ((s.data.toList.drop k).take (e - k)) = .string (s.extract k e) := by
  rw [← piece_list, Lib.toList_data, str_data]

theorem signs_more (l : Pt.Bs) (k e : Nat) (hke : k ≤ e) (he : e < l.length) (h : ∀ x ∈ (l.drop k).take (e - k), Pt.sign x = true) (hx : Pt.sign l[e] = true) : ∀ x ∈ (l.drop k).take (e + 1 - k), Pt.sign x = true := by
  have e1 : (l.drop k).take (e + 1 - k) = (l.drop k).take (e - k) ++ [l[e]] := by
    rw [show e + 1 - k = (e - k) + 1 by omega, List.take_succ_eq_append_getElem (by rw [List.length_drop]; omega), List.getElem_drop]
    congr 2
    congr 1
    omega
  rw [e1]
  intro x hm
  rcases List.mem_append.1 hm with hm | hm
  · exact h x hm
  · rw [List.mem_singleton.1 hm]; exact hx

theorem lit_slash : (⟨#[47]⟩ : ByteArray)[0].toNat = 47 := rfl

set_option maxRecDepth 100000 in
set_option maxHeartbeats 2000000 in
theorem split_any (s : ByteArray) (hs : s.size ≤ 100000) (w : World) :
    Calls Tryd.prog 70 #[.string s] w fun e w' => e = .returned (.tuple #[.agg (row4 (Pt.parts s.data.toList)).toArray, .int .i64 ((Pt.parts s.data.toList).length : Nat)]) ∧ Below w.heap.size w w' := by
  have hbd := run_build99
  obtain ⟨PS, hPS⟩ : ∃ PS, Pt.parts s.data.toList = PS := ⟨_, rfl⟩
  rw [hPS]
  have hP4 : PS.length ≤ 4 := by rw [← hPS]; exact Pt.parts_le _
  have HPS := hide hPS
  clear hPS
  go_enter Tryd.func70, Tryd.ntmps70
  go_wp2_with fail
  go_step3
  go_wp2_with fail
  go_step3
  go_wp2_with fail
  go_loopw [3, 4] (fun c i wr => ∃ (k : Nat) (cs : List Pt.Bs), k ≤ s.size + 1 ∧ c = .int .i64 (cs.length : Nat) ∧ i = .int .i64 k ∧ Pt.Sofar s.data.toList k cs ∧ VRow wr w.heap.size 99 (row4 cs) ∧ Below w.heap.size w wr) (fun _ i _ => s.size + 1 - (intOf i).toNat)
  case atStart => exact ⟨0, [], Nat.zero_le _, rfl, rfl, Pt.Sofar.zero _, VRow.new w 99 (row4 []), (Below.refl _ _).alloc (Nat.le_refl _) _⟩
  case round =>
    obtain ⟨k, cs, hk, rfl, rfl, hso, hrow, hbl⟩ := hrel
    have HS := hide hso
    have HR := hide hrow
    have HB := hide hbl
    have hc4 : cs.length ≤ 4 := hso.few
    have HL := hide (row4_len cs hc4)
    clear hso hrow hbl
    by_cases hle : k ≤ s.size
    · go_wp2_with fail
      go_loopw [5] (fun i wq => ∃ e q : Nat, k ≤ e ∧ e ≤ s.size ∧ e ≤ k + 12 ∧ i = .int .i64 e ∧ (∀ x ∈ (s.data.toList.drop k).take (e - k), Pt.sign x = true) ∧ wq = wr.drewN q) (fun i _ => s.size - (intOf i).toNat)
      case atStart => exact ⟨k, 0, Nat.le_refl _, hle, by omega, rfl, by simp, rfl⟩
      case round =>
        obtain ⟨e, q, hke, hes, hek, rfl, hsg, rfl⟩ := hrel
        have HG := hide hsg
        clear hsg
        by_cases he : e < s.size
        · by_cases h47 : s[e] = 47
          · have h47i : (s[e].toNat : Int) = 47 := by rw [h47]; rfl
            have HE : Hid (e = s.data.toList.length ∨ s.data.toList[e]? = some 47) := hide (.inr (by rw [List.getElem?_eq_getElem he]; exact congrArg some h47))
            clear h47
            have HX := hide (piece_list s k e)
            have HY := hide (piece_str s k e)
            rcases piece_cases (s.extract k e) cs.length hc4 with b1 | ⟨b1, b2⟩ | ⟨b1, b2, b3⟩ | ⟨b1, b2, b3, b4⟩ | ⟨b1, b2, b3, b4⟩
            · have hpf := (unhide HS).stop hke hes (fun x hx => Pt.sign_slash x (unhide HG x hx)) (unhide HE) (.inl (not_name _ (by rw [← unhide HX]; exact .inl b1)))
              obtain rfl : PS = [] := by rw [← unhide HPS, Pt.parts_none _ hpf]
              clear hpf
              go_wp2_with fail
              go_quiet (fail)
              go_wp2_with (refine store_row (by rfl) 99 _ _ (by rfl) w.heap.size (row4 []) (by rfl) (by rfl) 99 (row4 cs) ((unhide HR).drewN _) 4 size99 rfl (unhide HL) (row4_one _) ?_; intro w6 ho6 hr6; have HO6 := hide ho6; have HR6 := hide hr6; clear ho6 hr6)
              rw [Exit.noGoto_ret]
              refine bodyPost_ret (v := .tuple #[.agg (row4 []).toArray, .int .i64 0]) ?_ rfl ⟨rfl, ?_⟩
              · exact results_row_int rfl _ _ w.heap.size 99 _ rfl rfl (unhide HR6) 4 4 9 Tryd.underlying99 size99 rfl
              · exact (below_drewN (unhide HB) _).trans ((unhide HO6).below (Nat.le_refl _))
            · have hpf := (unhide HS).stop hke hes (fun x hx => Pt.sign_slash x (unhide HG x hx)) (unhide HE) (.inl (not_name _ (by rw [← unhide HX]; exact .inr (.inl b2))))
              obtain rfl : PS = [] := by rw [← unhide HPS, Pt.parts_none _ hpf]
              clear hpf
              go_wp2_with fail
              go_quiet (fail)
              go_wp2_with (refine store_row (by rfl) 99 _ _ (by rfl) w.heap.size (row4 []) (by rfl) (by rfl) 99 (row4 cs) ((unhide HR).drewN _) 4 size99 rfl (unhide HL) (row4_one _) ?_; intro w6 ho6 hr6; have HO6 := hide ho6; have HR6 := hide hr6; clear ho6 hr6)
              rw [Exit.noGoto_ret]
              refine bodyPost_ret (v := .tuple #[.agg (row4 []).toArray, .int .i64 0]) ?_ rfl ⟨rfl, ?_⟩
              · exact results_row_int rfl _ _ w.heap.size 99 _ rfl rfl (unhide HR6) 4 4 9 Tryd.underlying99 size99 rfl
              · exact (below_drewN (unhide HB) _).trans ((unhide HO6).below (Nat.le_refl _))
            · have hpf := (unhide HS).stop hke hes (fun x hx => Pt.sign_slash x (unhide HG x hx)) (unhide HE) (.inl (not_name _ (by rw [← unhide HX]; exact .inr (.inr b3))))
              obtain rfl : PS = [] := by rw [← unhide HPS, Pt.parts_none _ hpf]
              clear hpf
              go_wp2_with fail
              go_quiet (fail)
              go_wp2_with (refine store_row (by rfl) 99 _ _ (by rfl) w.heap.size (row4 []) (by rfl) (by rfl) 99 (row4 cs) ((unhide HR).drewN _) 4 size99 rfl (unhide HL) (row4_one _) ?_; intro w6 ho6 hr6; have HO6 := hide ho6; have HR6 := hide hr6; clear ho6 hr6)
              rw [Exit.noGoto_ret]
              refine bodyPost_ret (v := .tuple #[.agg (row4 []).toArray, .int .i64 0]) ?_ rfl ⟨rfl, ?_⟩
              · exact results_row_int rfl _ _ w.heap.size 99 _ rfl rfl (unhide HR6) 4 4 9 Tryd.underlying99 size99 rfl
              · exact (below_drewN (unhide HB) _).trans ((unhide HO6).below (Nat.le_refl _))
            · have hpf := (unhide HS).stop hke hes (fun x hx => Pt.sign_slash x (unhide HG x hx)) (unhide HE) (.inr b4)
              obtain rfl : PS = [] := by rw [← unhide HPS, Pt.parts_none _ hpf]
              have b4i : ((cs.length : Int) == 4) = true := by rw [beq_iff_eq]; omega
              clear hpf b4
              go_wp2_with fail
              go_quiet (fail)
              go_wp2_with (refine store_row (by rfl) 99 _ _ (by rfl) w.heap.size (row4 []) (by rfl) (by rfl) 99 (row4 cs) ((unhide HR).drewN _) 4 size99 rfl (unhide HL) (row4_one _) ?_; intro w6 ho6 hr6; have HO6 := hide ho6; have HR6 := hide hr6; clear ho6 hr6)
              rw [Exit.noGoto_ret]
              refine bodyPost_ret (v := .tuple #[.agg (row4 []).toArray, .int .i64 0]) ?_ rfl ⟨rfl, ?_⟩
              · exact results_row_int rfl _ _ w.heap.size 99 _ rfl rfl (unhide HR6) 4 4 9 Tryd.underlying99 size99 rfl
              · exact (below_drewN (unhide HB) _).trans ((unhide HO6).below (Nat.le_refl _))
            · have hnm : Pt.isName ((s.data.toList.drop k).take (e - k)) = true := yes_name _ (by rw [← unhide HX]; exact b1) (by rw [← unhide HX]; exact b2) (by rw [← unhide HX]; exact b3) (by rw [List.length_take]; omega) (unhide HG)
              have HS2 := hide ((unhide HS).step hke hes (unhide HE) hnm b4)
              have b4i : ((cs.length : Int) == 4) = false := by
                cases h : ((cs.length : Int) == 4) with
                | false => rfl
                | true => rw [beq_iff_eq] at h; omega
              obtain ⟨po, hpo⟩ := row4_old cs cs.length b4 hc4
              have c0 : wr.cell? ⟨w.heap.size, cs.length, none⟩ = some (str po) := (unhide HR).cell cs.length _ hpo
              have f0 := (unhide HR).frozen cs.length
              have HR2 : Hid (∀ n, VRow ((wr.drewN n).setCell ⟨w.heap.size, cs.length, none⟩ (.string (s.extract k e))) w.heap.size 99 (row4 (cs ++ [(s.data.toList.drop k).take (e - k)]))) := by
                intro n
                rw [← row4_set cs _ b4, unhide HY]
                exact ((unhide HR).drewN n).set _ _
              clear hnm hpo
              go_wp2_with fail
              go_quiet (fail)
              go_wp2_with fail
              go_roundw
              case rel => exact ⟨e + 1, cs ++ [(s.data.toList.drop k).take (e - k)], by omega, by rw [List.length_append]; go_num, by go_num, unhide HS2, unhide HR2 _, (below_drewN (unhide HB) _).setCell (p := ⟨w.heap.size, cs.length, none⟩) (Nat.le_refl _) _⟩
              case measure => simp [intOf]; omega
          · have h47i : ((s[e].toNat : Int) != ((⟨#[47]⟩ : ByteArray)[0].toNat : Int)) = true := by
              rw [lit_slash, bne_iff_ne]
              intro h
              exact absurd (UInt8.toNat_inj.1 (by show s[e].toNat = 47; omega)) h47
            have h3 := hide (sign_any s[e])
            cases hsi : Pt.sign s[e] with
            | false =>
              rw [hsi] at h3
              have hpf := (unhide HS).break_ hke he (fun x hx => Pt.sign_slash x (unhide HG x hx)) h47 (.inl hsi)
              obtain rfl : PS = [] := by rw [← unhide HPS, Pt.parts_none _ hpf]
              clear hpf h47 hsi
              go_wp2_with fail
              go_quiet (fail)
              go_wp2_with (first
                | (go_at_call 83; refine (unhide h3 _).mono ?_; rintro e w' ⟨rfl, rfl⟩)
                | (refine store_row (by rfl) 99 _ _ (by rfl) w.heap.size (row4 []) (by rfl) (by rfl) 99 (row4 cs) ((unhide HR).drewN _) 4 size99 rfl (unhide HL) (row4_one _) ?_; intro w6 ho6 hr6; have HO6 := hide ho6; have HR6 := hide hr6; clear ho6 hr6))
              rw [Exit.noGoto_ret]
              refine bodyPost_ret (v := .tuple #[.agg (row4 []).toArray, .int .i64 0]) ?_ rfl ⟨rfl, ?_⟩
              · exact results_row_int rfl _ _ w.heap.size 99 _ rfl rfl (unhide HR6) 4 4 9 Tryd.underlying99 size99 rfl
              · exact (below_drewN (unhide HB) _).trans ((unhide HO6).below (Nat.le_refl _))
            | true =>
              rw [hsi] at h3
              by_cases h12 : e - k = 12
              · have hpf := (unhide HS).break_ hke he (fun x hx => Pt.sign_slash x (unhide HG x hx)) h47 (.inr h12)
                obtain rfl : PS = [] := by rw [← unhide HPS, Pt.parts_none _ hpf]
                have h12i : ((e : Int) - (k : Int) == 12) = true := by rw [beq_iff_eq]; omega
                clear hpf h47 hsi h12
                go_wp2_with fail
                go_quiet (fail)
                go_wp2_with (first
                  | (go_at_call 83; refine (unhide h3 _).mono ?_; rintro e w' ⟨rfl, rfl⟩)
                  | (refine store_row (by rfl) 99 _ _ (by rfl) w.heap.size (row4 []) (by rfl) (by rfl) 99 (row4 cs) ((unhide HR).drewN _) 4 size99 rfl (unhide HL) (row4_one _) ?_; intro w6 ho6 hr6; have HO6 := hide ho6; have HR6 := hide hr6; clear ho6 hr6))
                rw [Exit.noGoto_ret]
                refine bodyPost_ret (v := .tuple #[.agg (row4 []).toArray, .int .i64 0]) ?_ rfl ⟨rfl, ?_⟩
                · exact results_row_int rfl _ _ w.heap.size 99 _ rfl rfl (unhide HR6) 4 4 9 Tryd.underlying99 size99 rfl
                · exact (below_drewN (unhide HB) _).trans ((unhide HO6).below (Nat.le_refl _))
              · have h12i : ((e : Int) - (k : Int) == 12) = false := by
                  cases h : ((e : Int) - (k : Int) == 12) with
                  | false => rfl
                  | true => rw [beq_iff_eq] at h; omega
                have HG2 := hide (signs_more s.data.toList k e hke he (unhide HG) hsi)
                clear h47 hsi
                go_wp2_with fail
                go_quiet (fail)
                go_wp2_with (go_at_call 83; refine (unhide h3 _).mono ?_; rintro e w' ⟨rfl, rfl⟩)
                go_roundw
                case rel => exact ⟨e + 1, q + nq, by omega, by omega, by omega, by go_num, unhide HG2, by first | rfl | rw [World.drewN_drewN]⟩
                case measure => simp [intOf]; omega
        · obtain rfl : e = s.size := by omega
          have HE : Hid (s.size = s.data.toList.length ∨ s.data.toList[s.size]? = some 47) := hide (.inl rfl)
          have HX := hide (piece_list s k s.size)
          have HY := hide (piece_str s k s.size)
          rcases piece_cases (s.extract k s.size) cs.length hc4 with b1 | ⟨b1, b2⟩ | ⟨b1, b2, b3⟩ | ⟨b1, b2, b3, b4⟩ | ⟨b1, b2, b3, b4⟩
          · have hpf := (unhide HS).stop hke hes (fun x hx => Pt.sign_slash x (unhide HG x hx)) (unhide HE) (.inl (not_name _ (by rw [← unhide HX]; exact .inl b1)))
            obtain rfl : PS = [] := by rw [← unhide HPS, Pt.parts_none _ hpf]
            clear hpf
            go_wp2_with fail
            go_quiet (fail)
            go_wp2_with (refine store_row (by rfl) 99 _ _ (by rfl) w.heap.size (row4 []) (by rfl) (by rfl) 99 (row4 cs) ((unhide HR).drewN _) 4 size99 rfl (unhide HL) (row4_one _) ?_; intro w6 ho6 hr6; have HO6 := hide ho6; have HR6 := hide hr6; clear ho6 hr6)
            rw [Exit.noGoto_ret]
            refine bodyPost_ret (v := .tuple #[.agg (row4 []).toArray, .int .i64 0]) ?_ rfl ⟨rfl, ?_⟩
            · exact results_row_int rfl _ _ w.heap.size 99 _ rfl rfl (unhide HR6) 4 4 9 Tryd.underlying99 size99 rfl
            · exact (below_drewN (unhide HB) _).trans ((unhide HO6).below (Nat.le_refl _))
          · have hpf := (unhide HS).stop hke hes (fun x hx => Pt.sign_slash x (unhide HG x hx)) (unhide HE) (.inl (not_name _ (by rw [← unhide HX]; exact .inr (.inl b2))))
            obtain rfl : PS = [] := by rw [← unhide HPS, Pt.parts_none _ hpf]
            clear hpf
            go_wp2_with fail
            go_quiet (fail)
            go_wp2_with (refine store_row (by rfl) 99 _ _ (by rfl) w.heap.size (row4 []) (by rfl) (by rfl) 99 (row4 cs) ((unhide HR).drewN _) 4 size99 rfl (unhide HL) (row4_one _) ?_; intro w6 ho6 hr6; have HO6 := hide ho6; have HR6 := hide hr6; clear ho6 hr6)
            rw [Exit.noGoto_ret]
            refine bodyPost_ret (v := .tuple #[.agg (row4 []).toArray, .int .i64 0]) ?_ rfl ⟨rfl, ?_⟩
            · exact results_row_int rfl _ _ w.heap.size 99 _ rfl rfl (unhide HR6) 4 4 9 Tryd.underlying99 size99 rfl
            · exact (below_drewN (unhide HB) _).trans ((unhide HO6).below (Nat.le_refl _))
          · have hpf := (unhide HS).stop hke hes (fun x hx => Pt.sign_slash x (unhide HG x hx)) (unhide HE) (.inl (not_name _ (by rw [← unhide HX]; exact .inr (.inr b3))))
            obtain rfl : PS = [] := by rw [← unhide HPS, Pt.parts_none _ hpf]
            clear hpf
            go_wp2_with fail
            go_quiet (fail)
            go_wp2_with (refine store_row (by rfl) 99 _ _ (by rfl) w.heap.size (row4 []) (by rfl) (by rfl) 99 (row4 cs) ((unhide HR).drewN _) 4 size99 rfl (unhide HL) (row4_one _) ?_; intro w6 ho6 hr6; have HO6 := hide ho6; have HR6 := hide hr6; clear ho6 hr6)
            rw [Exit.noGoto_ret]
            refine bodyPost_ret (v := .tuple #[.agg (row4 []).toArray, .int .i64 0]) ?_ rfl ⟨rfl, ?_⟩
            · exact results_row_int rfl _ _ w.heap.size 99 _ rfl rfl (unhide HR6) 4 4 9 Tryd.underlying99 size99 rfl
            · exact (below_drewN (unhide HB) _).trans ((unhide HO6).below (Nat.le_refl _))
          · have hpf := (unhide HS).stop hke hes (fun x hx => Pt.sign_slash x (unhide HG x hx)) (unhide HE) (.inr b4)
            obtain rfl : PS = [] := by rw [← unhide HPS, Pt.parts_none _ hpf]
            have b4i : ((cs.length : Int) == 4) = true := by rw [beq_iff_eq]; omega
            clear hpf b4
            go_wp2_with fail
            go_quiet (fail)
            go_wp2_with (refine store_row (by rfl) 99 _ _ (by rfl) w.heap.size (row4 []) (by rfl) (by rfl) 99 (row4 cs) ((unhide HR).drewN _) 4 size99 rfl (unhide HL) (row4_one _) ?_; intro w6 ho6 hr6; have HO6 := hide ho6; have HR6 := hide hr6; clear ho6 hr6)
            rw [Exit.noGoto_ret]
            refine bodyPost_ret (v := .tuple #[.agg (row4 []).toArray, .int .i64 0]) ?_ rfl ⟨rfl, ?_⟩
            · exact results_row_int rfl _ _ w.heap.size 99 _ rfl rfl (unhide HR6) 4 4 9 Tryd.underlying99 size99 rfl
            · exact (below_drewN (unhide HB) _).trans ((unhide HO6).below (Nat.le_refl _))
          · have hnm : Pt.isName ((s.data.toList.drop k).take (s.size - k)) = true := yes_name _ (by rw [← unhide HX]; exact b1) (by rw [← unhide HX]; exact b2) (by rw [← unhide HX]; exact b3) (by rw [List.length_take]; omega) (unhide HG)
            have HS2 := hide ((unhide HS).step hke hes (unhide HE) hnm b4)
            have b4i : ((cs.length : Int) == 4) = false := by
              cases h : ((cs.length : Int) == 4) with
              | false => rfl
              | true => rw [beq_iff_eq] at h; omega
            obtain ⟨po, hpo⟩ := row4_old cs cs.length b4 hc4
            have c0 : wr.cell? ⟨w.heap.size, cs.length, none⟩ = some (str po) := (unhide HR).cell cs.length _ hpo
            have f0 := (unhide HR).frozen cs.length
            have HR2 : Hid (∀ n, VRow ((wr.drewN n).setCell ⟨w.heap.size, cs.length, none⟩ (.string (s.extract k s.size))) w.heap.size 99 (row4 (cs ++ [(s.data.toList.drop k).take (s.size - k)]))) := by
              intro n
              rw [← row4_set cs _ b4, unhide HY]
              exact ((unhide HR).drewN n).set _ _
            clear hnm hpo
            go_wp2_with fail
            go_quiet (fail)
            go_wp2_with fail
            go_roundw
            case rel => exact ⟨s.size + 1, cs ++ [(s.data.toList.drop k).take (s.size - k)], by omega, by rw [List.length_append]; go_num, by go_num, unhide HS2, unhide HR2 _, (below_drewN (unhide HB) _).setCell (p := ⟨w.heap.size, cs.length, none⟩) (Nat.le_refl _) _⟩
            case measure => simp [intOf]; omega
    · obtain rfl : k = s.size + 1 := by omega
      obtain ⟨hp, hpc⟩ := (unhide HS).done (by show s.size < _; omega)
      have hPc : PS = cs := by rw [← unhide HPS, Pt.parts_path _ hp, hpc]
      subst hPc
      clear hp hpc
      go_wp2_with (first
        | (refine load_row (by rfl) 99 _ (by rfl) w.heap.size (by rfl) 99 _ (unhide HR) 4 4 9 Tryd.underlying99 size99 (row4_len _ hP4) ?_)
        | (refine store_row (by rfl) 99 _ _ (by rfl) w.heap.size (row4 PS) (by rfl) (by rfl) 99 (row4 PS) (unhide HR) 4 size99 (row4_len _ hP4) (row4_len _ hP4) (row4_one _) ?_; intro w6 ho6 hr6; have HO6 := hide ho6; have HR6 := hide hr6; clear ho6 hr6))
      rw [Exit.noGoto_ret]
      refine bodyPost_ret (v := .tuple #[.agg (row4 PS).toArray, .int .i64 (PS.length : Nat)]) ?_ rfl ⟨rfl, ?_⟩
      · exact results_row_int rfl _ _ w.heap.size 99 _ rfl rfl (unhide HR6) 4 4 9 Tryd.underlying99 size99 (row4_len _ hP4)
      · exact (unhide HB).trans ((unhide HO6).below (Nat.le_refl _))
end Go.Proofs.YthchcjjpplcfnaaDoor.Pth

namespace Go.Proofs.YthchcjjpplcfnaaDoor.Pth
open Go.RowKit

theorem below_grow {n : Nat} {w w1 w2 : World} (h : Below n w w1) (hn : n ≤ w.heap.size) (h2 : Below w1.heap.size w1 w2) : Below n w w2 := h.trans (h2.mono (Nat.le_trans hn h.size))

set_option maxRecDepth 100000 in
set_option maxHeartbeats 1000000 in
theorem name_any (s : ByteArray) (hs : s.size ≤ 100000) (w : World) :
    Calls Tryd.prog 50 #[.string s] w fun e w' => e = .returned (.bool (Pt.isName s.data.toList)) ∧ Below w.heap.size w w' := by
  have HC := hide (split_any s hs)
  have HN := hide (Pt.parts_one s.data.toList)
  have hP4 := Pt.parts_le s.data.toList
  obtain ⟨PS, hPS⟩ : ∃ PS, Pt.parts s.data.toList = PS := ⟨_, rfl⟩
  rw [hPS] at HC HN hP4
  have HL := hide (row4_len PS hP4)
  have H1 := hide (row4_one PS)
  generalize row4 PS = R at HC HL H1
  clear hPS hs
  go_enter Tryd.func50, Tryd.ntmps50
  go_wp2_with (first
    | (go_at_call 70; refine (unhide HC _).mono ?_; rintro e w1 ⟨rfl, hb1⟩; have HB1 := hide hb1; clear hb1)
    | (refine store_row (by rfl) 99 _ _ (by rfl) w1.heap.size R (by rfl) (by rfl) 99 (row4 []) (VRow.newAt rfl) 4 size99 (unhide HL) rfl (unhide H1) ?_; intro w2 ho2 hr2; have HB2 := hide (((unhide HB1).alloc (unhide HB1).size _).trans (ho2.below (unhide HB1).size)); clear ho2 hr2))
  go_ret
  refine ⟨ret_bool ?_, unhide HB2⟩
  rw [← unhide HN, Bool.eq_iff_iff, beq_iff_eq, decide_eq_true_eq]
  omega

end Go.Proofs.YthchcjjpplcfnaaDoor.Pth

namespace Go.Proofs.YthchcjjpplcfnaaDoor.Pth
open Go.RowKit

theorem sign_true (b : UInt8) (h : Pt.sign b = true) : (97 ≤ b.toNat ∧ b.toNat ≤ 122) ∨ (48 ≤ b.toNat ∧ b.toNat ≤ 57) ∨ b.toNat = 46 ∨ b.toNat = 95 ∨ b.toNat = 45 := by
  unfold Pt.sign at h
  simp only [Bool.or_eq_true, Bool.and_eq_true, decide_eq_true_eq] at h
  omega
theorem sign_false (b : UInt8) (h : Pt.sign b = false) : (b.toNat < 97 ∨ 122 < b.toNat) ∧ (b.toNat < 48 ∨ 57 < b.toNat) ∧ b.toNat ≠ 46 ∧ b.toNat ≠ 95 ∧ b.toNat ≠ 45 := by
  have : ¬ Pt.sign b = true := by rw [h]; decide
  unfold Pt.sign at this
  simp only [Bool.or_eq_true, Bool.and_eq_true, decide_eq_true_eq] at this
  omega

set_option maxRecDepth 100000 in
set_option maxHeartbeats 1000000 in
theorem refName_any (s : ByteArray) (hs : s.size ≤ 100000) (w : World) :
    Calls Tryd.prog 33 #[.string s] w fun e w' => e = .returned (.bool (Pt.isName s.data.toList)) ∧ w' = w := by
  have hsz : s.data.toList.length = s.size := rfl
  obtain ⟨N, hN⟩ : ∃ N, Pt.isName s.data.toList = N := ⟨_, rfl⟩
  rw [hN]
  have HI := hide (Pt.isName_iff s.data.toList)
  rw [hN, hsz] at HI
  have HT := hide (Lib.toList_data s)
  clear hN hsz
  have no : (¬ (N = true)) → N = false := fun h => by cases N with | false => rfl | true => exact absurd rfl h
  by_cases h1 : s.size < 1
  · obtain rfl := no fun h => by have := (unhide HI).1 h; omega
    clear no
    go_enter Tryd.func33, Tryd.ntmps33
    go_wp2_with fail
    go_ret
    exact ⟨rfl, rfl⟩
  · by_cases h2 : 12 < s.size
    · obtain rfl := no fun h => by have := (unhide HI).1 h; omega
      clear no
      go_enter Tryd.func33, Tryd.ntmps33
      go_wp2_with fail
      go_ret
      exact ⟨rfl, rfl⟩
    · cases h3 : (s.toList == [46]) with
      | true =>
        obtain rfl := no fun h => ((unhide HI).1 h).2.2.1 (by rw [← unhide HT]; exact beq_iff_eq.1 h3)
        clear no
        go_enter Tryd.func33, Tryd.ntmps33
        go_wp2_with fail
        go_ret
        exact ⟨rfl, rfl⟩
      | false =>
        cases h4 : (s.toList == [46, 46]) with
        | true =>
          obtain rfl := no fun h => ((unhide HI).1 h).2.2.2.1 (by rw [← unhide HT]; exact beq_iff_eq.1 h4)
          clear no
          go_enter Tryd.func33, Tryd.ntmps33
          go_wp2_with fail
          go_ret
          exact ⟨rfl, rfl⟩
        | false =>
          have n3 : s.data.toList ≠ [46] := fun h => by rw [unhide HT, h] at h3; cases h3
          have n4 : s.data.toList ≠ [46, 46] := fun h => by rw [unhide HT, h] at h4; cases h4
          have N3 := hide n3
          have N4 := hide n4
          have NO := hide no
          clear n3 n4 no
          go_enter Tryd.func33, Tryd.ntmps33
          go_wp2_with fail
          go_loopw [3] (fun i wr => ∃ k : Nat, k ≤ s.size ∧ i = .int .i64 k ∧ (∀ (j : Nat) (hj : j < s.size), j < k → Pt.sign s[j] = true) ∧ wr = w) (fun i _ => s.size - (intOf i).toNat)
          case atStart => exact ⟨0, Nat.zero_le _, rfl, fun j _ hj => absurd hj (Nat.not_lt_zero _), rfl⟩
          case round =>
            obtain ⟨k, hk, rfl, hall, rfl⟩ := hrel
            have HALL := hide hall
            clear hall
            by_cases hlt : k < s.size
            · cases hsi : Pt.sign s[k] with
              | true =>
                have hx := sign_true _ hsi
                have HALL2 : Hid (∀ (j : Nat) (hj : j < s.size), j < k + 1 → Pt.sign s[j] = true) := by
                  intro j hj hjk
                  by_cases e : j = k
                  · subst e; exact hsi
                  · exact unhide HALL j hj (by omega)
                clear hsi
                rcases hx with ⟨x1, x2⟩ | ⟨x1, x2⟩ | x1 | x1 | x1
                all_goals
                  go_wp2_with fail
                  go_roundw
                  case rel => exact ⟨k + 1, by omega, by go_num, unhide HALL2, by first | rfl | trivial⟩
                  case measure => simp [intOf]; omega
              | false =>
                have hx := sign_false _ hsi
                obtain rfl := unhide NO fun h => by
                  have := ((unhide HI).1 h).2.2.2.2 s[k] (List.getElem_mem (l := s.data.toList) hlt)
                  rw [hsi] at this
                  cases this
                clear hsi
                obtain ⟨x1, x2, x3, x4, x5⟩ := hx
                have y3 : ((s[k].toNat : Int) != 46) = true := by rw [bne_iff_ne]; omega
                have y4 : ((s[k].toNat : Int) != 95) = true := by rw [bne_iff_ne]; omega
                have y5 : ((s[k].toNat : Int) != 45) = true := by rw [bne_iff_ne]; omega
                have z : s[k].toNat < 48 ∨ (57 < s[k].toNat ∧ s[k].toNat < 97) ∨ 122 < s[k].toNat := by omega
                clear x1 x2 x3 x4 x5
                rcases z with z | ⟨z, z2⟩ | z
                all_goals
                  go_wp2_with fail
                  go_ret
                  exact ⟨rfl, rfl⟩
            · obtain rfl : k = s.size := by omega
              obtain rfl : N = true := (unhide HI).2 ⟨by omega, by omega, unhide N3, unhide N4, fun x hx => by
                obtain ⟨j, hj, rfl⟩ := List.mem_iff_getElem.1 hx
                exact unhide HALL j hj hj⟩
              go_wp2_with fail
              go_ret
              exact ⟨rfl, rfl⟩
end Go.Proofs.YthchcjjpplcfnaaDoor.Pth
