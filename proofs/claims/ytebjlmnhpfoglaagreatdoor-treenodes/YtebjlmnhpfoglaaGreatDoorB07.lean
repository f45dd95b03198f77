/-
  Plain facts on texts, their pieces and the order of pieces: no program, no world. Conditions: none but those that each theorem names.
-/
import Derived.Test.YtebjlmnhpfoglaaGreatDoorB06
import Derived.Lib.Strings

namespace Go.Proofs.YtebjlmnhpfoglaaGreatDoor.Pth.Pt

abbrev Bs := List UInt8

/-- What stands between slashes. -/
def pieces : Bs → List Bs
  | [] => [[]]
  | b :: l => if b = 47 then [] :: pieces l else
      match pieces l with
      | [] => [[b]]
      | p :: r => (b :: p) :: r

theorem pieces_cons : ∀ l : Bs, ∃ p r, pieces l = p :: r
  | [] => ⟨[], [], rfl⟩
  | b :: l => by
    unfold pieces
    split
    · exact ⟨_, _, rfl⟩
    · obtain ⟨p, r, h⟩ := pieces_cons l
      rw [h]
      exact ⟨_, _, rfl⟩

theorem pieces_ne (l : Bs) : pieces l ≠ [] := by
  obtain ⟨p, r, h⟩ := pieces_cons l
  rw [h]
  exact List.cons_ne_nil _ _

theorem pieces_pos (l : Bs) : 1 ≤ (pieces l).length := by
  obtain ⟨p, r, h⟩ := pieces_cons l
  rw [h]
  simp

/-- No slash in what goes ahead: the first piece begins with it. -/
theorem pieces_ahead : ∀ (a b p : Bs) (r : List Bs), (∀ x ∈ a, x ≠ 47) → pieces b = p :: r → pieces (a ++ b) = (a ++ p) :: r
  | [], _, _, _, _, h => h
  | x :: a, b, p, r, hn, h => by
    have ih := pieces_ahead a b p r (fun y hy => hn y (List.mem_cons_of_mem _ hy)) h
    have hx : ¬ x = 47 := hn x (List.mem_cons_self ..)
    rw [List.cons_append]
    unfold pieces
    rw [if_neg hx, ih]
    rfl

theorem pieces_slash : ∀ a b : Bs, pieces (a ++ 47 :: b) = pieces a ++ pieces b
  | [], b => by simp [pieces]
  | x :: a, b => by
    have ih := pieces_slash a b
    rw [List.cons_append]
    by_cases hx : x = 47
    · rw [pieces, if_pos hx, pieces, if_pos hx, ih]; rfl
    · obtain ⟨p, r, h⟩ := pieces_cons a
      rw [pieces, if_neg hx, pieces, if_neg hx, ih, h]; rfl

theorem pieces_none (a : Bs) (h : ∀ x ∈ a, x ≠ 47) : pieces a = [a] := by
  have := pieces_ahead a [] [] [] h rfl
  simpa using this

theorem pieces_cut (a b : Bs) (h : ∀ x ∈ a, x ≠ 47) : pieces (a ++ 47 :: b) = a :: pieces b := by
  rw [pieces_slash, pieces_none a h]; rfl

theorem pieces_mem : ∀ (l p : Bs), p ∈ pieces l → ∀ x ∈ p, x ≠ 47
  | [], p, h, x, hx => by simp [pieces] at h; subst h; cases hx
  | b :: l, p, h, x, hx => by
    unfold pieces at h
    split at h
    · rcases List.mem_cons.1 h with rfl | h
      · cases hx
      · exact pieces_mem l p h x hx
    · rename_i hb
      obtain ⟨q, r, e⟩ := pieces_cons l
      rw [e] at h
      rcases List.mem_cons.1 h with rfl | h
      · rcases List.mem_cons.1 hx with rfl | hx
        · exact hb
        · exact pieces_mem l q (by rw [e]; exact List.mem_cons_self ..) x hx
      · exact pieces_mem l p (by rw [e]; exact List.mem_cons_of_mem _ h) x hx

/-- Names with a slash between each two. -/
def joinP : List Bs → Bs
  | [] => []
  | p :: r => match r with
    | [] => p
    | _ :: _ => p ++ 47 :: joinP r

theorem joinP_one (p : Bs) : joinP [p] = p := rfl
theorem joinP_two (p q : Bs) (r : List Bs) : joinP (p :: q :: r) = p ++ 47 :: joinP (q :: r) := rfl
theorem joinP_cons (p : Bs) (r : List Bs) (h : r ≠ []) : joinP (p :: r) = p ++ 47 :: joinP r := by
  cases r with
  | nil => exact absurd rfl h
  | cons q r => rfl

theorem joinP_bcons (b : UInt8) (p : Bs) (r : List Bs) : joinP ((b :: p) :: r) = b :: joinP (p :: r) := by
  cases r <;> rfl

theorem join_pieces : ∀ l : Bs, joinP (pieces l) = l
  | [] => rfl
  | b :: l => by
    have ih := join_pieces l
    obtain ⟨p, r, e⟩ := pieces_cons l
    unfold pieces
    split
    · rename_i hb
      rw [joinP_cons _ _ (pieces_ne l), ih, hb]; rfl
    · rw [e]
      rw [e] at ih
      show joinP ((b :: p) :: r) = b :: l
      rw [joinP_bcons, ih]

theorem pieces_join : ∀ ps : List Bs, ps ≠ [] → (∀ p ∈ ps, ∀ x ∈ p, x ≠ 47) → pieces (joinP ps) = ps
  | [], h, _ => absurd rfl h
  | [p], _, hn => by rw [joinP_one]; exact pieces_none p (hn p (List.mem_cons_self ..))
  | p :: q :: r, _, hn => by
    rw [joinP_two, pieces_cut _ _ (hn p (List.mem_cons_self ..)), pieces_join (q :: r) (List.cons_ne_nil _ _) fun y hy => hn y (List.mem_cons_of_mem _ hy)]

theorem pieces_inj (a b : Bs) (h : pieces a = pieces b) : a = b := by
  rw [← join_pieces a, ← join_pieces b, h]

theorem joinP_snoc : ∀ (ps : List Bs) (q : Bs), ps ≠ [] → joinP (ps ++ [q]) = joinP ps ++ 47 :: q
  | [], _, h => absurd rfl h
  | [p], q, _ => rfl
  | p :: p' :: r, q, _ => by
    have ih := joinP_snoc (p' :: r) q (List.cons_ne_nil _ _)
    show joinP (p :: p' :: (r ++ [q])) = _
    rw [joinP_two, joinP_two]
    have : p' :: (r ++ [q]) = (p' :: r) ++ [q] := rfl
    rw [this, ih]
    simp

theorem joinP_append : ∀ (ps qs : List Bs), ps ≠ [] → qs ≠ [] → joinP (ps ++ qs) = joinP ps ++ 47 :: joinP qs
  | [], _, h, _ => absurd rfl h
  | [p], qs, _, hq => by rw [joinP_one]; exact joinP_cons p qs hq
  | p :: p' :: r, qs, _, hq => by
    have ih := joinP_append (p' :: r) qs (List.cons_ne_nil _ _) hq
    show joinP (p :: p' :: (r ++ qs)) = _
    rw [joinP_two, joinP_two]
    have : p' :: (r ++ qs) = (p' :: r) ++ qs := rfl
    rw [this, ih]
    simp

/-- One byte more: the last piece gets it, or a new one begins. -/
theorem pieces_snoc_slash (l : Bs) : pieces (l ++ [47]) = pieces l ++ [[]] := by
  rw [pieces_slash]; rfl

theorem pieces_snoc : ∀ (l : Bs) (b : UInt8) (ps : List Bs) (q : Bs), b ≠ 47 → pieces l = ps ++ [q] → pieces (l ++ [b]) = ps ++ [q ++ [b]]
  | [], b, ps, q, hb, h => by
    cases ps with
    | nil => simp [pieces] at h; subst h; simp [pieces, hb]
    | cons a t => simp [pieces] at h
  | x :: l, b, ps, q, hb, h => by
    obtain ⟨p, r, e⟩ := pieces_cons l
    rw [List.cons_append]
    unfold pieces at h ⊢
    split at h
    · rename_i hx
      rw [if_pos hx]
      cases ps with
      | nil => simp at h; exact absurd h.2 (pieces_ne l)
      | cons a t =>
        simp only [List.cons_append, List.cons.injEq] at h
        rw [pieces_snoc l b t q hb h.2, ← h.1]; rfl
    · rename_i hx
      rw [if_neg hx]
      rw [e] at h
      cases ps with
      | nil =>
        simp at h
        have e' : pieces l = [] ++ [p] := by rw [e, h.2]; rfl
        rw [pieces_snoc l b [] p hb e', ← h.1]
        rfl
      | cons a t =>
        simp only [List.cons_append, List.cons.injEq] at h
        have e' : pieces l = (p :: t) ++ [q] := by rw [e, h.2]; rfl
        rw [pieces_snoc l b (p :: t) q hb e', ← h.1]
        rfl

/-! ### names and paths -/

def sign (b : UInt8) : Bool := (decide (97 ≤ b.toNat) && decide (b.toNat ≤ 122)) || (decide (48 ≤ b.toNat) && decide (b.toNat ≤ 57)) || decide (b.toNat = 46) || decide (b.toNat = 95) || decide (b.toNat = 45)

theorem sign_slash (b : UInt8) (h : sign b = true) : b ≠ 47 := by
  rintro rfl
  revert h
  decide

def isName (l : Bs) : Bool := decide (1 ≤ l.length) && decide (l.length ≤ 12) && decide (l ≠ [46]) && decide (l ≠ [46, 46]) && l.all sign

theorem isName_iff (l : Bs) : isName l = true ↔ 1 ≤ l.length ∧ l.length ≤ 12 ∧ l ≠ [46] ∧ l ≠ [46, 46] ∧ ∀ x ∈ l, sign x = true := by
  unfold isName
  simp only [Bool.and_eq_true, decide_eq_true_eq, List.all_eq_true]
  constructor
  · rintro ⟨⟨⟨⟨a, b⟩, c⟩, d⟩, e⟩; exact ⟨a, b, c, d, e⟩
  · rintro ⟨a, b, c, d, e⟩; exact ⟨⟨⟨⟨a, b⟩, c⟩, d⟩, e⟩

theorem isName_slash (l : Bs) (h : isName l = true) : ∀ x ∈ l, x ≠ 47 := fun x hx => sign_slash x (((isName_iff l).1 h).2.2.2.2 x hx)

def isPath (l : Bs) : Bool := decide ((pieces l).length ≤ 4) && (pieces l).all isName

theorem isPath_iff (l : Bs) : isPath l = true ↔ (pieces l).length ≤ 4 ∧ ∀ p ∈ pieces l, isName p = true := by
  unfold isPath
  simp only [Bool.and_eq_true, decide_eq_true_eq, List.all_eq_true]

def parts (l : Bs) : List Bs := if isPath l = true then pieces l else []

def check (l : Bs) : Int := if 51 < l.length then 2 else if isPath l = true then 0 else 1

/-- How long what is joined may be. -/
theorem joinP_length : ∀ ps : List Bs, (∀ p ∈ ps, p.length ≤ 12) → (joinP ps).length + 1 ≤ 13 * ps.length + (if ps = [] then 1 else 0)
  | [], _ => by simp [joinP]
  | [p], h => by have := h p (List.mem_cons_self ..); simp [joinP]; omega
  | p :: q :: r, h => by
    have ih := joinP_length (q :: r) fun y hy => h y (List.mem_cons_of_mem _ hy)
    have := h p (List.mem_cons_self ..)
    rw [joinP_two]
    simp only [List.length_append, List.length_cons, reduceCtorEq, if_false] at ih ⊢
    omega

theorem path_length (l : Bs) (h : isPath l = true) : l.length ≤ 51 := by
  obtain ⟨h4, hn⟩ := (isPath_iff l).1 h
  have := joinP_length (pieces l) fun p hp => ((isName_iff p).1 (hn p hp)).2.1
  rw [join_pieces, if_neg (pieces_ne l)] at this
  omega

theorem check_ok (l : Bs) : check l = 0 ↔ isPath l = true := by
  unfold check
  constructor
  · intro h
    split at h
    · exact absurd h (by decide)
    · split at h
      · assumption
      · exact absurd h (by decide)
  · intro h
    have := path_length l h
    rw [if_neg (by omega), if_pos h]

/-- A name alone is a path of one piece, and such a path is a name. -/
theorem name_path (l : Bs) (h : isName l = true) : pieces l = [l] ∧ isPath l = true := by
  have e := pieces_none l (isName_slash l h)
  refine ⟨e, (isPath_iff l).2 ?_⟩
  rw [e]
  refine ⟨by simp, ?_⟩
  intro p hp
  rw [List.mem_singleton.1 hp]
  exact h

theorem path_name (l : Bs) (h : isPath l = true) (h1 : (pieces l).length = 1) : isName l = true := by
  obtain ⟨_, hn⟩ := (isPath_iff l).1 h
  obtain ⟨p, e⟩ := List.length_eq_one_iff.1 h1
  have := join_pieces l
  rw [e, joinP_one] at this
  subst this
  exact hn p (by rw [e]; exact List.mem_cons_self ..)

theorem parts_one (l : Bs) : decide ((parts l).length = 1) = isName l := by
  unfold parts
  cases hn : isName l with
  | true =>
    obtain ⟨e, hp⟩ := name_path l hn
    rw [if_pos hp, e]; rfl
  | false =>
    split
    · rename_i hp
      refine decide_eq_false fun h1 => ?_
      rw [path_name l hp h1] at hn
      exact Bool.noConfusion hn
    · rfl

theorem parts_pos (l : Bs) : decide (0 < (parts l).length) = isPath l := by
  unfold parts
  cases hp : isPath l with
  | true => rw [if_pos rfl]; have := pieces_pos l; exact decide_eq_true (by omega)
  | false => rw [if_neg (by decide)]; rfl

theorem parts_path (l : Bs) (h : isPath l = true) : parts l = pieces l := if_pos h
theorem parts_none (l : Bs) (h : isPath l = false) : parts l = [] := if_neg (by rw [h]; decide)
theorem parts_le (l : Bs) : (parts l).length ≤ 4 := by
  unfold parts
  split
  · rename_i h; exact ((isPath_iff l).1 h).1
  · simp
theorem parts_names (l : Bs) : ∀ p ∈ parts l, isName p = true := by
  unfold parts
  split
  · rename_i h; exact ((isPath_iff l).1 h).2
  · intro p hp; cases hp

/-! ### pieces, one behind the other -/

/-- The pieces from a place on. -/
def left (s : Bs) (k : Nat) : List Bs := if k ≤ s.length then pieces (s.drop k) else []

theorem left_zero (s : Bs) : left s 0 = pieces s := by simp [left]

theorem left_step (s : Bs) (k e : Nat) (hk : k ≤ e) (he : e ≤ s.length) (hn : ∀ x ∈ (s.drop k).take (e - k), x ≠ 47)
    (hend : e = s.length ∨ s[e]? = some 47) : left s k = (s.drop k).take (e - k) :: left s (e + 1) := by
  unfold left
  rw [if_pos (by omega)]
  rcases Nat.lt_or_ge e s.length with hlt | hge
  · rw [if_pos (by omega)]
    have h47 : s[e]? = some 47 := by
      rcases hend with h | h
      · omega
      · exact h
    have hd : s.drop k = (s.drop k).take (e - k) ++ 47 :: s.drop (e + 1) := by
      conv => lhs; rw [← List.take_append_drop (e - k) (s.drop k)]
      rw [List.drop_drop, show k + (e - k) = e by omega]
      congr 1
      rw [List.drop_eq_getElem_cons hlt]
      congr 1
      rw [List.getElem?_eq_getElem hlt] at h47
      exact Option.some.inj h47
    conv => lhs; rw [hd]
    exact pieces_cut _ _ hn
  · have hee : e = s.length := by omega
    rw [if_neg (by omega)]
    have : (s.drop k).take (e - k) = s.drop k := by
      apply List.take_of_length_le
      rw [List.length_drop]; omega
    rw [this] at hn ⊢
    exact pieces_none _ hn

theorem left_end (s : Bs) (k : Nat) (h : s.length < k) : left s k = [] := if_neg (by omega)

/-- What is known of a text whose first pieces are names. -/
structure Sofar (s : Bs) (k : Nat) (cs : List Bs) : Prop where
  all : pieces s = cs ++ left s k
  names : ∀ p ∈ cs, isName p = true
  few : cs.length ≤ 4

theorem Sofar.zero (s : Bs) : Sofar s 0 [] where
  all := by rw [left_zero]; rfl
  names := by intro p hp; cases hp
  few := by simp

theorem Sofar.step {s : Bs} {k e : Nat} {cs : List Bs} (h : Sofar s k cs) (hk : k ≤ e) (he : e ≤ s.length) (hend : e = s.length ∨ s[e]? = some 47)
    (hp : isName ((s.drop k).take (e - k)) = true) (hc : cs.length < 4) : Sofar s (e + 1) (cs ++ [(s.drop k).take (e - k)]) := by
  refine ⟨?_, ?_, ?_⟩
  · rw [h.all, left_step s k e hk he (isName_slash _ hp) hend]
    simp
  · intro p hm
    rcases List.mem_append.1 hm with hm | hm
    · exact h.names p hm
    · rw [List.mem_singleton.1 hm]; exact hp
  · simp; omega

theorem Sofar.done {s : Bs} {k : Nat} {cs : List Bs} (h : Sofar s k cs) (hk : s.length < k) : isPath s = true ∧ pieces s = cs := by
  have e : pieces s = cs := by rw [h.all, left_end s k hk]; simp
  exact ⟨(isPath_iff s).2 (by rw [e]; exact ⟨h.few, h.names⟩), e⟩

theorem Sofar.bad {s : Bs} {k : Nat} {cs : List Bs} (h : Sofar s k cs) (p : Bs) (r : List Bs) (hl : left s k = p :: r) (hb : isName p = false ∨ cs.length = 4) : isPath s = false := by
  cases hp : isPath s with
  | false => rfl
  | true =>
    exfalso
    obtain ⟨h4, hn⟩ := (isPath_iff s).1 hp
    rw [h.all, hl] at h4 hn
    rcases hb with hb | hb
    · have := hn p (by simp)
      rw [hb] at this
      exact Bool.noConfusion this
    · simp at h4; omega

/-- A whole piece that is no name, or one too many. -/
theorem Sofar.stop {s : Bs} {k e : Nat} {cs : List Bs} (h : Sofar s k cs) (hk : k ≤ e) (he : e ≤ s.length) (hn : ∀ x ∈ (s.drop k).take (e - k), x ≠ 47) (hend : e = s.length ∨ s[e]? = some 47)
    (hb : isName ((s.drop k).take (e - k)) = false ∨ cs.length = 4) : isPath s = false :=
  h.bad _ _ (left_step s k e hk he hn hend) hb

/-- A sign that no name has, or a thirteenth. -/
theorem Sofar.break_ {s : Bs} {k e : Nat} {cs : List Bs} (h : Sofar s k cs) (hk : k ≤ e) (he : e < s.length) (hn : ∀ x ∈ (s.drop k).take (e - k), x ≠ 47) (h47 : s[e] ≠ 47)
    (hb : sign s[e] = false ∨ e - k = 12) : isPath s = false := by
  obtain ⟨p, r, hpr⟩ := pieces_cons (s.drop (e + 1))
  have hd : s.drop k = ((s.drop k).take (e - k) ++ [s[e]]) ++ s.drop (e + 1) := by
    conv => lhs; rw [← List.take_append_drop (e - k) (s.drop k)]
    rw [List.drop_drop, show k + (e - k) = e by omega, List.drop_eq_getElem_cons he]
    simp
  have hl : left s k = (((s.drop k).take (e - k) ++ [s[e]]) ++ p) :: r := by
    unfold left
    rw [if_pos (by omega)]
    conv => lhs; rw [hd]
    refine pieces_ahead _ _ _ _ ?_ hpr
    intro x hx
    rcases List.mem_append.1 hx with hx | hx
    · exact hn x hx
    · rw [List.mem_singleton.1 hx]; exact h47
  refine h.bad _ _ hl (.inl ?_)
  cases hN : isName (((s.drop k).take (e - k) ++ [s[e]]) ++ p) with
  | false => rfl
  | true =>
    exfalso
    obtain ⟨_, h12, _, _, hs⟩ := (isName_iff _).1 hN
    rcases hb with hb | hb
    · have := hs s[e] (by simp)
      rw [hb] at this
      exact Bool.noConfusion this
    · simp at h12; omega

/-! ### one order out of another -/

structure Good {α : Type} (c : α → α → Int) : Prop where
  rng : ∀ a b, c a b = -1 ∨ c a b = 0 ∨ c a b = 1
  anti : ∀ a b, c b a = - c a b
  eq : ∀ a b, c a b = 0 ↔ a = b
  tr : ∀ a b d, c a b = -1 → c b d = -1 → c a d = -1

def lexC {α : Type} (c : α → α → Int) : List α → List α → Int
  | [], [] => 0
  | [], _ :: _ => -1
  | _ :: _, [] => 1
  | a :: l, b :: m => if c a b = 0 then lexC c l m else c a b

theorem lexC_rng {α : Type} {c : α → α → Int} (g : Good c) : ∀ l m, lexC c l m = -1 ∨ lexC c l m = 0 ∨ lexC c l m = 1
  | [], [] => .inr (.inl rfl)
  | [], _ :: _ => .inl rfl
  | _ :: _, [] => .inr (.inr rfl)
  | a :: l, b :: m => by
    unfold lexC
    split
    · exact lexC_rng g l m
    · exact g.rng a b

theorem lexC_anti {α : Type} {c : α → α → Int} (g : Good c) : ∀ l m, lexC c m l = - lexC c l m
  | [], [] => rfl
  | [], _ :: _ => rfl
  | _ :: _, [] => rfl
  | a :: l, b :: m => by
    have h := g.anti a b
    unfold lexC
    rw [h]
    by_cases h0 : c a b = 0
    · rw [if_pos h0, if_pos (by omega)]; exact lexC_anti g l m
    · rw [if_neg h0, if_neg (by omega)]

theorem lexC_eq {α : Type} {c : α → α → Int} (g : Good c) : ∀ l m, lexC c l m = 0 ↔ l = m
  | [], [] => by simp [lexC]
  | [], _ :: _ => by simp [lexC]
  | _ :: _, [] => by simp [lexC]
  | a :: l, b :: m => by
    have ih := lexC_eq g l m
    have h := g.eq a b
    unfold lexC
    split
    · rename_i h0; rw [ih, List.cons.injEq]; simp [h.1 h0]
    · rename_i h0; rw [List.cons.injEq]; constructor
      · intro e; exact absurd e h0
      · rintro ⟨e, _⟩; exact h.2 e

theorem lexC_tr {α : Type} {c : α → α → Int} (g : Good c) : ∀ l m n, lexC c l m = -1 → lexC c m n = -1 → lexC c l n = -1
  | [], [], _, h, _ => by simp [lexC] at h
  | [], _ :: _, [], _, h => by simp [lexC] at h
  | [], _ :: _, _ :: _, _, _ => rfl
  | _ :: _, [], _, h, _ => by simp [lexC] at h
  | _ :: _, _ :: _, [], _, h => by simp [lexC] at h
  | a :: l, b :: m, d :: n, h1, h2 => by
    unfold lexC at h1 h2 ⊢
    split at h1
    · rename_i e1
      have e1 := (g.eq a b).1 e1
      subst e1
      split at h2
      · rename_i e2; rw [if_pos e2]; exact lexC_tr g l m n h1 h2
      · rename_i e2; rw [if_neg e2]; exact h2
    · rename_i e1
      split at h2
      · rename_i e2
        have e2 := (g.eq b d).1 e2
        subst e2
        rw [if_neg e1]; exact h1
      · have := g.tr a b d h1 h2
        rw [if_neg (by omega)]; exact this

theorem Good.lex {α : Type} {c : α → α → Int} (g : Good c) : Good (lexC c) := ⟨lexC_rng g, lexC_anti g, lexC_eq g, lexC_tr g⟩

def cmp8 (a b : UInt8) : Int := if a < b then -1 else if b < a then 1 else 0

theorem cmp8_good : Good cmp8 := by
  have key : ∀ a b : UInt8, cmp8 a b = if a.toNat < b.toNat then -1 else if b.toNat < a.toNat then 1 else 0 := fun a b => by
    unfold cmp8; simp only [UInt8.lt_iff_toNat_lt]
  refine ⟨?_, ?_, ?_, ?_⟩
  · intro a b; rw [key]; split; exact .inl rfl; split; exact .inr (.inr rfl); exact .inr (.inl rfl)
  · intro a b; rw [key, key]
    by_cases h : a.toNat < b.toNat
    · rw [if_neg (by omega), if_pos h, if_pos h]; rfl
    · by_cases h' : b.toNat < a.toNat
      · rw [if_pos h', if_neg h, if_pos h']
      · rw [if_neg h', if_neg h, if_neg h, if_neg h']; rfl
  · intro a b; rw [key, ← UInt8.toNat_inj]
    by_cases h : a.toNat < b.toNat
    · rw [if_pos h]; omega
    · rw [if_neg h]
      by_cases h' : b.toNat < a.toNat
      · rw [if_pos h']; omega
      · rw [if_neg h']; omega
  · intro a b d; rw [key, key, key]
    intro h1 h2
    have e1 : a.toNat < b.toNat := by
      by_cases h : a.toNat < b.toNat
      · exact h
      · rw [if_neg h] at h1; split at h1 <;> omega
    have e2 : b.toNat < d.toNat := by
      by_cases h : b.toNat < d.toNat
      · exact h
      · rw [if_neg h] at h2; split at h2 <;> omega
    rw [if_pos (by omega)]

/-- Byte by byte. -/
def cmpB : Bs → Bs → Int := lexC cmp8
/-- Piece by piece. -/
def cmpP : List Bs → List Bs → Int := lexC cmpB
/-- Text by text. -/
def cmpT (a b : Bs) : Int := cmpP (pieces a) (pieces b)

theorem cmpB_good : Good cmpB := cmp8_good.lex
theorem cmpP_good : Good cmpP := cmpB_good.lex
theorem cmpT_good : Good cmpT :=
  ⟨fun _ _ => cmpP_good.rng _ _, fun _ _ => cmpP_good.anti _ _, fun _ _ => ⟨fun h => pieces_inj _ _ ((cmpP_good.eq _ _).1 h), fun h => (cmpP_good.eq _ _).2 (by rw [h])⟩, fun _ _ _ h1 h2 => cmpP_good.tr _ _ _ h1 h2⟩

theorem cmpP_cons (p q : Bs) (r t : List Bs) : cmpP (p :: r) (q :: t) = if cmpB p q = 0 then cmpP r t else cmpB p q := rfl
theorem cmpP_nil : cmpP [] [] = 0 := rfl
theorem cmpP_nil_cons (q : Bs) (t : List Bs) : cmpP [] (q :: t) = -1 := rfl
theorem cmpP_cons_nil (p : Bs) (r : List Bs) : cmpP (p :: r) [] = 1 := rfl

/-- What the law of the order asks. -/
theorem cmpT_row (a b c : Bs) : (0 < cmpT a b ∨ 0 < cmpT b c ∨ cmpT a c ≤ 0) ∧ (0 ≤ cmpT a b ∨ 0 ≤ cmpT b c ∨ cmpT a c < 0) := by
  have r1 := cmpT_good.rng a b
  have r2 := cmpT_good.rng b c
  have r3 := cmpT_good.rng a c
  have e1 := cmpT_good.eq a b
  have e2 := cmpT_good.eq b c
  have t := cmpT_good.tr a b c
  rcases r1 with h1 | h1 | h1
  · rcases r2 with h2 | h2 | h2
    · have := t h1 h2; omega
    · have := e2.1 h2; subst this; omega
    · omega
  · have := e1.1 h1; subst this; omega
  · omega

/-! ### what stands together -/

/-- Below a directory. -/
def under (s d : Bs) : Bool := if d = [] then isPath s else decide ((d ++ [47]).isPrefixOf s = true) && isPath s

theorem between : ∀ (D x C y : List Bs), x ≠ [] → cmpP (D ++ x) C ≤ 0 → cmpP C (D ++ y) ≤ 0 → ∃ z, C = D ++ z ∧ z ≠ []
  | [], x, C, _, hx, h1, _ => by
    refine ⟨C, rfl, ?_⟩
    rintro rfl
    cases x with
    | nil => exact hx rfl
    | cons p r => simp [cmpP, lexC] at h1
  | d :: D, x, [], _, _, h1, _ => by simp [cmpP, lexC] at h1
  | d :: D, x, c :: C, y, hx, h1, h2 => by
    rw [List.cons_append, cmpP_cons] at h1 h2
    have ha := cmpB_good.anti d c
    have hr := cmpB_good.rng d c
    have h0 : cmpB d c = 0 := by
      by_cases h0 : cmpB d c = 0
      · exact h0
      · rw [if_neg h0] at h1
        rw [if_neg (by omega)] at h2
        omega
    have hdc := (cmpB_good.eq d c).1 h0
    rw [if_pos h0] at h1
    rw [if_pos (by omega)] at h2
    obtain ⟨z, hz, hne⟩ := between D x C y hx h1 h2
    exact ⟨z, by rw [hz, hdc]; rfl, hne⟩

/-- Below a directory: its pieces first, and more. -/
theorem prefix_pieces (s d : Bs) : (d ++ [47]).isPrefixOf s = true ↔ ∃ z, z ≠ [] ∧ pieces s = pieces d ++ z := by
  rw [List.isPrefixOf_iff_prefix]
  constructor
  · rintro ⟨t, rfl⟩
    refine ⟨pieces t, pieces_ne t, ?_⟩
    rw [List.append_assoc]
    exact pieces_slash d t
  · rintro ⟨z, hz, e⟩
    refine ⟨joinP z, ?_⟩
    have := join_pieces s
    rw [e, joinP_append _ _ (pieces_ne d) hz, join_pieces] at this
    rw [← this]
    simp

theorem together (a b c d : Bs) (ha : under a d = true) (hb : under b d = true) (hc : isPath c = true) (h1 : cmpT a c ≤ 0) (h2 : cmpT c b ≤ 0) : under c d = true := by
  unfold under at ha hb ⊢
  split
  · exact hc
  · rename_i hd
    rw [if_neg hd] at ha hb
    simp only [Bool.and_eq_true, decide_eq_true_eq] at ha hb ⊢
    refine ⟨?_, hc⟩
    obtain ⟨x, hx, ex⟩ := (prefix_pieces a d).1 ha.1
    obtain ⟨y, hy, ey⟩ := (prefix_pieces b d).1 hb.1
    unfold cmpT at h1 h2
    rw [ex] at h1
    rw [ey] at h2
    obtain ⟨z, ez, hz⟩ := between _ _ _ _ hx h1 h2
    exact (prefix_pieces c d).2 ⟨z, hz, ez⟩

/-- Below a directory, by names: the directory is one, its names are the first ones, and there are more. -/
theorem under_names (s d : Bs) : under s d = true ↔ isPath s = true ∧ (d = [] ∨ isPath d = true) ∧ (parts d).length < (parts s).length ∧ ∀ i, i < (parts d).length → (parts s)[i]? = (parts d)[i]? := by
  unfold under
  have hnil : isPath [] = false := by decide
  split
  · rename_i hd
    subst hd
    rw [parts_none [] hnil]
    constructor
    · intro h
      have := pieces_pos s
      rw [parts_path s h]
      exact ⟨h, .inl rfl, by simp; omega, fun i hi => absurd hi (by simp)⟩
    · exact fun h => h.1
  · rename_i hd
    simp only [Bool.and_eq_true, decide_eq_true_eq]
    rw [prefix_pieces]
    constructor
    · rintro ⟨⟨z, hz, e⟩, hs⟩
      obtain ⟨h4, hn⟩ := (isPath_iff s).1 hs
      have hdp : isPath d = true := by
        rw [isPath_iff]
        rw [e] at h4 hn
        simp only [List.length_append] at h4
        exact ⟨by omega, fun p hp => hn p (List.mem_append_left _ hp)⟩
      refine ⟨hs, .inr hdp, ?_, ?_⟩
      · rw [parts_path s hs, parts_path d hdp, e, List.length_append]
        have : 0 < z.length := List.length_pos_iff.2 hz
        omega
      · intro i hi
        rw [parts_path d hdp] at hi ⊢
        rw [parts_path s hs, e, List.getElem?_append_left hi]
    · rintro ⟨hs, hdd, hl, hi⟩
      have hdp : isPath d = true := by
        rcases hdd with h | h
        · exact absurd h hd
        · exact h
      rw [parts_path s hs, parts_path d hdp] at hl hi
      refine ⟨⟨(pieces s).drop (pieces d).length, ?_, ?_⟩, hs⟩
      · intro h
        have := congrArg List.length h
        simp at this
        omega
      · conv => lhs; rw [← List.take_append_drop (pieces d).length (pieces s)]
        congr 1
        apply List.ext_getElem?
        intro i
        rcases Nat.lt_or_ge i (pieces d).length with h | h
        · rw [List.getElem?_take_of_lt h]; exact hi i h
        · rw [List.getElem?_eq_none (by rw [List.length_take]; omega), List.getElem?_eq_none h]

/-! ### up and last -/

def up (s : Bs) : Bs := if isPath s = true then joinP (pieces s).dropLast else []
def last (s : Bs) : Bs := if isPath s = true then (pieces s).getLast?.getD [] else []

/-- No slash: one piece. -/
theorem one_up (s : Bs) (h : ∀ x ∈ s, x ≠ 47) : joinP (pieces s).dropLast = [] ∧ (pieces s).getLast?.getD [] = s := by
  rw [pieces_none s h]; exact ⟨rfl, rfl⟩

/-- The last slash: what stands ahead of it, and what behind it. -/
theorem more_up (a b : Bs) (h : ∀ x ∈ b, x ≠ 47) : joinP (pieces (a ++ 47 :: b)).dropLast = a ∧ (pieces (a ++ 47 :: b)).getLast?.getD [] = b := by
  rw [pieces_slash, pieces_none b h]
  simp [join_pieces]

theorem up_last (s : Bs) (h : isPath s = true) : (if up s = [] then up s else up s ++ [47]) ++ last s = s := by
  unfold up last
  rw [if_pos h, if_pos h]
  obtain ⟨_, hn⟩ := (isPath_iff s).1 h
  have hj := join_pieces s
  rcases List.eq_nil_or_concat (pieces s) with e | ⟨ps, q, e⟩
  · exact absurd e (pieces_ne s)
  · rw [List.concat_eq_append] at e
    rw [e] at hj hn ⊢
    rw [List.dropLast_concat, List.getLast?_concat]
    by_cases hps : ps = []
    · subst hps
      rw [show joinP [] = [] from rfl, if_pos rfl]
      exact hj
    · have hne : joinP ps ≠ [] := by
        intro h0
        cases ps with
        | nil => exact hps rfl
        | cons p r =>
          have hp := ((isName_iff p).1 (hn p (by simp))).1
          cases r with
          | nil => rw [joinP_one] at h0; rw [h0] at hp; simp at hp
          | cons p' r => rw [joinP_two] at h0; simp at h0
      rw [if_neg hne]
      rw [joinP_snoc ps q hps] at hj
      simpa using hj

theorem joinP_ne (ps : List Bs) (hps : ps ≠ []) (hn : ∀ p ∈ ps, isName p = true) : joinP ps ≠ [] := by
  intro h0
  cases ps with
  | nil => exact hps rfl
  | cons p r =>
    have hp := ((isName_iff p).1 (hn p (by simp))).1
    cases r with
    | nil => rw [joinP_one] at h0; rw [h0] at hp; simp at hp
    | cons p' r => rw [joinP_two] at h0; simp at h0

/-- A path of names that are joined. -/
theorem join_path (ps : List Bs) (hps : ps ≠ []) (h4 : ps.length ≤ 4) (hn : ∀ p ∈ ps, isName p = true) : pieces (joinP ps) = ps ∧ isPath (joinP ps) = true := by
  have e := pieces_join ps hps fun p hp => isName_slash p (hn p hp)
  exact ⟨e, (isPath_iff _).2 (by rw [e]; exact ⟨h4, hn⟩)⟩

/-- The path of some names, and whether there is one. -/
def joins (ps : List Bs) : Bool := decide (1 ≤ ps.length) && decide (ps.length ≤ 4) && ps.all isName

theorem joins_iff (ps : List Bs) : joins ps = true ↔ 1 ≤ ps.length ∧ ps.length ≤ 4 ∧ ∀ p ∈ ps, isName p = true := by
  unfold joins
  simp only [Bool.and_eq_true, decide_eq_true_eq, List.all_eq_true]
  constructor
  · rintro ⟨⟨a, b⟩, c⟩; exact ⟨a, b, c⟩
  · rintro ⟨a, b, c⟩; exact ⟨⟨a, b⟩, c⟩

end Go.Proofs.YtebjlmnhpfoglaaGreatDoor.Pth.Pt

/-
  Plain facts on nodes: whether one may be, its bytes, and the node that bytes are. Conditions: none but those that each theorem names.
-/

namespace Go.Proofs.YtebjlmnhpfoglaaGreatDoor
open Go.RowKit

/-- A kid: a name, and a digest. -/
abbrev Kd := ByteArray × List UInt8
structure Nd where
  vs : List Vc.V
  ks : List Kd
def isN (s : ByteArray) : Bool := Pth.Pt.isName s.data.toList
def leqB (a b : ByteArray) : Bool := Go.Op.bytesLess a.toList b.toList || (a.toList == b.toList)
def kidErr (prev : ByteArray) (k : Kd) : Int := if isN k.1 = false then 1 else if leqB k.1 prev = true then 8 else 0
def chkK : ByteArray → List Kd → Int
  | _, [] => 0
  | prev, k :: l => if kidErr prev k ≠ 0 then kidErr prev k else chkK k.1 l
def chkN (n : Nd) : Int := if Vc.checkLeaf n.vs ≠ 0 then Vc.checkLeaf n.vs else if 128 < n.ks.length then 2 else chkK ⟨#[]⟩ n.ks
/-- Digests have 32 bytes. -/
def Digs (l : List Kd) : Prop := ∀ k ∈ l, k.2.length = 32
def prevK (l : List Kd) : Nat → ByteArray
  | 0 => ⟨#[]⟩
  | j + 1 => match l[j]? with
    | some k => k.1
    | none => ⟨#[]⟩
theorem prevK_at (l : List Kd) (j : Nat) (k : Kd) (h : l[j]? = some k) : prevK l (j + 1) = k.1 := by simp [prevK, h]
theorem chkK_step (l : List Kd) (j : Nat) (k : Kd) (h : l[j]? = some k) : chkK (prevK l j) (l.drop j) = if kidErr (prevK l j) k ≠ 0 then kidErr (prevK l j) k else chkK (prevK l (j + 1)) (l.drop (j + 1)) := by
  have hj := (List.getElem?_eq_some_iff.1 h).1
  rw [List.drop_eq_getElem_cons hj, prevK_at l j k h]
  rw [List.getElem?_eq_getElem hj] at h
  injection h with h
  rw [h]
  rfl
theorem chkK_end (l : List Kd) (p : ByteArray) : chkK p (l.drop l.length) = 0 := by rw [List.drop_length]; rfl
theorem leq_none {a : ByteArray} (h : isN a = true) : leqB a ⟨#[]⟩ = false := by
  have h1 := ((Pth.Pt.isName_iff _).1 h).1
  unfold leqB
  rw [Lib.toList_data a, Lib.toList_data ⟨#[]⟩]
  cases hd : a.data.toList with
  | nil => rw [hd] at h1; simp at h1
  | cons x l => rfl

/-! What is put. -/
def wKid (st : St) (k : Kd) : St := wDigest (wText st k.1) k.2
def wKids (st : St) (l : List Kd) : St := l.foldl wKid st
def wNode (n : Nd) : St := wKids (wNumber (wLeaf (fail ([], 0) (chkN n)) n.vs) n.ks.length) n.ks
def bytesN (n : Nd) : List UInt8 × Int := (told (wNode n), (wNode n).2)
theorem wDigest_bad' {st : St} (h : st.2 ≠ 0) (d : List UInt8) : wDigest st d = st := wput_bad h _ _
theorem wDigest_ok (b : List UInt8) (d : List UInt8) : wDigest (b, 0) d = (b ++ d, 0) := rfl
theorem wKid_bad {st : St} (h : st.2 ≠ 0) (k : Kd) : wKid st k = st := by
  unfold wKid
  rw [show wText st k.1 = st from wput_bad h _ _, wDigest_bad' h]
theorem wKids_bad {st : St} (h : st.2 ≠ 0) : ∀ l : List Kd, wKids st l = st
  | [] => rfl
  | k :: l => by
    show wKids (wKid st k) l = st
    rw [wKid_bad h, wKids_bad h l]
theorem wDigest_len' (st : St) {d : List UInt8} (hd : d.length = 32) : (wDigest st d).1.length ≤ st.1.length + 32 := by
  have := wput_len st true d
  simp only [if_true] at this
  unfold wDigest
  omega
theorem wKid_len (st : St) {k : Kd} (h : k.2.length = 32) : (wKid st k).1.length ≤ st.1.length + 65573 := by
  have h1 := wDigest_len' (wText st k.1) h
  have h2 := (wText_len st k.1).1
  unfold wKid
  omega
theorem wKids_snoc (st : St) (l : List Kd) (j : Nat) (k : Kd) (h : l[j]? = some k) : wKids st (l.take (j + 1)) = wKid (wKids st (l.take j)) k := by
  rw [List.take_add_one, h]
  simp [wKids]
theorem wKids_len : ∀ (l : List Kd) (st : St), Digs l → (wKids st l).1.length ≤ st.1.length + 65573 * l.length
  | [], st, _ => by simp [wKids]
  | k :: l, st, h => by
    have h1 := wKids_len l (wKid st k) fun x hx => h x (List.mem_cons_of_mem _ hx)
    have h2 := wKid_len st (h k (List.mem_cons_self ..))
    show (wKids (wKid st k) l).1.length ≤ _
    simp only [List.length_cons]
    omega
theorem wNode_bad {n : Nd} (h : chkN n ≠ 0) : wNode n = ([], chkN n) := by
  have e : fail ([], 0) (chkN n) = ([], chkN n) := rfl
  unfold wNode
  rw [e, wLeaf_stays h, wNumber_bad h, wKids_bad h]
theorem bytes_bad {n : Nd} (h : chkN n ≠ 0) : bytesN n = ([], chkN n) := by
  unfold bytesN
  rw [wNode_bad h]
  unfold told
  rw [if_pos h]
def encK (k : Kd) : List UInt8 := encT k.1.data.toList ++ k.2
def encKs (l : List Kd) : List UInt8 := (l.map encK).flatten
def encN (n : Nd) : List UInt8 := encLeaf n.vs ++ (Cnt.putL n.ks.length ++ encKs n.ks)
theorem encKs_snoc (l : List Kd) (x : Kd) : encKs (l ++ [x]) = encKs l ++ encK x := by simp [encKs]
theorem encKs_drop (l : List Kd) (j : Nat) (x : Kd) (h : l[j]? = some x) : encKs (l.drop j) = encK x ++ encKs (l.drop (j + 1)) := by
  have hk := (List.getElem?_eq_some_iff.1 h).1
  rw [List.drop_eq_getElem_cons hk]
  rw [List.getElem?_eq_getElem hk] at h
  injection h with h
  simp [encKs, h]
theorem chkN_zero {n : Nd} (h : chkN n = 0) : Vc.checkLeaf n.vs = 0 ∧ n.ks.length ≤ 128 ∧ chkK ⟨#[]⟩ n.ks = 0 := by
  unfold chkN at h
  by_cases h1 : Vc.checkLeaf n.vs ≠ 0
  · rw [if_pos h1] at h; exact absurd h h1
  · rw [if_neg h1] at h
    by_cases h2 : 128 < n.ks.length
    · rw [if_pos h2] at h; cases h
    · rw [if_neg h2] at h
      exact ⟨Classical.not_not.1 h1, by omega, h⟩
theorem kidErr_zero {p : ByteArray} {k : Kd} (h : kidErr p k = 0) : isN k.1 = true := by
  unfold kidErr at h
  cases hn : isN k.1 with
  | true => rfl
  | false => rw [hn] at h; simp at h
theorem isN_size {s : ByteArray} (h : isN s = true) : s.size ≤ 12 := by
  have := ((Pth.Pt.isName_iff _).1 h).2.1
  rw [size_data] at this
  exact this
theorem chkK_names : ∀ (l : List Kd) (p : ByteArray), chkK p l = 0 → ∀ k ∈ l, k.1.size ≤ 12
  | [], _, _, k, hk => by cases hk
  | a :: l, p, h, k, hk => by
    unfold chkK at h
    by_cases h1 : kidErr p a ≠ 0
    · rw [if_pos h1] at h; exact absurd h h1
    · rw [if_neg h1] at h
      rcases List.mem_cons.1 hk with rfl | hk
      · exact isN_size (kidErr_zero (Classical.not_not.1 h1))
      · exact chkK_names l a.1 h k hk
theorem wKid_ok (b : List UInt8) {k : Kd} (h : k.1.size ≤ 12) : wKid (b, 0) k = (b ++ encK k, 0) := by
  unfold wKid
  rw [wText_ok _ (by omega), wDigest_ok]
  simp [encK]
theorem wKids_ok : ∀ (l : List Kd) (b : List UInt8), (∀ k ∈ l, k.1.size ≤ 12) → wKids (b, 0) l = (b ++ encKs l, 0)
  | [], b, _ => by simp [wKids, encKs]
  | k :: l, b, h => by
    show wKids (wKid (b, 0) k) l = _
    rw [wKid_ok _ (h k (List.mem_cons_self ..)), wKids_ok l _ fun x hx => h x (List.mem_cons_of_mem _ hx)]
    simp [encKs]
theorem wNode_ok {n : Nd} (h : chkN n = 0) : wNode n = (encN n, 0) := by
  obtain ⟨h1, h2, h3⟩ := chkN_zero h
  unfold wNode
  rw [h, fail_zero, wLeaf_enc _ h1, wNumber_ok _ (by omega) (by omega), wKids_ok _ _ (chkK_names _ _ h3)]
  simp [encN]
theorem bytes_ok {n : Nd} (h : chkN n = 0) : bytesN n = (encN n, 0) := by
  unfold bytesN
  rw [wNode_ok h]
  rfl
theorem bytes_err (n : Nd) : (bytesN n).2 = chkN n := by
  by_cases h : chkN n = 0
  · rw [bytes_ok h, h]
  · rw [bytes_bad h]

/-! What is taken. -/
def rKid (st : St) : Kd × St := ((str (rText st 12).1, (rDigest (rText st 12).2).1), (rDigest (rText st 12).2).2)
def itK : Nat → St → List Kd × St
  | 0, st => ([], st)
  | k + 1, st => ((itK k st).1 ++ [(rKid (itK k st).2).1], (rKid (itK k st).2).2)
def rKids (st : St) : List Kd × St := itK (rNumber st 128).1.toNat (rNumber st 128).2
def readN (s : List UInt8) : Nd × Int :=
  if rDone (rKids (rLeaf (s, 0)).2).2 ≠ 0 then (⟨[], []⟩, rDone (rKids (rLeaf (s, 0)).2).2)
  else if chkN ⟨(rLeaf (s, 0)).1, (rKids (rLeaf (s, 0)).2).1⟩ ≠ 0 then (⟨[], []⟩, chkN ⟨(rLeaf (s, 0)).1, (rKids (rLeaf (s, 0)).2).1⟩)
  else (⟨(rLeaf (s, 0)).1, (rKids (rLeaf (s, 0)).2).1⟩, 0)
theorem rDigest_bad' {st : St} (h : st.2 ≠ 0) : (rDigest st).2 = st := by
  unfold rDigest
  rw [if_pos h]
theorem rDigest_dig (st : St) : (rDigest st).1.length = 32 := by
  unfold rDigest
  split
  · rfl
  · split
    · rfl
    · simp only [List.length_take]; omega
theorem rDigest_less (st : St) : (rDigest st).2.1.length ≤ st.1.length := by
  unfold rDigest
  split
  · exact Nat.le_refl _
  · split
    · exact Nat.le_refl _
    · simp
theorem rKid_bad {st : St} (h : st.2 ≠ 0) : (rKid st).2 = st := by
  unfold rKid
  dsimp only
  rw [rText_bad h, rDigest_bad' h]
theorem rKid_less (st : St) : (rKid st).2.1.length ≤ st.1.length := by
  have h1 := rText_len st 12
  have h2 := rDigest_less (rText st 12).2
  unfold rKid
  dsimp only
  omega
theorem itK_len : ∀ (k : Nat) (st : St), (itK k st).1.length = k
  | 0, _ => rfl
  | k + 1, st => by simp [itK, itK_len k st]
theorem itK_less : ∀ (k : Nat) (st : St), (itK k st).2.1.length ≤ st.1.length
  | 0, _ => Nat.le_refl _
  | k + 1, st => Nat.le_trans (rKid_less _) (itK_less k st)
theorem itK_digs : ∀ (k : Nat) (st : St), Digs (itK k st).1
  | 0, _, v, h => by cases h
  | k + 1, st, v, h => by
    rcases List.mem_append.1 (show v ∈ (itK k st).1 ++ [(rKid (itK k st).2).1] from h) with h | h
    · exact itK_digs k st v h
    · rw [List.mem_singleton.1 h]
      exact rDigest_dig _
theorem rText_short (st : St) : (str (rText st 12).1).size ≤ 12 := by
  rw [str_size]
  have h0 := rNumber_most st 12 (by omega)
  unfold rText
  split
  · simp
  · split
    · simp
    · simp only [List.length_take]; omega
theorem itK_names : ∀ (k : Nat) (st : St), ∀ v ∈ (itK k st).1, v.1.size ≤ 12
  | 0, _, v, h => by cases h
  | k + 1, st, v, h => by
    rcases List.mem_append.1 (show v ∈ (itK k st).1 ++ [(rKid (itK k st).2).1] from h) with h | h
    · exact itK_names k st v h
    · rw [List.mem_singleton.1 h]
      exact rText_short _
theorem itK_stays (st : St) (k : Nat) (h : (itK k st).2.2 ≠ 0) : ∀ m, k ≤ m → (itK m st).2 = (itK k st).2
  | 0, hm => by rw [show k = 0 by omega]
  | m + 1, hm => by
    by_cases e : k = m + 1
    · rw [e]
    · have ih := itK_stays st k h m (by omega)
      show (rKid (itK m st).2).2 = _
      rw [ih]
      exact rKid_bad h
theorem kCount (st : St) : (rNumber st 128).1.toNat ≤ 128 := by
  have := rNumber_most st 128 (by omega)
  omega
theorem rKids_len (st : St) : (rKids st).1.length ≤ 128 := by
  unfold rKids
  rw [itK_len]
  exact kCount st
theorem rKids_digs (st : St) : Digs (rKids st).1 := itK_digs _ _
theorem rKids_names (st : St) : ∀ v ∈ (rKids st).1, v.1.size ≤ 12 := itK_names _ _
/-- Behind an error in the row nothing more is taken, and the node is none. -/
theorem readN_bad {s : List UInt8} (h : rDone (rKids (rLeaf (s, 0)).2).2 ≠ 0) : readN s = (⟨[], []⟩, rDone (rKids (rLeaf (s, 0)).2).2) := by
  unfold readN
  rw [if_pos h]
theorem readN_early {st : St} {k : Nat} (hk : k ≤ (rNumber st 128).1.toNat) (h : (itK k (rNumber st 128).2).2.2 ≠ 0) : (rKids st).2 = (itK k (rNumber st 128).2).2 := itK_stays _ k h _ hk
theorem rDone_bad {st : St} (h : st.2 ≠ 0) : rDone st = st.2 := by
  unfold rDone
  rw [if_neg fun hc => h hc.1]

/-! What is put is taken again, and bytes that are taken are those that are put. -/
theorem rDigest_one {st : St} (h : (rDigest st).2.2 = 0) : st.2 = 0 ∧ st.1 = (rDigest st).1 ++ (rDigest st).2.1 := by
  unfold rDigest at h ⊢
  split at h
  · rename_i h1
    exact absurd h h1
  · rename_i h1
    split at h
    · exact absurd h (by simp)
    · rename_i h2
      rw [if_neg h1, if_neg h2]
      exact ⟨Classical.not_not.1 h1, (List.take_append_drop 32 st.1).symm⟩
theorem rKid_back {k : Kd} (h : k.1.size ≤ 12) (hd : k.2.length = 32) (r : List UInt8) : rKid (encK k ++ r, 0) = (k, (r, 0)) := by
  unfold rKid encK
  rw [List.append_assoc, back_textM (by rw [size_data]; omega) (by omega)]
  dsimp only
  rw [back_digest hd, str_of]
theorem itK_back {l : List Kd} (h : ∀ k ∈ l, k.1.size ≤ 12) (hd : Digs l) (r : List UInt8) : ∀ k, k ≤ l.length → itK k (encKs l ++ r, 0) = (l.take k, (encKs (l.drop k) ++ r, 0))
  | 0, _ => by simp [itK]
  | k + 1, hk => by
    obtain ⟨d, hdd⟩ : ∃ d, l[k]? = some d := ⟨_, List.getElem?_eq_getElem (by omega)⟩
    have ih := itK_back h hd r k (by omega)
    rw [encKs_drop l k d hdd, List.append_assoc] at ih
    unfold itK
    rw [ih]
    dsimp only
    rw [rKid_back (h d (List.mem_of_getElem? hdd)) (hd d (List.mem_of_getElem? hdd)), List.take_add_one, hdd]
    rfl
theorem rKids_back {l : List Kd} (hl : l.length ≤ 128) (h : ∀ k ∈ l, k.1.size ≤ 12) (hd : Digs l) (r : List UInt8) : rKids (Cnt.putL l.length ++ (encKs l ++ r), 0) = (l, (r, 0)) := by
  unfold rKids
  rw [back_number (by omega) (by omega) 128 (by omega)]
  dsimp only
  rw [Int.toNat_natCast, itK_back h hd r _ (Nat.le_refl _), List.take_length, List.drop_length]
  rfl
theorem read_back {n : Nd} (h : chkN n = 0) (hd : Digs n.ks) : readN (encN n) = (n, 0) := by
  obtain ⟨h1, h2, h3⟩ := chkN_zero h
  have e1 := rLeaf_back h1 (Cnt.putL n.ks.length ++ encKs n.ks)
  have e2 := rKids_back h2 (chkK_names _ _ h3) hd []
  rw [List.append_nil] at e2
  unfold readN encN
  rw [e1]
  dsimp only
  rw [e2]
  dsimp only
  rw [if_neg (by simp [rDone]), if_neg (by simpa using h)]
theorem rKid_one {st : St} (h : (rKid st).2.2 = 0) : st.2 = 0 ∧ st.1 = encK (rKid st).1 ++ (rKid st).2.1 := by
  unfold rKid at h ⊢
  dsimp only at h ⊢
  obtain ⟨h1, h2⟩ := rDigest_one h
  obtain ⟨h3, h4⟩ := rText_one h1
  refine ⟨h3, ?_⟩
  unfold encK
  dsimp only
  rw [str_data, List.append_assoc, ← h2]
  exact h4
theorem itK_one : ∀ (k : Nat) (st : St), (itK k st).2.2 = 0 → st.2 = 0 ∧ st.1 = encKs (itK k st).1 ++ (itK k st).2.1
  | 0, st, h => ⟨h, by simp [itK, encKs]⟩
  | k + 1, st, h => by
    have h' : (rKid (itK k st).2).2.2 = 0 := h
    obtain ⟨h1, h2⟩ := rKid_one h'
    obtain ⟨h3, h4⟩ := itK_one k st h1
    refine ⟨h3, ?_⟩
    show st.1 = encKs ((itK k st).1 ++ [(rKid (itK k st).2).1]) ++ (rKid (itK k st).2).2.1
    rw [encKs_snoc, List.append_assoc, ← h2]
    exact h4
theorem rKids_one {st : St} (h : (rKids st).2.2 = 0) : st.2 = 0 ∧ st.1 = Cnt.putL (rKids st).1.length ++ (encKs (rKids st).1 ++ (rKids st).2.1) := by
  unfold rKids at h ⊢
  obtain ⟨h4, h5⟩ := itK_one _ _ h
  obtain ⟨h6, h7⟩ := rNumber_one h4
  refine ⟨h6, ?_⟩
  rw [itK_len, ← h5]
  have h8 := rNumber_nonneg st 128
  rw [Int.toNat_of_nonneg h8]
  exact h7
theorem read_one {s : List UInt8} (h : (readN s).2 = 0) : chkN (readN s).1 = 0 ∧ encN (readN s).1 = s ∧ Digs (readN s).1.ks := by
  unfold readN at h ⊢
  by_cases h1 : rDone (rKids (rLeaf (s, 0)).2).2 ≠ 0
  · rw [if_pos h1] at h
    exact absurd h h1
  · rw [if_neg h1] at h ⊢
    by_cases h2 : chkN ⟨(rLeaf (s, 0)).1, (rKids (rLeaf (s, 0)).2).1⟩ ≠ 0
    · rw [if_pos h2] at h
      exact absurd h h2
    · rw [if_neg h2]
      obtain ⟨h3, h4⟩ := rDone_zero (Classical.not_not.1 h1)
      obtain ⟨h5, h6⟩ := rKids_one h3
      obtain ⟨h7, h8, _⟩ := rLeaf_one h5
      refine ⟨Classical.not_not.1 h2, ?_, rKids_digs _⟩
      show encLeaf (rLeaf (s, 0)).1 ++ (Cnt.putL (rKids (rLeaf (s, 0)).2).1.length ++ encKs (rKids (rLeaf (s, 0)).2).1) = s
      rw [h4, List.append_nil] at h6
      rw [← h6]
      exact h8.symm
end Go.Proofs.YtebjlmnhpfoglaaGreatDoor
