/-
  Plain facts on texts, their pieces and the order of pieces: no program, no world. Conditions: none but those that each theorem names.
-/
import Derived.Test.YtpfighkafmammaaB02
import Derived.Lib.Strings
import Derived.Lib.QuietBelow
import Derived.Maps.AppendAt

namespace Go.Proofs.Ytpfighkafmammaa.Pth.Pt

abbrev Bs := List UInt8

/-- What stands between slashes. -/
def pieces : Bs → List Bs
  | [] => [[]]
  | b :: l => if b = 47 then [] :: pieces l else
      match pieces l with
      | [] => [[b]]
      | p :: r => (b :: p) :: r

theorem pieces_cons : ∀ l : Bs, ∃ p r, pieces l = p :: r
  | [] => ⟨[], [], rfl⟩
  | b :: l => by
    unfold pieces
    split
    · exact ⟨_, _, rfl⟩
    · obtain ⟨p, r, h⟩ := pieces_cons l
      rw [h]
      exact ⟨_, _, rfl⟩

theorem pieces_ne (l : Bs) : pieces l ≠ [] := by
  obtain ⟨p, r, h⟩ := pieces_cons l
  rw [h]
  exact List.cons_ne_nil _ _

theorem pieces_pos (l : Bs) : 1 ≤ (pieces l).length := by
  obtain ⟨p, r, h⟩ := pieces_cons l
  rw [h]
  simp

/-- No slash in what goes ahead: the first piece begins with it. -/
theorem pieces_ahead : ∀ (a b p : Bs) (r : List Bs), (∀ x ∈ a, x ≠ 47) → pieces b = p :: r → pieces (a ++ b) = (a ++ p) :: r
  | [], _, _, _, _, h => h
  | x :: a, b, p, r, hn, h => by
    have ih := pieces_ahead a b p r (fun y hy => hn y (List.mem_cons_of_mem _ hy)) h
    have hx : ¬ x = 47 := hn x (List.mem_cons_self ..)
    rw [List.cons_append]
    unfold pieces
    rw [if_neg hx, ih]
    rfl

theorem pieces_slash : ∀ a b : Bs, pieces (a ++ 47 :: b) = pieces a ++ pieces b
  | [], b => by simp [pieces]
  | x :: a, b => by
    have ih := pieces_slash a b
    rw [List.cons_append]
    by_cases hx : x = 47
    · rw [pieces, if_pos hx, pieces, if_pos hx, ih]; rfl
    · obtain ⟨p, r, h⟩ := pieces_cons a
      rw [pieces, if_neg hx, pieces, if_neg hx, ih, h]; rfl

theorem pieces_none (a : Bs) (h : ∀ x ∈ a, x ≠ 47) : pieces a = [a] := by
  have := pieces_ahead a [] [] [] h rfl
  simpa using this

theorem pieces_cut (a b : Bs) (h : ∀ x ∈ a, x ≠ 47) : pieces (a ++ 47 :: b) = a :: pieces b := by
  rw [pieces_slash, pieces_none a h]; rfl

theorem pieces_mem : ∀ (l p : Bs), p ∈ pieces l → ∀ x ∈ p, x ≠ 47
  | [], p, h, x, hx => by simp [pieces] at h; subst h; cases hx
  | b :: l, p, h, x, hx => by
    unfold pieces at h
    split at h
    · rcases List.mem_cons.1 h with rfl | h
      · cases hx
      · exact pieces_mem l p h x hx
    · rename_i hb
      obtain ⟨q, r, e⟩ := pieces_cons l
      rw [e] at h
      rcases List.mem_cons.1 h with rfl | h
      · rcases List.mem_cons.1 hx with rfl | hx
        · exact hb
        · exact pieces_mem l q (by rw [e]; exact List.mem_cons_self ..) x hx
      · exact pieces_mem l p (by rw [e]; exact List.mem_cons_of_mem _ h) x hx

/-- Names with a slash between each two. -/
def joinP : List Bs → Bs
  | [] => []
  | p :: r => match r with
    | [] => p
    | _ :: _ => p ++ 47 :: joinP r

theorem joinP_one (p : Bs) : joinP [p] = p := rfl
theorem joinP_two (p q : Bs) (r : List Bs) : joinP (p :: q :: r) = p ++ 47 :: joinP (q :: r) := rfl
theorem joinP_cons (p : Bs) (r : List Bs) (h : r ≠ []) : joinP (p :: r) = p ++ 47 :: joinP r := by
  cases r with
  | nil => exact absurd rfl h
  | cons q r => rfl

theorem joinP_bcons (b : UInt8) (p : Bs) (r : List Bs) : joinP ((b :: p) :: r) = b :: joinP (p :: r) := by
  cases r <;> rfl

theorem join_pieces : ∀ l : Bs, joinP (pieces l) = l
  | [] => rfl
  | b :: l => by
    have ih := join_pieces l
    obtain ⟨p, r, e⟩ := pieces_cons l
    unfold pieces
    split
    · rename_i hb
      rw [joinP_cons _ _ (pieces_ne l), ih, hb]; rfl
    · rw [e]
      rw [e] at ih
      show joinP ((b :: p) :: r) = b :: l
      rw [joinP_bcons, ih]

theorem pieces_join : ∀ ps : List Bs, ps ≠ [] → (∀ p ∈ ps, ∀ x ∈ p, x ≠ 47) → pieces (joinP ps) = ps
  | [], h, _ => absurd rfl h
  | [p], _, hn => by rw [joinP_one]; exact pieces_none p (hn p (List.mem_cons_self ..))
  | p :: q :: r, _, hn => by
    rw [joinP_two, pieces_cut _ _ (hn p (List.mem_cons_self ..)), pieces_join (q :: r) (List.cons_ne_nil _ _) fun y hy => hn y (List.mem_cons_of_mem _ hy)]

theorem pieces_inj (a b : Bs) (h : pieces a = pieces b) : a = b := by
  rw [← join_pieces a, ← join_pieces b, h]

theorem joinP_snoc : ∀ (ps : List Bs) (q : Bs), ps ≠ [] → joinP (ps ++ [q]) = joinP ps ++ 47 :: q
  | [], _, h => absurd rfl h
  | [p], q, _ => rfl
  | p :: p' :: r, q, _ => by
    have ih := joinP_snoc (p' :: r) q (List.cons_ne_nil _ _)
    show joinP (p :: p' :: (r ++ [q])) = _
    rw [joinP_two, joinP_two]
    have : p' :: (r ++ [q]) = (p' :: r) ++ [q] := rfl
    rw [this, ih]
    simp

theorem joinP_append : ∀ (ps qs : List Bs), ps ≠ [] → qs ≠ [] → joinP (ps ++ qs) = joinP ps ++ 47 :: joinP qs
  | [], _, h, _ => absurd rfl h
  | [p], qs, _, hq => by rw [joinP_one]; exact joinP_cons p qs hq
  | p :: p' :: r, qs, _, hq => by
    have ih := joinP_append (p' :: r) qs (List.cons_ne_nil _ _) hq
    show joinP (p :: p' :: (r ++ qs)) = _
    rw [joinP_two, joinP_two]
    have : p' :: (r ++ qs) = (p' :: r) ++ qs := rfl
    rw [this, ih]
    simp

/-- One byte more: the last piece gets it, or a new one begins. -/
theorem pieces_snoc_slash (l : Bs) : pieces (l ++ [47]) = pieces l ++ [[]] := by
  rw [pieces_slash]; rfl

theorem pieces_snoc : ∀ (l : Bs) (b : UInt8) (ps : List Bs) (q : Bs), b ≠ 47 → pieces l = ps ++ [q] → pieces (l ++ [b]) = ps ++ [q ++ [b]]
  | [], b, ps, q, hb, h => by
    cases ps with
    | nil => simp [pieces] at h; subst h; simp [pieces, hb]
    | cons a t => simp [pieces] at h
  | x :: l, b, ps, q, hb, h => by
    obtain ⟨p, r, e⟩ := pieces_cons l
    rw [List.cons_append]
    unfold pieces at h ⊢
    split at h
    · rename_i hx
      rw [if_pos hx]
      cases ps with
      | nil => simp at h; exact absurd h.2 (pieces_ne l)
      | cons a t =>
        simp only [List.cons_append, List.cons.injEq] at h
        rw [pieces_snoc l b t q hb h.2, ← h.1]; rfl
    · rename_i hx
      rw [if_neg hx]
      rw [e] at h
      cases ps with
      | nil =>
        simp at h
        have e' : pieces l = [] ++ [p] := by rw [e, h.2]; rfl
        rw [pieces_snoc l b [] p hb e', ← h.1]
        rfl
      | cons a t =>
        simp only [List.cons_append, List.cons.injEq] at h
        have e' : pieces l = (p :: t) ++ [q] := by rw [e, h.2]; rfl
        rw [pieces_snoc l b (p :: t) q hb e', ← h.1]
        rfl

/-! ### names and paths -/

def sign (b : UInt8) : Bool := (decide (97 ≤ b.toNat) && decide (b.toNat ≤ 122)) || (decide (48 ≤ b.toNat) && decide (b.toNat ≤ 57)) || decide (b.toNat = 46) || decide (b.toNat = 95) || decide (b.toNat = 45)

theorem sign_slash (b : UInt8) (h : sign b = true) : b ≠ 47 := by
  rintro rfl
  revert h
  decide

def isName (l : Bs) : Bool := decide (1 ≤ l.length) && decide (l.length ≤ 12) && decide (l ≠ [46]) && decide (l ≠ [46, 46]) && l.all sign

theorem isName_iff (l : Bs) : isName l = true ↔ 1 ≤ l.length ∧ l.length ≤ 12 ∧ l ≠ [46] ∧ l ≠ [46, 46] ∧ ∀ x ∈ l, sign x = true := by
  unfold isName
  simp only [Bool.and_eq_true, decide_eq_true_eq, List.all_eq_true]
  constructor
  · rintro ⟨⟨⟨⟨a, b⟩, c⟩, d⟩, e⟩; exact ⟨a, b, c, d, e⟩
  · rintro ⟨a, b, c, d, e⟩; exact ⟨⟨⟨⟨a, b⟩, c⟩, d⟩, e⟩

theorem isName_slash (l : Bs) (h : isName l = true) : ∀ x ∈ l, x ≠ 47 := fun x hx => sign_slash x (((isName_iff l).1 h).2.2.2.2 x hx)

def isPath (l : Bs) : Bool := decide ((pieces l).length ≤ 4) && (pieces l).all isName

theorem isPath_iff (l : Bs) : isPath l = true ↔ (pieces l).length ≤ 4 ∧ ∀ p ∈ pieces l, isName p = true := by
  unfold isPath
  simp only [Bool.and_eq_true, decide_eq_true_eq, List.all_eq_true]

def parts (l : Bs) : List Bs := if isPath l = true then pieces l else []

def check (l : Bs) : Int := if 51 < l.length then 2 else if isPath l = true then 0 else 1

/-- How long what is joined may be. -/
theorem joinP_length : ∀ ps : List Bs, (∀ p ∈ ps, p.length ≤ 12) → (joinP ps).length + 1 ≤ 13 * ps.length + (if ps = [] then 1 else 0)
  | [], _ => by simp [joinP]
  | [p], h => by have := h p (List.mem_cons_self ..); simp [joinP]; omega
  | p :: q :: r, h => by
    have ih := joinP_length (q :: r) fun y hy => h y (List.mem_cons_of_mem _ hy)
    have := h p (List.mem_cons_self ..)
    rw [joinP_two]
    simp only [List.length_append, List.length_cons, reduceCtorEq, if_false] at ih ⊢
    omega

theorem path_length (l : Bs) (h : isPath l = true) : l.length ≤ 51 := by
  obtain ⟨h4, hn⟩ := (isPath_iff l).1 h
  have := joinP_length (pieces l) fun p hp => ((isName_iff p).1 (hn p hp)).2.1
  rw [join_pieces, if_neg (pieces_ne l)] at this
  omega

theorem check_ok (l : Bs) : check l = 0 ↔ isPath l = true := by
  unfold check
  constructor
  · intro h
    split at h
    · exact absurd h (by decide)
    · split at h
      · assumption
      · exact absurd h (by decide)
  · intro h
    have := path_length l h
    rw [if_neg (by omega), if_pos h]

/-- A name alone is a path of one piece, and such a path is a name. -/
theorem name_path (l : Bs) (h : isName l = true) : pieces l = [l] ∧ isPath l = true := by
  have e := pieces_none l (isName_slash l h)
  refine ⟨e, (isPath_iff l).2 ?_⟩
  rw [e]
  refine ⟨by simp, ?_⟩
  intro p hp
  rw [List.mem_singleton.1 hp]
  exact h

theorem path_name (l : Bs) (h : isPath l = true) (h1 : (pieces l).length = 1) : isName l = true := by
  obtain ⟨_, hn⟩ := (isPath_iff l).1 h
  obtain ⟨p, e⟩ := List.length_eq_one_iff.1 h1
  have := join_pieces l
  rw [e, joinP_one] at this
  subst this
  exact hn p (by rw [e]; exact List.mem_cons_self ..)

theorem parts_one (l : Bs) : decide ((parts l).length = 1) = isName l := by
  unfold parts
  cases hn : isName l with
  | true =>
    obtain ⟨e, hp⟩ := name_path l hn
    rw [if_pos hp, e]; rfl
  | false =>
    split
    · rename_i hp
      refine decide_eq_false fun h1 => ?_
      rw [path_name l hp h1] at hn
      exact Bool.noConfusion hn
    · rfl

theorem parts_pos (l : Bs) : decide (0 < (parts l).length) = isPath l := by
  unfold parts
  cases hp : isPath l with
  | true => rw [if_pos rfl]; have := pieces_pos l; exact decide_eq_true (by omega)
  | false => rw [if_neg (by decide)]; rfl

theorem parts_path (l : Bs) (h : isPath l = true) : parts l = pieces l := if_pos h
theorem parts_none (l : Bs) (h : isPath l = false) : parts l = [] := if_neg (by rw [h]; decide)
theorem parts_le (l : Bs) : (parts l).length ≤ 4 := by
  unfold parts
  split
  · rename_i h; exact ((isPath_iff l).1 h).1
  · simp
theorem parts_names (l : Bs) : ∀ p ∈ parts l, isName p = true := by
  unfold parts
  split
  · rename_i h; exact ((isPath_iff l).1 h).2
  · intro p hp; cases hp

/-! ### pieces, one behind the other -/

/-- The pieces from a place on. -/
def left (s : Bs) (k : Nat) : List Bs := if k ≤ s.length then pieces (s.drop k) else []

theorem left_zero (s : Bs) : left s 0 = pieces s := by simp [left]

theorem left_step (s : Bs) (k e : Nat) (hk : k ≤ e) (he : e ≤ s.length) (hn : ∀ x ∈ (s.drop k).take (e - k), x ≠ 47)
    (hend : e = s.length ∨ s[e]? = some 47) : left s k = (s.drop k).take (e - k) :: left s (e + 1) := by
  unfold left
  rw [if_pos (by omega)]
  rcases Nat.lt_or_ge e s.length with hlt | hge
  · rw [if_pos (by omega)]
    have h47 : s[e]? = some 47 := by
      rcases hend with h | h
      · omega
      · exact h
    have hd : s.drop k = (s.drop k).take (e - k) ++ 47 :: s.drop (e + 1) := by
      conv => lhs; rw [← List.take_append_drop (e - k) (s.drop k)]
      rw [List.drop_drop, show k + (e - k) = e by omega]
      congr 1
      rw [List.drop_eq_getElem_cons hlt]
      congr 1
      rw [List.getElem?_eq_getElem hlt] at h47
      exact Option.some.inj h47
    conv => lhs; rw [hd]
    exact pieces_cut _ _ hn
  · have hee : e = s.length := by omega
    rw [if_neg (by omega)]
    have : (s.drop k).take (e - k) = s.drop k := by
      apply List.take_of_length_le
      rw [List.length_drop]; omega
    rw [this] at hn ⊢
    exact pieces_none _ hn

theorem left_end (s : Bs) (k : Nat) (h : s.length < k) : left s k = [] := if_neg (by omega)

/-- What is known of a text whose first pieces are names. -/
structure Sofar (s : Bs) (k : Nat) (cs : List Bs) : Prop where
  all : pieces s = cs ++ left s k
  names : ∀ p ∈ cs, isName p = true
  few : cs.length ≤ 4

theorem Sofar.zero (s : Bs) : Sofar s 0 [] where
  all := by rw [left_zero]; rfl
  names := by intro p hp; cases hp
  few := by simp

theorem Sofar.step {s : Bs} {k e : Nat} {cs : List Bs} (h : Sofar s k cs) (hk : k ≤ e) (he : e ≤ s.length) (hend : e = s.length ∨ s[e]? = some 47)
    (hp : isName ((s.drop k).take (e - k)) = true) (hc : cs.length < 4) : Sofar s (e + 1) (cs ++ [(s.drop k).take (e - k)]) := by
  refine ⟨?_, ?_, ?_⟩
  · rw [h.all, left_step s k e hk he (isName_slash _ hp) hend]
    simp
  · intro p hm
    rcases List.mem_append.1 hm with hm | hm
    · exact h.names p hm
    · rw [List.mem_singleton.1 hm]; exact hp
  · simp; omega

theorem Sofar.done {s : Bs} {k : Nat} {cs : List Bs} (h : Sofar s k cs) (hk : s.length < k) : isPath s = true ∧ pieces s = cs := by
  have e : pieces s = cs := by rw [h.all, left_end s k hk]; simp
  exact ⟨(isPath_iff s).2 (by rw [e]; exact ⟨h.few, h.names⟩), e⟩

theorem Sofar.bad {s : Bs} {k : Nat} {cs : List Bs} (h : Sofar s k cs) (p : Bs) (r : List Bs) (hl : left s k = p :: r) (hb : isName p = false ∨ cs.length = 4) : isPath s = false := by
  cases hp : isPath s with
  | false => rfl
  | true =>
    exfalso
    obtain ⟨h4, hn⟩ := (isPath_iff s).1 hp
    rw [h.all, hl] at h4 hn
    rcases hb with hb | hb
    · have := hn p (by simp)
      rw [hb] at this
      exact Bool.noConfusion this
    · simp at h4; omega

/-- A whole piece that is no name, or one too many. -/
theorem Sofar.stop {s : Bs} {k e : Nat} {cs : List Bs} (h : Sofar s k cs) (hk : k ≤ e) (he : e ≤ s.length) (hn : ∀ x ∈ (s.drop k).take (e - k), x ≠ 47) (hend : e = s.length ∨ s[e]? = some 47)
    (hb : isName ((s.drop k).take (e - k)) = false ∨ cs.length = 4) : isPath s = false :=
  h.bad _ _ (left_step s k e hk he hn hend) hb

/-- A sign that no name has, or a thirteenth. -/
theorem Sofar.break_ {s : Bs} {k e : Nat} {cs : List Bs} (h : Sofar s k cs) (hk : k ≤ e) (he : e < s.length) (hn : ∀ x ∈ (s.drop k).take (e - k), x ≠ 47) (h47 : s[e] ≠ 47)
    (hb : sign s[e] = false ∨ e - k = 12) : isPath s = false := by
  obtain ⟨p, r, hpr⟩ := pieces_cons (s.drop (e + 1))
  have hd : s.drop k = ((s.drop k).take (e - k) ++ [s[e]]) ++ s.drop (e + 1) := by
    conv => lhs; rw [← List.take_append_drop (e - k) (s.drop k)]
    rw [List.drop_drop, show k + (e - k) = e by omega, List.drop_eq_getElem_cons he]
    simp
  have hl : left s k = (((s.drop k).take (e - k) ++ [s[e]]) ++ p) :: r := by
    unfold left
    rw [if_pos (by omega)]
    conv => lhs; rw [hd]
    refine pieces_ahead _ _ _ _ ?_ hpr
    intro x hx
    rcases List.mem_append.1 hx with hx | hx
    · exact hn x hx
    · rw [List.mem_singleton.1 hx]; exact h47
  refine h.bad _ _ hl (.inl ?_)
  cases hN : isName (((s.drop k).take (e - k) ++ [s[e]]) ++ p) with
  | false => rfl
  | true =>
    exfalso
    obtain ⟨_, h12, _, _, hs⟩ := (isName_iff _).1 hN
    rcases hb with hb | hb
    · have := hs s[e] (by simp)
      rw [hb] at this
      exact Bool.noConfusion this
    · simp at h12; omega

/-! ### one order out of another -/

structure Good {α : Type} (c : α → α → Int) : Prop where
  rng : ∀ a b, c a b = -1 ∨ c a b = 0 ∨ c a b = 1
  anti : ∀ a b, c b a = - c a b
  eq : ∀ a b, c a b = 0 ↔ a = b
  tr : ∀ a b d, c a b = -1 → c b d = -1 → c a d = -1

def lexC {α : Type} (c : α → α → Int) : List α → List α → Int
  | [], [] => 0
  | [], _ :: _ => -1
  | _ :: _, [] => 1
  | a :: l, b :: m => if c a b = 0 then lexC c l m else c a b

theorem lexC_rng {α : Type} {c : α → α → Int} (g : Good c) : ∀ l m, lexC c l m = -1 ∨ lexC c l m = 0 ∨ lexC c l m = 1
  | [], [] => .inr (.inl rfl)
  | [], _ :: _ => .inl rfl
  | _ :: _, [] => .inr (.inr rfl)
  | a :: l, b :: m => by
    unfold lexC
    split
    · exact lexC_rng g l m
    · exact g.rng a b

theorem lexC_anti {α : Type} {c : α → α → Int} (g : Good c) : ∀ l m, lexC c m l = - lexC c l m
  | [], [] => rfl
  | [], _ :: _ => rfl
  | _ :: _, [] => rfl
  | a :: l, b :: m => by
    have h := g.anti a b
    unfold lexC
    rw [h]
    by_cases h0 : c a b = 0
    · rw [if_pos h0, if_pos (by omega)]; exact lexC_anti g l m
    · rw [if_neg h0, if_neg (by omega)]

theorem lexC_eq {α : Type} {c : α → α → Int} (g : Good c) : ∀ l m, lexC c l m = 0 ↔ l = m
  | [], [] => by simp [lexC]
  | [], _ :: _ => by simp [lexC]
  | _ :: _, [] => by simp [lexC]
  | a :: l, b :: m => by
    have ih := lexC_eq g l m
    have h := g.eq a b
    unfold lexC
    split
    · rename_i h0; rw [ih, List.cons.injEq]; simp [h.1 h0]
    · rename_i h0; rw [List.cons.injEq]; constructor
      · intro e; exact absurd e h0
      · rintro ⟨e, _⟩; exact h.2 e

theorem lexC_tr {α : Type} {c : α → α → Int} (g : Good c) : ∀ l m n, lexC c l m = -1 → lexC c m n = -1 → lexC c l n = -1
  | [], [], _, h, _ => by simp [lexC] at h
  | [], _ :: _, [], _, h => by simp [lexC] at h
  | [], _ :: _, _ :: _, _, _ => rfl
  | _ :: _, [], _, h, _ => by simp [lexC] at h
  | _ :: _, _ :: _, [], _, h => by simp [lexC] at h
  | a :: l, b :: m, d :: n, h1, h2 => by
    unfold lexC at h1 h2 ⊢
    split at h1
    · rename_i e1
      have e1 := (g.eq a b).1 e1
      subst e1
      split at h2
      · rename_i e2; rw [if_pos e2]; exact lexC_tr g l m n h1 h2
      · rename_i e2; rw [if_neg e2]; exact h2
    · rename_i e1
      split at h2
      · rename_i e2
        have e2 := (g.eq b d).1 e2
        subst e2
        rw [if_neg e1]; exact h1
      · have := g.tr a b d h1 h2
        rw [if_neg (by omega)]; exact this

theorem Good.lex {α : Type} {c : α → α → Int} (g : Good c) : Good (lexC c) := ⟨lexC_rng g, lexC_anti g, lexC_eq g, lexC_tr g⟩

def cmp8 (a b : UInt8) : Int := if a < b then -1 else if b < a then 1 else 0

theorem cmp8_good : Good cmp8 := by
  have key : ∀ a b : UInt8, cmp8 a b = if a.toNat < b.toNat then -1 else if b.toNat < a.toNat then 1 else 0 := fun a b => by
    unfold cmp8; simp only [UInt8.lt_iff_toNat_lt]
  refine ⟨?_, ?_, ?_, ?_⟩
  · intro a b; rw [key]; split; exact .inl rfl; split; exact .inr (.inr rfl); exact .inr (.inl rfl)
  · intro a b; rw [key, key]
    by_cases h : a.toNat < b.toNat
    · rw [if_neg (by omega), if_pos h, if_pos h]; rfl
    · by_cases h' : b.toNat < a.toNat
      · rw [if_pos h', if_neg h, if_pos h']
      · rw [if_neg h', if_neg h, if_neg h, if_neg h']; rfl
  · intro a b; rw [key, ← UInt8.toNat_inj]
    by_cases h : a.toNat < b.toNat
    · rw [if_pos h]; omega
    · rw [if_neg h]
      by_cases h' : b.toNat < a.toNat
      · rw [if_pos h']; omega
      · rw [if_neg h']; omega
  · intro a b d; rw [key, key, key]
    intro h1 h2
    have e1 : a.toNat < b.toNat := by
      by_cases h : a.toNat < b.toNat
      · exact h
      · rw [if_neg h] at h1; split at h1 <;> omega
    have e2 : b.toNat < d.toNat := by
      by_cases h : b.toNat < d.toNat
      · exact h
      · rw [if_neg h] at h2; split at h2 <;> omega
    rw [if_pos (by omega)]

/-- Byte by byte. -/
def cmpB : Bs → Bs → Int := lexC cmp8
/-- Piece by piece. -/
def cmpP : List Bs → List Bs → Int := lexC cmpB
/-- Text by text. -/
def cmpT (a b : Bs) : Int := cmpP (pieces a) (pieces b)

theorem cmpB_good : Good cmpB := cmp8_good.lex
theorem cmpP_good : Good cmpP := cmpB_good.lex
theorem cmpT_good : Good cmpT :=
  ⟨fun _ _ => cmpP_good.rng _ _, fun _ _ => cmpP_good.anti _ _, fun _ _ => ⟨fun h => pieces_inj _ _ ((cmpP_good.eq _ _).1 h), fun h => (cmpP_good.eq _ _).2 (by rw [h])⟩, fun _ _ _ h1 h2 => cmpP_good.tr _ _ _ h1 h2⟩

theorem cmpP_cons (p q : Bs) (r t : List Bs) : cmpP (p :: r) (q :: t) = if cmpB p q = 0 then cmpP r t else cmpB p q := rfl
theorem cmpP_nil : cmpP [] [] = 0 := rfl
theorem cmpP_nil_cons (q : Bs) (t : List Bs) : cmpP [] (q :: t) = -1 := rfl
theorem cmpP_cons_nil (p : Bs) (r : List Bs) : cmpP (p :: r) [] = 1 := rfl

/-- What the law of the order asks. -/
theorem cmpT_row (a b c : Bs) : (0 < cmpT a b ∨ 0 < cmpT b c ∨ cmpT a c ≤ 0) ∧ (0 ≤ cmpT a b ∨ 0 ≤ cmpT b c ∨ cmpT a c < 0) := by
  have r1 := cmpT_good.rng a b
  have r2 := cmpT_good.rng b c
  have r3 := cmpT_good.rng a c
  have e1 := cmpT_good.eq a b
  have e2 := cmpT_good.eq b c
  have t := cmpT_good.tr a b c
  rcases r1 with h1 | h1 | h1
  · rcases r2 with h2 | h2 | h2
    · have := t h1 h2; omega
    · have := e2.1 h2; subst this; omega
    · omega
  · have := e1.1 h1; subst this; omega
  · omega

/-! ### what stands together -/

/-- Below a directory. -/
def under (s d : Bs) : Bool := if d = [] then isPath s else decide ((d ++ [47]).isPrefixOf s = true) && isPath s

theorem between : ∀ (D x C y : List Bs), x ≠ [] → cmpP (D ++ x) C ≤ 0 → cmpP C (D ++ y) ≤ 0 → ∃ z, C = D ++ z ∧ z ≠ []
  | [], x, C, _, hx, h1, _ => by
    refine ⟨C, rfl, ?_⟩
    rintro rfl
    cases x with
    | nil => exact hx rfl
    | cons p r => simp [cmpP, lexC] at h1
  | d :: D, x, [], _, _, h1, _ => by simp [cmpP, lexC] at h1
  | d :: D, x, c :: C, y, hx, h1, h2 => by
    rw [List.cons_append, cmpP_cons] at h1 h2
    have ha := cmpB_good.anti d c
    have hr := cmpB_good.rng d c
    have h0 : cmpB d c = 0 := by
      by_cases h0 : cmpB d c = 0
      · exact h0
      · rw [if_neg h0] at h1
        rw [if_neg (by omega)] at h2
        omega
    have hdc := (cmpB_good.eq d c).1 h0
    rw [if_pos h0] at h1
    rw [if_pos (by omega)] at h2
    obtain ⟨z, hz, hne⟩ := between D x C y hx h1 h2
    exact ⟨z, by rw [hz, hdc]; rfl, hne⟩

/-- Below a directory: its pieces first, and more. -/
theorem prefix_pieces (s d : Bs) : (d ++ [47]).isPrefixOf s = true ↔ ∃ z, z ≠ [] ∧ pieces s = pieces d ++ z := by
  rw [List.isPrefixOf_iff_prefix]
  constructor
  · rintro ⟨t, rfl⟩
    refine ⟨pieces t, pieces_ne t, ?_⟩
    rw [List.append_assoc]
    exact pieces_slash d t
  · rintro ⟨z, hz, e⟩
    refine ⟨joinP z, ?_⟩
    have := join_pieces s
    rw [e, joinP_append _ _ (pieces_ne d) hz, join_pieces] at this
    rw [← this]
    simp

theorem together (a b c d : Bs) (ha : under a d = true) (hb : under b d = true) (hc : isPath c = true) (h1 : cmpT a c ≤ 0) (h2 : cmpT c b ≤ 0) : under c d = true := by
  unfold under at ha hb ⊢
  split
  · exact hc
  · rename_i hd
    rw [if_neg hd] at ha hb
    simp only [Bool.and_eq_true, decide_eq_true_eq] at ha hb ⊢
    refine ⟨?_, hc⟩
    obtain ⟨x, hx, ex⟩ := (prefix_pieces a d).1 ha.1
    obtain ⟨y, hy, ey⟩ := (prefix_pieces b d).1 hb.1
    unfold cmpT at h1 h2
    rw [ex] at h1
    rw [ey] at h2
    obtain ⟨z, ez, hz⟩ := between _ _ _ _ hx h1 h2
    exact (prefix_pieces c d).2 ⟨z, hz, ez⟩

/-- Below a directory, by names: the directory is one, its names are the first ones, and there are more. -/
theorem under_names (s d : Bs) : under s d = true ↔ isPath s = true ∧ (d = [] ∨ isPath d = true) ∧ (parts d).length < (parts s).length ∧ ∀ i, i < (parts d).length → (parts s)[i]? = (parts d)[i]? := by
  unfold under
  have hnil : isPath [] = false := by decide
  split
  · rename_i hd
    subst hd
    rw [parts_none [] hnil]
    constructor
    · intro h
      have := pieces_pos s
      rw [parts_path s h]
      exact ⟨h, .inl rfl, by simp; omega, fun i hi => absurd hi (by simp)⟩
    · exact fun h => h.1
  · rename_i hd
    simp only [Bool.and_eq_true, decide_eq_true_eq]
    rw [prefix_pieces]
    constructor
    · rintro ⟨⟨z, hz, e⟩, hs⟩
      obtain ⟨h4, hn⟩ := (isPath_iff s).1 hs
      have hdp : isPath d = true := by
        rw [isPath_iff]
        rw [e] at h4 hn
        simp only [List.length_append] at h4
        exact ⟨by omega, fun p hp => hn p (List.mem_append_left _ hp)⟩
      refine ⟨hs, .inr hdp, ?_, ?_⟩
      · rw [parts_path s hs, parts_path d hdp, e, List.length_append]
        have : 0 < z.length := List.length_pos_iff.2 hz
        omega
      · intro i hi
        rw [parts_path d hdp] at hi ⊢
        rw [parts_path s hs, e, List.getElem?_append_left hi]
    · rintro ⟨hs, hdd, hl, hi⟩
      have hdp : isPath d = true := by
        rcases hdd with h | h
        · exact absurd h hd
        · exact h
      rw [parts_path s hs, parts_path d hdp] at hl hi
      refine ⟨⟨(pieces s).drop (pieces d).length, ?_, ?_⟩, hs⟩
      · intro h
        have := congrArg List.length h
        simp at this
        omega
      · conv => lhs; rw [← List.take_append_drop (pieces d).length (pieces s)]
        congr 1
        apply List.ext_getElem?
        intro i
        rcases Nat.lt_or_ge i (pieces d).length with h | h
        · rw [List.getElem?_take_of_lt h]; exact hi i h
        · rw [List.getElem?_eq_none (by rw [List.length_take]; omega), List.getElem?_eq_none h]

/-! ### up and last -/

def up (s : Bs) : Bs := if isPath s = true then joinP (pieces s).dropLast else []
def last (s : Bs) : Bs := if isPath s = true then (pieces s).getLast?.getD [] else []

/-- No slash: one piece. -/
theorem one_up (s : Bs) (h : ∀ x ∈ s, x ≠ 47) : joinP (pieces s).dropLast = [] ∧ (pieces s).getLast?.getD [] = s := by
  rw [pieces_none s h]; exact ⟨rfl, rfl⟩

/-- The last slash: what stands ahead of it, and what behind it. -/
theorem more_up (a b : Bs) (h : ∀ x ∈ b, x ≠ 47) : joinP (pieces (a ++ 47 :: b)).dropLast = a ∧ (pieces (a ++ 47 :: b)).getLast?.getD [] = b := by
  rw [pieces_slash, pieces_none b h]
  simp [join_pieces]

theorem up_last (s : Bs) (h : isPath s = true) : (if up s = [] then up s else up s ++ [47]) ++ last s = s := by
  unfold up last
  rw [if_pos h, if_pos h]
  obtain ⟨_, hn⟩ := (isPath_iff s).1 h
  have hj := join_pieces s
  rcases List.eq_nil_or_concat (pieces s) with e | ⟨ps, q, e⟩
  · exact absurd e (pieces_ne s)
  · rw [List.concat_eq_append] at e
    rw [e] at hj hn ⊢
    rw [List.dropLast_concat, List.getLast?_concat]
    by_cases hps : ps = []
    · subst hps
      rw [show joinP [] = [] from rfl, if_pos rfl]
      exact hj
    · have hne : joinP ps ≠ [] := by
        intro h0
        cases ps with
        | nil => exact hps rfl
        | cons p r =>
          have hp := ((isName_iff p).1 (hn p (by simp))).1
          cases r with
          | nil => rw [joinP_one] at h0; rw [h0] at hp; simp at hp
          | cons p' r => rw [joinP_two] at h0; simp at h0
      rw [if_neg hne]
      rw [joinP_snoc ps q hps] at hj
      simpa using hj

theorem joinP_ne (ps : List Bs) (hps : ps ≠ []) (hn : ∀ p ∈ ps, isName p = true) : joinP ps ≠ [] := by
  intro h0
  cases ps with
  | nil => exact hps rfl
  | cons p r =>
    have hp := ((isName_iff p).1 (hn p (by simp))).1
    cases r with
    | nil => rw [joinP_one] at h0; rw [h0] at hp; simp at hp
    | cons p' r => rw [joinP_two] at h0; simp at h0

/-- A path of names that are joined. -/
theorem join_path (ps : List Bs) (hps : ps ≠ []) (h4 : ps.length ≤ 4) (hn : ∀ p ∈ ps, isName p = true) : pieces (joinP ps) = ps ∧ isPath (joinP ps) = true := by
  have e := pieces_join ps hps fun p hp => isName_slash p (hn p hp)
  exact ⟨e, (isPath_iff _).2 (by rw [e]; exact ⟨h4, hn⟩)⟩

/-- The path of some names, and whether there is one. -/
def joins (ps : List Bs) : Bool := decide (1 ≤ ps.length) && decide (ps.length ≤ 4) && ps.all isName

theorem joins_iff (ps : List Bs) : joins ps = true ↔ 1 ≤ ps.length ∧ ps.length ≤ 4 ∧ ∀ p ∈ ps, isName p = true := by
  unfold joins
  simp only [Bool.and_eq_true, decide_eq_true_eq, List.all_eq_true]
  constructor
  · rintro ⟨⟨a, b⟩, c⟩; exact ⟨a, b, c⟩
  · rintro ⟨a, b, c⟩; exact ⟨⟨a, b⟩, c⟩

end Go.Proofs.Ytpfighkafmammaa.Pth.Pt

/-
  Plain facts on nodes: whether one may be, its bytes, and the node that bytes are. Conditions: none but those that each theorem names.
-/

namespace Go.Proofs.Ytpfighkafmammaa
open Go.RowKit

/-- A kid: a name, and a digest. -/
abbrev Kd := ByteArray × List UInt8
structure Nd where
  vs : List Vc.V
  ks : List Kd
def isN (s : ByteArray) : Bool := Pth.Pt.isName s.data.toList
def leqB (a b : ByteArray) : Bool := Go.Op.bytesLess a.toList b.toList || (a.toList == b.toList)
def kidErr (prev : ByteArray) (k : Kd) : Int := if isN k.1 = false then 1 else if leqB k.1 prev = true then 8 else 0
def chkK : ByteArray → List Kd → Int
  | _, [] => 0
  | prev, k :: l => if kidErr prev k ≠ 0 then kidErr prev k else chkK k.1 l
def chkN (n : Nd) : Int := if Vc.checkLeaf n.vs ≠ 0 then Vc.checkLeaf n.vs else if 128 < n.ks.length then 2 else chkK ⟨#[]⟩ n.ks
/-- Digests have 32 bytes. -/
def Digs (l : List Kd) : Prop := ∀ k ∈ l, k.2.length = 32
def prevK (l : List Kd) : Nat → ByteArray
  | 0 => ⟨#[]⟩
  | j + 1 => match l[j]? with
    | some k => k.1
    | none => ⟨#[]⟩
theorem prevK_at (l : List Kd) (j : Nat) (k : Kd) (h : l[j]? = some k) : prevK l (j + 1) = k.1 := by simp [prevK, h]
theorem chkK_step (l : List Kd) (j : Nat) (k : Kd) (h : l[j]? = some k) : chkK (prevK l j) (l.drop j) = if kidErr (prevK l j) k ≠ 0 then kidErr (prevK l j) k else chkK (prevK l (j + 1)) (l.drop (j + 1)) := by
  have hj := (List.getElem?_eq_some_iff.1 h).1
  rw [List.drop_eq_getElem_cons hj, prevK_at l j k h]
  rw [List.getElem?_eq_getElem hj] at h
  injection h with h
  rw [h]
  rfl
theorem chkK_end (l : List Kd) (p : ByteArray) : chkK p (l.drop l.length) = 0 := by rw [List.drop_length]; rfl
theorem leq_none {a : ByteArray} (h : isN a = true) : leqB a ⟨#[]⟩ = false := by
  have h1 := ((Pth.Pt.isName_iff _).1 h).1
  unfold leqB
  rw [Lib.toList_data a, Lib.toList_data ⟨#[]⟩]
  cases hd : a.data.toList with
  | nil => rw [hd] at h1; simp at h1
  | cons x l => rfl

/-! What is put. -/
def wKid (st : St) (k : Kd) : St := wDigest (wText st k.1) k.2
def wKids (st : St) (l : List Kd) : St := l.foldl wKid st
def wNode (n : Nd) : St := wKids (wNumber (wLeaf (fail ([], 0) (chkN n)) n.vs) n.ks.length) n.ks
def bytesN (n : Nd) : List UInt8 × Int := (told (wNode n), (wNode n).2)
theorem wDigest_bad' {st : St} (h : st.2 ≠ 0) (d : List UInt8) : wDigest st d = st := wput_bad h _ _
theorem wDigest_ok (b : List UInt8) (d : List UInt8) : wDigest (b, 0) d = (b ++ d, 0) := rfl
theorem wKid_bad {st : St} (h : st.2 ≠ 0) (k : Kd) : wKid st k = st := by
  unfold wKid
  rw [show wText st k.1 = st from wput_bad h _ _, wDigest_bad' h]
theorem wKids_bad {st : St} (h : st.2 ≠ 0) : ∀ l : List Kd, wKids st l = st
  | [] => rfl
  | k :: l => by
    show wKids (wKid st k) l = st
    rw [wKid_bad h, wKids_bad h l]
theorem wDigest_len' (st : St) {d : List UInt8} (hd : d.length = 32) : (wDigest st d).1.length ≤ st.1.length + 32 := by
  have := wput_len st true d
  simp only [if_true] at this
  unfold wDigest
  omega
theorem wKid_len (st : St) {k : Kd} (h : k.2.length = 32) : (wKid st k).1.length ≤ st.1.length + 65573 := by
  have h1 := wDigest_len' (wText st k.1) h
  have h2 := (wText_len st k.1).1
  unfold wKid
  omega
theorem wKids_snoc (st : St) (l : List Kd) (j : Nat) (k : Kd) (h : l[j]? = some k) : wKids st (l.take (j + 1)) = wKid (wKids st (l.take j)) k := by
  rw [List.take_add_one, h]
  simp [wKids]
theorem wKids_len : ∀ (l : List Kd) (st : St), Digs l → (wKids st l).1.length ≤ st.1.length + 65573 * l.length
  | [], st, _ => by simp [wKids]
  | k :: l, st, h => by
    have h1 := wKids_len l (wKid st k) fun x hx => h x (List.mem_cons_of_mem _ hx)
    have h2 := wKid_len st (h k (List.mem_cons_self ..))
    show (wKids (wKid st k) l).1.length ≤ _
    simp only [List.length_cons]
    omega
theorem wNode_bad {n : Nd} (h : chkN n ≠ 0) : wNode n = ([], chkN n) := by
  have e : fail ([], 0) (chkN n) = ([], chkN n) := rfl
  unfold wNode
  rw [e, wLeaf_stays h, wNumber_bad h, wKids_bad h]
theorem bytes_bad {n : Nd} (h : chkN n ≠ 0) : bytesN n = ([], chkN n) := by
  unfold bytesN
  rw [wNode_bad h]
  unfold told
  rw [if_pos h]
def encK (k : Kd) : List UInt8 := encT k.1.data.toList ++ k.2
def encKs (l : List Kd) : List UInt8 := (l.map encK).flatten
def encN (n : Nd) : List UInt8 := encLeaf n.vs ++ (Cnt.putL n.ks.length ++ encKs n.ks)
theorem encKs_snoc (l : List Kd) (x : Kd) : encKs (l ++ [x]) = encKs l ++ encK x := by simp [encKs]
theorem encKs_drop (l : List Kd) (j : Nat) (x : Kd) (h : l[j]? = some x) : encKs (l.drop j) = encK x ++ encKs (l.drop (j + 1)) := by
  have hk := (List.getElem?_eq_some_iff.1 h).1
  rw [List.drop_eq_getElem_cons hk]
  rw [List.getElem?_eq_getElem hk] at h
  injection h with h
  simp [encKs, h]
theorem chkN_zero {n : Nd} (h : chkN n = 0) : Vc.checkLeaf n.vs = 0 ∧ n.ks.length ≤ 128 ∧ chkK ⟨#[]⟩ n.ks = 0 := by
  unfold chkN at h
  by_cases h1 : Vc.checkLeaf n.vs ≠ 0
  · rw [if_pos h1] at h; exact absurd h h1
  · rw [if_neg h1] at h
    by_cases h2 : 128 < n.ks.length
    · rw [if_pos h2] at h; cases h
    · rw [if_neg h2] at h
      exact ⟨Classical.not_not.1 h1, by omega, h⟩
theorem kidErr_zero {p : ByteArray} {k : Kd} (h : kidErr p k = 0) : isN k.1 = true := by
  unfold kidErr at h
  cases hn : isN k.1 with
  | true => rfl
  | false => rw [hn] at h; simp at h
theorem isN_size {s : ByteArray} (h : isN s = true) : s.size ≤ 12 := by
  have := ((Pth.Pt.isName_iff _).1 h).2.1
  rw [size_data] at this
  exact this
theorem chkK_names : ∀ (l : List Kd) (p : ByteArray), chkK p l = 0 → ∀ k ∈ l, k.1.size ≤ 12
  | [], _, _, k, hk => by cases hk
  | a :: l, p, h, k, hk => by
    unfold chkK at h
    by_cases h1 : kidErr p a ≠ 0
    · rw [if_pos h1] at h; exact absurd h h1
    · rw [if_neg h1] at h
      rcases List.mem_cons.1 hk with rfl | hk
      · exact isN_size (kidErr_zero (Classical.not_not.1 h1))
      · exact chkK_names l a.1 h k hk
theorem wKid_ok (b : List UInt8) {k : Kd} (h : k.1.size ≤ 12) : wKid (b, 0) k = (b ++ encK k, 0) := by
  unfold wKid
  rw [wText_ok _ (by omega), wDigest_ok]
  simp [encK]
theorem wKids_ok : ∀ (l : List Kd) (b : List UInt8), (∀ k ∈ l, k.1.size ≤ 12) → wKids (b, 0) l = (b ++ encKs l, 0)
  | [], b, _ => by simp [wKids, encKs]
  | k :: l, b, h => by
    show wKids (wKid (b, 0) k) l = _
    rw [wKid_ok _ (h k (List.mem_cons_self ..)), wKids_ok l _ fun x hx => h x (List.mem_cons_of_mem _ hx)]
    simp [encKs]
theorem wNode_ok {n : Nd} (h : chkN n = 0) : wNode n = (encN n, 0) := by
  obtain ⟨h1, h2, h3⟩ := chkN_zero h
  unfold wNode
  rw [h, fail_zero, wLeaf_enc _ h1, wNumber_ok _ (by omega) (by omega), wKids_ok _ _ (chkK_names _ _ h3)]
  simp [encN]
theorem bytes_ok {n : Nd} (h : chkN n = 0) : bytesN n = (encN n, 0) := by
  unfold bytesN
  rw [wNode_ok h]
  rfl
theorem bytes_err (n : Nd) : (bytesN n).2 = chkN n := by
  by_cases h : chkN n = 0
  · rw [bytes_ok h, h]
  · rw [bytes_bad h]

/-! What is taken. -/
def rKid (st : St) : Kd × St := ((str (rText st 12).1, (rDigest (rText st 12).2).1), (rDigest (rText st 12).2).2)
def itK : Nat → St → List Kd × St
  | 0, st => ([], st)
  | k + 1, st => ((itK k st).1 ++ [(rKid (itK k st).2).1], (rKid (itK k st).2).2)
def rKids (st : St) : List Kd × St := itK (rNumber st 128).1.toNat (rNumber st 128).2
def readN (s : List UInt8) : Nd × Int :=
  if rDone (rKids (rLeaf (s, 0)).2).2 ≠ 0 then (⟨[], []⟩, rDone (rKids (rLeaf (s, 0)).2).2)
  else if chkN ⟨(rLeaf (s, 0)).1, (rKids (rLeaf (s, 0)).2).1⟩ ≠ 0 then (⟨[], []⟩, chkN ⟨(rLeaf (s, 0)).1, (rKids (rLeaf (s, 0)).2).1⟩)
  else (⟨(rLeaf (s, 0)).1, (rKids (rLeaf (s, 0)).2).1⟩, 0)
theorem rDigest_bad' {st : St} (h : st.2 ≠ 0) : (rDigest st).2 = st := by
  unfold rDigest
  rw [if_pos h]
theorem rDigest_dig (st : St) : (rDigest st).1.length = 32 := by
  unfold rDigest
  split
  · rfl
  · split
    · rfl
    · simp only [List.length_take]; omega
theorem rDigest_less (st : St) : (rDigest st).2.1.length ≤ st.1.length := by
  unfold rDigest
  split
  · exact Nat.le_refl _
  · split
    · exact Nat.le_refl _
    · simp
theorem rKid_bad {st : St} (h : st.2 ≠ 0) : (rKid st).2 = st := by
  unfold rKid
  dsimp only
  rw [rText_bad h, rDigest_bad' h]
theorem rKid_less (st : St) : (rKid st).2.1.length ≤ st.1.length := by
  have h1 := rText_len st 12
  have h2 := rDigest_less (rText st 12).2
  unfold rKid
  dsimp only
  omega
theorem itK_len : ∀ (k : Nat) (st : St), (itK k st).1.length = k
  | 0, _ => rfl
  | k + 1, st => by simp [itK, itK_len k st]
theorem itK_less : ∀ (k : Nat) (st : St), (itK k st).2.1.length ≤ st.1.length
  | 0, _ => Nat.le_refl _
  | k + 1, st => Nat.le_trans (rKid_less _) (itK_less k st)
theorem itK_digs : ∀ (k : Nat) (st : St), Digs (itK k st).1
  | 0, _, v, h => by cases h
  | k + 1, st, v, h => by
    rcases List.mem_append.1 (show v ∈ (itK k st).1 ++ [(rKid (itK k st).2).1] from h) with h | h
    · exact itK_digs k st v h
    · rw [List.mem_singleton.1 h]
      exact rDigest_dig _
theorem rText_short (st : St) : (str (rText st 12).1).size ≤ 12 := by
  rw [str_size]
  have h0 := rNumber_most st 12 (by omega)
  unfold rText
  split
  · simp
  · split
    · simp
    · simp only [List.length_take]; omega
theorem itK_names : ∀ (k : Nat) (st : St), ∀ v ∈ (itK k st).1, v.1.size ≤ 12
  | 0, _, v, h => by cases h
  | k + 1, st, v, h => by
    rcases List.mem_append.1 (show v ∈ (itK k st).1 ++ [(rKid (itK k st).2).1] from h) with h | h
    · exact itK_names k st v h
    · rw [List.mem_singleton.1 h]
      exact rText_short _
theorem itK_stays (st : St) (k : Nat) (h : (itK k st).2.2 ≠ 0) : ∀ m, k ≤ m → (itK m st).2 = (itK k st).2
  | 0, hm => by rw [show k = 0 by omega]
  | m + 1, hm => by
    by_cases e : k = m + 1
    · rw [e]
    · have ih := itK_stays st k h m (by omega)
      show (rKid (itK m st).2).2 = _
      rw [ih]
      exact rKid_bad h
theorem kCount (st : St) : (rNumber st 128).1.toNat ≤ 128 := by
  have := rNumber_most st 128 (by omega)
  omega
theorem rKids_len (st : St) : (rKids st).1.length ≤ 128 := by
  unfold rKids
  rw [itK_len]
  exact kCount st
theorem rKids_digs (st : St) : Digs (rKids st).1 := itK_digs _ _
theorem rKids_names (st : St) : ∀ v ∈ (rKids st).1, v.1.size ≤ 12 := itK_names _ _
/-- Behind an error in the row nothing more is taken, and the node is none. -/
theorem readN_bad {s : List UInt8} (h : rDone (rKids (rLeaf (s, 0)).2).2 ≠ 0) : readN s = (⟨[], []⟩, rDone (rKids (rLeaf (s, 0)).2).2) := by
  unfold readN
  rw [if_pos h]
theorem readN_early {st : St} {k : Nat} (hk : k ≤ (rNumber st 128).1.toNat) (h : (itK k (rNumber st 128).2).2.2 ≠ 0) : (rKids st).2 = (itK k (rNumber st 128).2).2 := itK_stays _ k h _ hk
theorem rDone_bad {st : St} (h : st.2 ≠ 0) : rDone st = st.2 := by
  unfold rDone
  rw [if_neg fun hc => h hc.1]

/-! What is put is taken again, and bytes that are taken are those that are put. -/
theorem rDigest_one {st : St} (h : (rDigest st).2.2 = 0) : st.2 = 0 ∧ st.1 = (rDigest st).1 ++ (rDigest st).2.1 := by
  unfold rDigest at h ⊢
  split at h
  · rename_i h1
    exact absurd h h1
  · rename_i h1
    split at h
    · exact absurd h (by simp)
    · rename_i h2
      rw [if_neg h1, if_neg h2]
      exact ⟨Classical.not_not.1 h1, (List.take_append_drop 32 st.1).symm⟩
theorem rKid_back {k : Kd} (h : k.1.size ≤ 12) (hd : k.2.length = 32) (r : List UInt8) : rKid (encK k ++ r, 0) = (k, (r, 0)) := by
  unfold rKid encK
  rw [List.append_assoc, back_textM (by rw [size_data]; omega) (by omega)]
  dsimp only
  rw [back_digest hd, str_of]
theorem itK_back {l : List Kd} (h : ∀ k ∈ l, k.1.size ≤ 12) (hd : Digs l) (r : List UInt8) : ∀ k, k ≤ l.length → itK k (encKs l ++ r, 0) = (l.take k, (encKs (l.drop k) ++ r, 0))
  | 0, _ => by simp [itK]
  | k + 1, hk => by
    obtain ⟨d, hdd⟩ : ∃ d, l[k]? = some d := ⟨_, List.getElem?_eq_getElem (by omega)⟩
    have ih := itK_back h hd r k (by omega)
    rw [encKs_drop l k d hdd, List.append_assoc] at ih
    unfold itK
    rw [ih]
    dsimp only
    rw [rKid_back (h d (List.mem_of_getElem? hdd)) (hd d (List.mem_of_getElem? hdd)), List.take_add_one, hdd]
    rfl
theorem rKids_back {l : List Kd} (hl : l.length ≤ 128) (h : ∀ k ∈ l, k.1.size ≤ 12) (hd : Digs l) (r : List UInt8) : rKids (Cnt.putL l.length ++ (encKs l ++ r), 0) = (l, (r, 0)) := by
  unfold rKids
  rw [back_number (by omega) (by omega) 128 (by omega)]
  dsimp only
  rw [Int.toNat_natCast, itK_back h hd r _ (Nat.le_refl _), List.take_length, List.drop_length]
  rfl
theorem read_back {n : Nd} (h : chkN n = 0) (hd : Digs n.ks) : readN (encN n) = (n, 0) := by
  obtain ⟨h1, h2, h3⟩ := chkN_zero h
  have e1 := rLeaf_back h1 (Cnt.putL n.ks.length ++ encKs n.ks)
  have e2 := rKids_back h2 (chkK_names _ _ h3) hd []
  rw [List.append_nil] at e2
  unfold readN encN
  rw [e1]
  dsimp only
  rw [e2]
  dsimp only
  rw [if_neg (by simp [rDone]), if_neg (by simpa using h)]
theorem rKid_one {st : St} (h : (rKid st).2.2 = 0) : st.2 = 0 ∧ st.1 = encK (rKid st).1 ++ (rKid st).2.1 := by
  unfold rKid at h ⊢
  dsimp only at h ⊢
  obtain ⟨h1, h2⟩ := rDigest_one h
  obtain ⟨h3, h4⟩ := rText_one h1
  refine ⟨h3, ?_⟩
  unfold encK
  dsimp only
  rw [str_data, List.append_assoc, ← h2]
  exact h4
theorem itK_one : ∀ (k : Nat) (st : St), (itK k st).2.2 = 0 → st.2 = 0 ∧ st.1 = encKs (itK k st).1 ++ (itK k st).2.1
  | 0, st, h => ⟨h, by simp [itK, encKs]⟩
  | k + 1, st, h => by
    have h' : (rKid (itK k st).2).2.2 = 0 := h
    obtain ⟨h1, h2⟩ := rKid_one h'
    obtain ⟨h3, h4⟩ := itK_one k st h1
    refine ⟨h3, ?_⟩
    show st.1 = encKs ((itK k st).1 ++ [(rKid (itK k st).2).1]) ++ (rKid (itK k st).2).2.1
    rw [encKs_snoc, List.append_assoc, ← h2]
    exact h4
theorem rKids_one {st : St} (h : (rKids st).2.2 = 0) : st.2 = 0 ∧ st.1 = Cnt.putL (rKids st).1.length ++ (encKs (rKids st).1 ++ (rKids st).2.1) := by
  unfold rKids at h ⊢
  obtain ⟨h4, h5⟩ := itK_one _ _ h
  obtain ⟨h6, h7⟩ := rNumber_one h4
  refine ⟨h6, ?_⟩
  rw [itK_len, ← h5]
  have h8 := rNumber_nonneg st 128
  rw [Int.toNat_of_nonneg h8]
  exact h7
theorem read_one {s : List UInt8} (h : (readN s).2 = 0) : chkN (readN s).1 = 0 ∧ encN (readN s).1 = s ∧ Digs (readN s).1.ks := by
  unfold readN at h ⊢
  by_cases h1 : rDone (rKids (rLeaf (s, 0)).2).2 ≠ 0
  · rw [if_pos h1] at h
    exact absurd h h1
  · rw [if_neg h1] at h ⊢
    by_cases h2 : chkN ⟨(rLeaf (s, 0)).1, (rKids (rLeaf (s, 0)).2).1⟩ ≠ 0
    · rw [if_pos h2] at h
      exact absurd h h2
    · rw [if_neg h2]
      obtain ⟨h3, h4⟩ := rDone_zero (Classical.not_not.1 h1)
      obtain ⟨h5, h6⟩ := rKids_one h3
      obtain ⟨h7, h8, _⟩ := rLeaf_one h5
      refine ⟨Classical.not_not.1 h2, ?_, rKids_digs _⟩
      show encLeaf (rLeaf (s, 0)).1 ++ (Cnt.putL (rKids (rLeaf (s, 0)).2).1.length ++ encKs (rKids (rLeaf (s, 0)).2).1) = s
      rw [h4, List.append_nil] at h6
      rw [← h6]
      exact h8.symm
end Go.Proofs.Ytpfighkafmammaa

/-
  Plain facts on trees: what one has, set and taken away, in order. Conditions: none but those that each theorem names.
-/

namespace Go.Proofs.Ytpfighkafmammaa
open Go.RowKit

/-- An entry: its path, its versions. -/
abbrev En := ByteArray × List Vc.V
def cmpE (a b : ByteArray) : Int := Pth.Pt.cmpT a.data.toList b.data.toList
theorem cmpE_eq {a b : ByteArray} : cmpE a b = 0 ↔ a = b :=
  (Pth.Pt.cmpT_good.eq _ _).trans ⟨fun h => by rw [← str_of a, ← str_of b, h], fun h => by rw [h]⟩
theorem cmpE_anti (a b : ByteArray) : cmpE b a = - cmpE a b := Pth.Pt.cmpT_good.anti _ _
theorem cmpE_rng (a b : ByteArray) : cmpE a b = -1 ∨ cmpE a b = 0 ∨ cmpE a b = 1 := Pth.Pt.cmpT_good.rng _ _
theorem cmpE_tr {a b c : ByteArray} (h1 : cmpE a b < 0) (h2 : cmpE b c < 0) : cmpE a c < 0 := by
  have e1 : cmpE a b = -1 := by have := cmpE_rng a b; omega
  have e2 : cmpE b c = -1 := by have := cmpE_rng b c; omega
  have := Pth.Pt.cmpT_good.tr _ _ _ e1 e2
  unfold cmpE
  omega
theorem cmpE_self (a : ByteArray) : cmpE a a = 0 := cmpE_eq.2 rfl
theorem cmpE_ne {a b : ByteArray} (h : cmpE a b < 0) : a ≠ b := fun e => by rw [cmpE_eq.2 e] at h; omega

/-- Rising. -/
def Srt (t : List En) : Prop := t.Pairwise fun x y => cmpE x.1 y.1 < 0
theorem Srt.tail {x : En} {t : List En} (h : Srt (x :: t)) : Srt t := (List.pairwise_cons.1 h).2
theorem Srt.head {x : En} {t : List En} (h : Srt (x :: t)) : ∀ y ∈ t, cmpE x.1 y.1 < 0 := (List.pairwise_cons.1 h).1
theorem Srt.one {t : List En} (h : Srt t) : ∀ x ∈ t, ∀ y ∈ t, x.1 = y.1 → x = y := by
  induction t with
  | nil => intro x hx; cases hx
  | cons a t ih =>
    intro x hx y hy e
    rcases List.mem_cons.1 hx with rfl | hx'
    · rcases List.mem_cons.1 hy with rfl | hy'
      · rfl
      · exact absurd e (cmpE_ne (h.head y hy'))
    · rcases List.mem_cons.1 hy with rfl | hy'
      · exact absurd e.symm (cmpE_ne (h.head x hx'))
      · exact ih h.tail x hx' y hy' e
theorem Srt.ext : ∀ {t u : List En}, Srt t → Srt u → (∀ x, x ∈ t ↔ x ∈ u) → t = u
  | [], [], _, _, _ => rfl
  | [], y :: u, _, _, h => by have := (h y).2 (List.mem_cons_self ..); cases this
  | x :: t, [], _, _, h => by have := (h x).1 (List.mem_cons_self ..); cases this
  | x :: t, y :: u, ht, hu, h => by
    have e : x = y := by
      rcases List.mem_cons.1 ((h x).1 (List.mem_cons_self ..)) with e | hx
      · exact e
      · rcases List.mem_cons.1 ((h y).2 (List.mem_cons_self ..)) with e | hy
        · exact e.symm
        · have h1 := hu.head x hx
          have h2 := ht.head y hy
          rw [cmpE_anti] at h1
          omega
    subst e
    have e2 : t = u := by
      refine Srt.ext ht.tail hu.tail fun z => ⟨fun hz => ?_, fun hz => ?_⟩
      · rcases List.mem_cons.1 ((h z).1 (List.mem_cons_of_mem _ hz)) with e | hz'
        · have := ht.head z hz
          rw [e, cmpE_self] at this
          omega
        · exact hz'
      · rcases List.mem_cons.1 ((h z).2 (List.mem_cons_of_mem _ hz)) with e | hz'
        · have := hu.head z hz
          rw [e, cmpE_self] at this
          omega
        · exact hz'
    rw [e2]

def getT : List En → ByteArray → List Vc.V
  | [], _ => []
  | x :: t, p => if x.1 = p then x.2 else getT t p
theorem getT_none {t : List En} {p : ByteArray} (h : ∀ x ∈ t, x.1 ≠ p) : getT t p = [] := by
  induction t with
  | nil => rfl
  | cons a t ih =>
    unfold getT
    rw [if_neg (h a (List.mem_cons_self ..))]
    exact ih fun x hx => h x (List.mem_cons_of_mem _ hx)
theorem getT_mem {t : List En} (h : Srt t) {x : En} (hx : x ∈ t) : getT t x.1 = x.2 := by
  induction t with
  | nil => cases hx
  | cons a t ih =>
    unfold getT
    by_cases e : a.1 = x.1
    · rw [if_pos e, h.one a (List.mem_cons_self ..) x hx e]
    · rw [if_neg e]
      rcases List.mem_cons.1 hx with rfl | hx'
      · exact absurd rfl e
      · exact ih h.tail hx'
theorem getT_some {t : List En} {p : ByteArray} (h : getT t p ≠ []) : (p, getT t p) ∈ t := by
  induction t with
  | nil => exact absurd rfl h
  | cons a t ih =>
    by_cases e : a.1 = p
    · have e2 : getT (a :: t) p = a.2 := by unfold getT; rw [if_pos e]
      rw [e2, ← e]
      exact List.mem_cons_self ..
    · have e2 : getT (a :: t) p = getT t p := by conv => lhs; unfold getT; rw [if_neg e]
      rw [e2] at h ⊢
      exact List.mem_cons_of_mem _ (ih h)

/-! Set. -/
def setStep (p : ByteArray) (l : List Vc.V) (st : List En × Bool) (x : En) : List En × Bool :=
  ((if st.2 = false ∧ cmpE p x.1 ≤ 0 then st.1 ++ [(p, l)] else st.1) ++ (if x.1 ≠ p then [x] else []), st.2 || decide (cmpE p x.1 ≤ 0))
def setS (p : ByteArray) (l : List Vc.V) (t : List En) : List En × Bool := t.foldl (setStep p l) ([], decide (l.length = 0))
def putT (p : ByteArray) (l : List Vc.V) (t : List En) : List En := (setS p l t).1 ++ (if (setS p l t).2 = false then [(p, l)] else [])
/-- The same, said at once. -/
def cutT (p : ByteArray) (l : List Vc.V) (t : List En) : List En :=
  t.filter (fun x => decide (cmpE x.1 p < 0)) ++ ((if l.length = 0 then [] else [(p, l)]) ++ t.filter fun x => decide (cmpE p x.1 < 0))
theorem setS_done (p : ByteArray) (l : List Vc.V) : ∀ (t : List En) (acc : List En), (t.foldl (setStep p l) (acc, true)) = (acc ++ t.filter (fun x => decide (x.1 ≠ p)), true)
  | [], acc => by simp
  | x :: t, acc => by
    rw [List.foldl_cons]
    have e : setStep p l (acc, true) x = (acc ++ (if x.1 ≠ p then [x] else []), true) := by simp [setStep]
    rw [e, setS_done p l t]
    by_cases h : x.1 = p
    · simp [h]
    · simp [h]
theorem filter_ne_cut {p : ByteArray} : ∀ {t : List En}, Srt t → t.filter (fun x => decide (x.1 ≠ p)) = t.filter (fun x => decide (cmpE x.1 p < 0)) ++ t.filter fun x => decide (cmpE p x.1 < 0)
  | [], _ => rfl
  | x :: t, h => by
    have ih := filter_ne_cut (p := p) h.tail
    rcases cmpE_rng x.1 p with e | e | e
    · have h1 : cmpE x.1 p < 0 := by omega
      have h2 : ¬ cmpE p x.1 < 0 := by rw [cmpE_anti]; omega
      have h3 : x.1 ≠ p := cmpE_ne h1
      rw [List.filter_cons_of_pos (by simpa using h3), List.filter_cons_of_pos (by simpa using h1), List.filter_cons_of_neg (by simpa using h2), ih]
      rfl
    · have hp := cmpE_eq.1 e
      have h2 : ¬ cmpE p x.1 < 0 := by rw [cmpE_anti]; omega
      rw [List.filter_cons_of_neg (by simp [hp]), List.filter_cons_of_neg (by simp [e]), List.filter_cons_of_neg (by simpa using h2), ih]
    · have h1 : ¬ cmpE x.1 p < 0 := by omega
      have h2 : cmpE p x.1 < 0 := by rw [cmpE_anti]; omega
      have h3 : x.1 ≠ p := fun h => by rw [cmpE_eq.2 h] at e; omega
      have h4 : t.filter (fun x => decide (cmpE x.1 p < 0)) = [] := by
        rw [List.filter_eq_nil_iff]
        intro y hy
        have := cmpE_tr h2 (h.head y hy)
        rw [cmpE_anti] at this
        simp only [decide_eq_true_eq]
        omega
      rw [h4] at ih
      rw [List.filter_cons_of_pos (by simpa using h3), List.filter_cons_of_neg (by simpa using h1), List.filter_cons_of_pos (by simpa using h2), h4, ih]
      rfl
theorem setS_open (p : ByteArray) (l : List Vc.V) : ∀ (t : List En) (acc : List En), Srt t →
    (t.foldl (setStep p l) (acc, false)).1 ++ (if (t.foldl (setStep p l) (acc, false)).2 = false then [(p, l)] else []) = acc ++ (t.filter (fun x => decide (cmpE x.1 p < 0)) ++ ([(p, l)] ++ t.filter fun x => decide (cmpE p x.1 < 0)))
  | [], acc, _ => by simp
  | x :: t, acc, h => by
    rw [List.foldl_cons]
    by_cases hle : cmpE p x.1 ≤ 0
    · have e : setStep p l (acc, false) x = (acc ++ [(p, l)] ++ (if x.1 ≠ p then [x] else []), true) := by simp [setStep, hle]
      rw [e, setS_done]
      have h1 : ¬ cmpE x.1 p < 0 := by rw [cmpE_anti]; omega
      have h4 : t.filter (fun x => decide (cmpE x.1 p < 0)) = [] := by
        rw [List.filter_eq_nil_iff]
        intro y hy
        have h5 := h.head y hy
        have h6 : cmpE p y.1 < 0 := by
          by_cases h7 : cmpE p x.1 < 0
          · exact cmpE_tr h7 h5
          · have : p = x.1 := cmpE_eq.1 (by omega)
            rw [this]; exact h5
        rw [cmpE_anti] at h6
        simp only [decide_eq_true_eq]
        omega
      have h5 := filter_ne_cut (p := p) h.tail
      rw [h4] at h5
      rw [List.filter_cons_of_neg (by simpa using h1), h4, h5]
      by_cases hx : x.1 = p
      · have h6 : ¬ cmpE p x.1 < 0 := by rw [hx, cmpE_self]; omega
        rw [List.filter_cons_of_neg (by simpa using h6)]
        simp [hx]
      · have h6 : cmpE p x.1 < 0 := by
          have : cmpE p x.1 ≠ 0 := fun e => hx (cmpE_eq.1 e).symm
          omega
        rw [List.filter_cons_of_pos (by simpa using h6)]
        simp [hx]
    · have h1 : cmpE x.1 p < 0 := by rw [cmpE_anti]; omega
      have h2 : ¬ cmpE p x.1 < 0 := by omega
      have h3 : x.1 ≠ p := cmpE_ne h1
      have e : setStep p l (acc, false) x = (acc ++ [x], false) := by simp [setStep, hle, h3]
      rw [e, setS_open p l t _ h.tail, List.filter_cons_of_pos (by simpa using h1), List.filter_cons_of_neg (by simpa using h2)]
      simp
theorem putT_cut (p : ByteArray) (l : List Vc.V) {t : List En} (h : Srt t) : putT p l t = cutT p l t := by
  unfold putT setS cutT
  by_cases hl : l.length = 0
  · rw [if_pos hl, decide_eq_true hl, setS_done, filter_ne_cut h]
    simp
  · rw [if_neg hl, decide_eq_false hl, setS_open p l t [] h]
    simp
theorem mem_put {p : ByteArray} {l : List Vc.V} {t : List En} (h : Srt t) (x : En) : x ∈ putT p l t ↔ (x = (p, l) ∧ l.length ≠ 0) ∨ (x ∈ t ∧ x.1 ≠ p) := by
  rw [putT_cut p l h]
  unfold cutT
  rw [List.mem_append, List.mem_append, List.mem_filter, List.mem_filter]
  simp only [decide_eq_true_eq]
  constructor
  · rintro (⟨h1, h2⟩ | h1 | ⟨h1, h2⟩)
    · exact .inr ⟨h1, cmpE_ne h2⟩
    · split at h1
      · cases h1
      · rename_i hl
        exact .inl ⟨List.mem_singleton.1 h1, hl⟩
    · exact .inr ⟨h1, (cmpE_ne h2).symm⟩
  · rintro (⟨h1, h2⟩ | ⟨h1, h2⟩)
    · rw [if_neg h2]
      exact .inr (.inl (List.mem_singleton.2 h1))
    · rcases cmpE_rng x.1 p with e | e | e
      · exact .inl ⟨h1, by omega⟩
      · exact absurd (cmpE_eq.1 e) h2
      · exact .inr (.inr ⟨h1, by rw [cmpE_anti]; omega⟩)
theorem srt_put (p : ByteArray) (l : List Vc.V) {t : List En} (h : Srt t) : Srt (putT p l t) := by
  rw [putT_cut p l h]
  unfold cutT Srt
  rw [List.pairwise_append, List.pairwise_append]
  refine ⟨List.Pairwise.filter _ h, ⟨?_, List.Pairwise.filter _ h, ?_⟩, ?_⟩
  · split <;> simp
  · intro x hx y hy
    split at hx
    · cases hx
    · rw [List.mem_singleton.1 hx]
      simpa using (List.mem_filter.1 hy).2
  · intro x hx y hy
    have h1 : cmpE x.1 p < 0 := by simpa using (List.mem_filter.1 hx).2
    rcases List.mem_append.1 hy with hy | hy
    · split at hy
      · cases hy
      · rw [List.mem_singleton.1 hy]
        exact h1
    · have h2 : cmpE p y.1 < 0 := by simpa using (List.mem_filter.1 hy).2
      exact cmpE_tr h1 h2
theorem len_put_new {p : ByteArray} {l : List Vc.V} {t : List En} (h : Srt t) (hl : l.length ≠ 0) (hn : ∀ x ∈ t, x.1 ≠ p) : (putT p l t).length = t.length + 1 := by
  have e := filter_ne_cut (p := p) h
  rw [List.filter_eq_self.2 fun x hx => by simpa using hn x hx] at e
  rw [putT_cut p l h]
  unfold cutT
  rw [if_neg hl]
  have := congrArg List.length e
  simp only [List.length_append, List.length_cons, List.length_nil] at this ⊢
  omega
theorem len_put (p : ByteArray) (l : List Vc.V) {t : List En} (h : Srt t) : (putT p l t).length ≤ t.length + 1 := by
  have e := filter_ne_cut (p := p) h
  have h2 := List.length_filter_le (fun x : En => decide (x.1 ≠ p)) t
  rw [e] at h2
  rw [putT_cut p l h]
  unfold cutT
  simp only [List.length_append] at h2 ⊢
  have h3 : (if l.length = 0 then [] else [(p, l)] : List En).length ≤ 1 := by split <;> simp
  omega
theorem put_take {p : ByteArray} {l : List Vc.V} {t : List En} (h : Srt t) (hn : ∀ x ∈ t, x.1 ≠ p) : putT p [] (putT p l t) = t := by
  refine (srt_put p [] (srt_put p l h)).ext h fun x => ?_
  rw [mem_put (srt_put p l h), mem_put h]
  constructor
  · rintro (⟨_, h1⟩ | ⟨⟨h1, h2⟩ | ⟨h1, _⟩, h3⟩)
    · exact absurd rfl h1
    · rw [h1] at h3
      exact absurd rfl h3
    · exact h1
  · intro hx
    exact .inr ⟨.inr ⟨hx, hn x hx⟩, hn x hx⟩

/-! A tree that may be. -/
structure Tr (t : List En) : Prop where
  srt : Srt t
  path : ∀ x ∈ t, Pth.Pt.isPath x.1.data.toList = true
  leaf : ∀ x ∈ t, x.2.length ≠ 0 ∧ Vc.checkLeaf x.2 = 0
  few : t.length ≤ 128
theorem Tr.nil : Tr [] := ⟨List.Pairwise.nil, fun _ h => (by cases h), fun _ h => (by cases h), by simp⟩
def pchkE (p : ByteArray) : Int := Pth.Pt.check p.data.toList
def setE (p : ByteArray) (l : List Vc.V) : Int := if pchkE p ≠ 0 then pchkE p else Vc.checkLeaf l
def setT (t : List En) (p : ByteArray) (l : List Vc.V) : List En × Int :=
  if setE p l ≠ 0 then ([], setE p l) else if 128 < (putT p l t).length then ([], 4) else (putT p l t, 0)
theorem setT_zero {t : List En} {p : ByteArray} {l : List Vc.V} (h : (setT t p l).2 = 0) : setE p l = 0 ∧ (putT p l t).length ≤ 128 ∧ (setT t p l).1 = putT p l t := by
  unfold setT at h ⊢
  by_cases h1 : setE p l ≠ 0
  · rw [if_pos h1] at h
    exact absurd h h1
  · rw [if_neg h1] at h ⊢
    by_cases h2 : 128 < (putT p l t).length
    · rw [if_pos h2] at h
      exact absurd h (by decide)
    · rw [if_neg h2]
      exact ⟨Classical.not_not.1 h1, by omega, rfl⟩
theorem setT_fine {t : List En} {p : ByteArray} {l : List Vc.V} (h : setE p l = 0) (h2 : (putT p l t).length ≤ 128) : setT t p l = (putT p l t, 0) := by
  unfold setT
  rw [if_neg (by simpa using h), if_neg (by omega)]
theorem setT_bad {t : List En} {p : ByteArray} {l : List Vc.V} (h : (setT t p l).2 ≠ 0) : (setT t p l).1 = [] := by
  unfold setT at h ⊢
  by_cases h1 : setE p l ≠ 0
  · rw [if_pos h1]
  · rw [if_neg h1] at h ⊢
    by_cases h2 : 128 < (putT p l t).length
    · rw [if_pos h2]
    · rw [if_neg h2] at h
      exact absurd rfl h
theorem setE_zero {p : ByteArray} {l : List Vc.V} (h : setE p l = 0) : Pth.Pt.isPath p.data.toList = true ∧ Vc.checkLeaf l = 0 := by
  unfold setE at h
  by_cases h1 : pchkE p ≠ 0
  · rw [if_pos h1] at h
    exact absurd h h1
  · rw [if_neg h1] at h
    exact ⟨(Pth.Pt.check_ok _).1 (Classical.not_not.1 h1), h⟩
theorem setE_fine {p : ByteArray} {l : List Vc.V} (h : Pth.Pt.isPath p.data.toList = true) (h2 : Vc.checkLeaf l = 0) : setE p l = 0 := by
  unfold setE
  rw [if_neg (by simpa [pchkE] using (Pth.Pt.check_ok _).2 h)]
  exact h2
theorem Tr.set {t : List En} (ht : Tr t) {p : ByteArray} {l : List Vc.V} (h : (setT t p l).2 = 0) : Tr (setT t p l).1 := by
  obtain ⟨h1, h2, h3⟩ := setT_zero h
  obtain ⟨h4, h5⟩ := setE_zero h1
  rw [h3]
  refine ⟨srt_put p l ht.srt, fun x hx => ?_, fun x hx => ?_, h2⟩
  · rcases (mem_put ht.srt x).1 hx with ⟨rfl, _⟩ | ⟨hx, _⟩
    · exact h4
    · exact ht.path x hx
  · rcases (mem_put ht.srt x).1 hx with ⟨rfl, hl⟩ | ⟨hx, _⟩
    · exact ⟨hl, h5⟩
    · exact ht.leaf x hx
theorem Tr.step {t : List En} (ht : Tr t) (p : ByteArray) (l : List Vc.V) : Tr (if (setT t p l).2 = 0 then (setT t p l).1 else t) := by
  split
  · rename_i h
    exact ht.set h
  · exact ht
def ofStep (st : List En × Int) (x : En) : List En × Int := if st.2 ≠ 0 then st else setT st.1 x.1 x.2
def ofT (l : List En) : List En × Int := l.foldl ofStep ([], 0)
theorem ofT_snoc (l : List En) (j : Nat) (x : En) (h : l[j]? = some x) : ofT (l.take (j + 1)) = ofStep (ofT (l.take j)) x := by
  rw [List.take_add_one, h]
  simp [ofT]
theorem of_stays : ∀ (l : List En) (st : List En × Int), st.2 ≠ 0 → l.foldl ofStep st = st
  | [], _, _ => rfl
  | x :: l, st, h => by
    rw [List.foldl_cons, show ofStep st x = st by unfold ofStep; rw [if_pos h]]
    exact of_stays l st h
theorem ofT_early (l : List En) (j : Nat) (h : (ofT (l.take j)).2 ≠ 0) : ofT l = ofT (l.take j) := by
  conv => lhs; rw [← List.take_append_drop j l]
  unfold ofT at h ⊢
  rw [List.foldl_append, of_stays _ _ h]
theorem of_tr : ∀ (l : List En) (st : List En × Int), Tr st.1 → Tr (l.foldl ofStep st).1
  | [], _, h => h
  | x :: l, st, h => by
    rw [List.foldl_cons]
    refine of_tr l _ ?_
    unfold ofStep
    split
    · exact h
    · by_cases h2 : (setT st.1 x.1 x.2).2 = 0
      · exact h.set h2
      · rw [setT_bad h2]
        exact Tr.nil
theorem ofT_tr (l : List En) : Tr (ofT l).1 := of_tr l _ Tr.nil
theorem of_bad : ∀ (l : List En) (st : List En × Int), (st.2 ≠ 0 → st.1 = []) → (l.foldl ofStep st).2 ≠ 0 → (l.foldl ofStep st).1 = []
  | [], _, h, h2 => h h2
  | x :: l, st, h, h2 => by
    rw [List.foldl_cons] at h2 ⊢
    refine of_bad l _ (fun h3 => ?_) h2
    unfold ofStep at h3 ⊢
    by_cases h4 : st.2 ≠ 0
    · rw [if_pos h4]
      exact h h4
    · rw [if_neg h4] at h3 ⊢
      exact setT_bad h3
theorem ofT_bad {l : List En} (h : (ofT l).2 ≠ 0) : (ofT l).1 = [] := of_bad l _ (fun h => absurd rfl h) h

/-! What is seen. -/
def shownT (t : List En) : List En := t.filterMap fun x => if (Vc.live x.2).length = 0 then none else some (x.1, Vc.live x.2)
theorem vup_weak : ∀ {l : List Vc.V} {p q : Int}, q ≤ p → Vc.VUp p l → Vc.VUp q l
  | [], _, _, _, _ => trivial
  | _ :: _, _, _, h, hu => ⟨hu.1, Int.lt_of_le_of_lt h hu.2.1, hu.2.2⟩
theorem vup_live : ∀ {l : List Vc.V} {p : Int}, Vc.VUp p l → Vc.VUp p (Vc.live l)
  | [], _, _ => trivial
  | v :: l, p, h => by
    have ih := vup_live h.2.2
    unfold Vc.live at ih ⊢
    by_cases hd : v.dead = true
    · rw [List.filter_cons_of_neg (by simp [hd])]
      exact vup_weak (Int.le_of_lt h.2.1) ih
    · rw [List.filter_cons_of_pos (by simpa using hd)]
      exact ⟨h.1, h.2.1, ih⟩
theorem live_leaf {l : List Vc.V} (h : Vc.checkLeaf l = 0) : Vc.checkLeaf (Vc.live l) = 0 := by
  have h1 := (Vc.checkLeaf_zero l).1 h
  exact (Vc.checkLeaf_zero _).2 ⟨vup_live h1.up, fun u hu v hv => h1.free u (List.mem_filter.1 hu).1 v (List.mem_filter.1 hv).1⟩
theorem srt_shown : ∀ {t : List En}, Srt t → Srt (shownT t)
  | [], _ => List.Pairwise.nil
  | x :: t, h => by
    have ih := srt_shown h.tail
    unfold shownT at ih ⊢
    by_cases hl : (Vc.live x.2).length = 0
    · rw [List.filterMap_cons_none (by simp only [hl, if_true])]
      exact ih
    · rw [List.filterMap_cons_some (b := (x.1, Vc.live x.2)) (by simp only [hl, if_false])]
      refine List.pairwise_cons.2 ⟨fun y hy => ?_, ih⟩
      obtain ⟨z, hz, e⟩ := List.mem_filterMap.1 hy
      split at e
      · cases e
      · injection e with e
        rw [← e]
        exact h.head z hz
theorem Tr.shown {t : List En} (h : Tr t) : Tr (shownT t) := by
  have hm : ∀ y ∈ shownT t, ∃ z ∈ t, y = (z.1, Vc.live z.2) ∧ (Vc.live z.2).length ≠ 0 := fun y hy => by
    obtain ⟨z, hz, e⟩ := List.mem_filterMap.1 hy
    split at e
    · cases e
    · rename_i hl
      injection e with e
      exact ⟨z, hz, e.symm, hl⟩
  refine ⟨srt_shown h.srt, fun y hy => ?_, fun y hy => ?_, Nat.le_trans (List.length_filterMap_le _ _) h.few⟩
  · obtain ⟨z, hz, rfl, _⟩ := hm y hy
    exact h.path z hz
  · obtain ⟨z, hz, rfl, hl⟩ := hm y hy
    exact ⟨hl, live_leaf (h.leaf z hz).2⟩
theorem shown_snoc (t : List En) (j : Nat) (x : En) (h : t[j]? = some x) : shownT (t.take (j + 1)) = shownT (t.take j) ++ (if (Vc.live x.2).length = 0 then [] else [(x.1, Vc.live x.2)]) := by
  rw [List.take_add_one, h]
  unfold shownT
  rw [List.filterMap_append]
  congr 1
  by_cases hl : (Vc.live x.2).length = 0
  · rw [if_pos hl]
    exact (List.filterMap_cons_none (by simp only [hl, if_true])).trans rfl
  · rw [if_neg hl]
    exact (List.filterMap_cons_some (b := (x.1, Vc.live x.2)) (by simp only [hl, if_false])).trans rfl
end Go.Proofs.Ytpfighkafmammaa

/-
  What Same answers, the program's and the document's, and slices.Equal.
-/

namespace Go.Proofs.Ytpfighkafmammaa
open Go.RowKit

set_option maxRecDepth 100000 in
set_option maxHeartbeats 1000000 in
theorem refSame_any (a1 a2 : Option Addr) (c1 c2 : Nat) (bs cs : List Vc.D) (hb : bs.length ≤ 9223372036854775807) (w : World) (h1 : Sl w a1 bs) (h2 : Sl w a2 cs) (D : Bool) (hD : D = true ↔ bs = cs) :
    Calls Try.prog 71 #[.slice a1 bs.length c1, .slice a2 cs.length c2] w fun e w' => e = .returned (.bool D) ∧ Below w.heap.size w w' := by
  have H1 := hide h1
  have H2 := hide h2
  have HD := hide hD
  clear h1 h2 hD
  by_cases hlen : bs.length = cs.length
  · have hlb : ((bs.length : Int) != (cs.length : Int)) = false := by rw [hlen]; simp
    have HLEN := hide hlen
    clear hlen
    obtain ⟨hle1, hle2⟩ : cs.length ≤ bs.length ∧ bs.length ≤ cs.length := by have := unhide HLEN; omega
    go_enter Try.func71, Try.ntmps71
    go_wp2_with fail
    go_loopw [5] (fun i wr => ∃ k q : Nat, k ≤ bs.length ∧ i = .int .i64 k ∧ (∀ j : Nat, j < k → bs[j]? = cs[j]?) ∧ wr = w.drewN q) (fun i _ => bs.length - (intOf i).toNat)
    case atStart => exact ⟨0, 0, Nat.zero_le _, rfl, fun j hj => absurd hj (Nat.not_lt_zero _), rfl⟩
    case round =>
      obtain ⟨k, q, hk, rfl, hall, rfl⟩ := hrel
      have HALL := hide hall
      clear hall
      by_cases hlt : k < bs.length
      · obtain ⟨⟨p, c⟩, hx⟩ : ∃ x, bs[k]? = some x := ⟨_, List.getElem?_eq_getElem hlt⟩
        obtain ⟨⟨p', c'⟩, hy⟩ : ∃ y, cs[k]? = some y := ⟨_, List.getElem?_eq_getElem (by omega)⟩
        obtain ⟨g1, o1, rfl, _, hc1⟩ := unhide H1 (by omega)
        obtain ⟨g2, o2, rfl, _, hc2⟩ := unhide H2 (by omega)
        have e1 : w.cell? ⟨g1, o1 + k * 2, none⟩ = some (.int .i64 p) := (hc1 k _ hx).1
        have e2 : w.cell? ⟨g1, o1 + k * 2 + 1, none⟩ = some (.int .i64 c) := (hc1 k _ hx).2
        have e3 : w.cell? ⟨g2, o2 + k * 2, none⟩ = some (.int .i64 p') := (hc2 k _ hy).1
        have e4 : w.cell? ⟨g2, o2 + k * 2 + 1, none⟩ = some (.int .i64 c') := (hc2 k _ hy).2
        clear hc1 hc2
        have hlt2 : k < cs.length := by omega
        by_cases hpe : p = p'
        · subst hpe
          by_cases hce : c = c'
          · subst hce
            have HALL2 : Hid (∀ j : Nat, j < k + 1 → bs[j]? = cs[j]?) := by
              intro j hj
              by_cases e : j = k
              · subst e; rw [hx, hy]
              · exact unhide HALL j (by omega)
            clear hx hy
            go_wp2_with fail
            go_quiet (fail)
            go_wp2_with fail
            go_roundw
            case rel => exact ⟨k + 1, _, by omega, by go_num, unhide HALL2, rfl⟩
            case measure => simp [intOf]; omega
          · obtain rfl : D = false := by
              cases D with
              | false => rfl
              | true =>
                have := (unhide HD).1 rfl
                rw [this, hy] at hx
                exact absurd (congrArg Prod.snd (Option.some.inj hx)).symm hce
            clear hx hy
            go_wp2_with fail
            go_quiet (fail)
            go_wp2_with fail
            go_ret
            exact ⟨rfl, below_drewN (below_drewN (Below.refl _ _) _) _⟩
        · obtain rfl : D = false := by
            cases D with
            | false => rfl
            | true =>
              have := (unhide HD).1 rfl
              rw [this, hy] at hx
              exact absurd (congrArg Prod.fst (Option.some.inj hx)).symm hpe
          clear hx hy
          go_wp2_with fail
          go_quiet (fail)
          go_wp2_with fail
          go_ret
          exact ⟨rfl, below_drewN (below_drewN (Below.refl _ _) _) _⟩
      · obtain rfl : D = true := by
          rw [unhide HD]
          apply List.ext_getElem?
          intro j
          rcases Nat.lt_or_ge j k with h | h
          · exact unhide HALL j h
          · rw [List.getElem?_eq_none (by omega), List.getElem?_eq_none (by omega)]
        go_wp2_with fail
        go_ret
        exact ⟨rfl, below_drewN (Below.refl _ _) _⟩
  · obtain rfl : D = false := by
      cases D with
      | false => rfl
      | true => exact absurd (congrArg List.length ((unhide HD).1 rfl)) hlen
    have hlb : ((bs.length : Int) != (cs.length : Int)) = true := by rw [bne_iff_ne]; omega
    clear hlen
    go_enter Try.func71, Try.ntmps71
    go_wp2_with fail
    go_ret
    exact ⟨rfl, Below.refl _ _⟩

end Go.Proofs.Ytpfighkafmammaa

/-
  What Has answers, the program's and the document's.
-/

namespace Go.Proofs.Ytpfighkafmammaa
open Go.RowKit

def has (ds : List Vc.D) (d : Vc.D) : Bool := decide (1 ≤ d.2) && decide (d.2 ≤ Vc.get ds d.1)

set_option maxRecDepth 100000 in
set_option maxHeartbeats 1000000 in
theorem has_any (a : Option Addr) (cap : Nat) (ds : List Vc.D) (hl : ds.length ≤ 9223372036854775807) (p c : Int) (w : World) (h : Sl w a ds) :
    Calls Try.prog 80 #[.slice a ds.length cap, .agg #[.int .i64 p, .int .i64 c]] w fun e w' => e = .returned (.bool (has ds (p, c))) ∧ Below w.heap.size w w' := by
  have HB1 := hide ((Below.refl w.heap.size w).alloc (Nat.le_refl _) (.cells #[.int .i64 p, .int .i64 c] 58))
  have HS1 := hide (h.after (unhide HB1))
  have n0 := new0 w (.int .i64 p) (.int .i64 c) 58
  have n1 := new1 w (.int .i64 p) (.int .i64 c) 58
  have KG := hide fun w' (h' : Sl w' a ds) => get_any a cap ds hl p w' h'
  obtain ⟨R, hR⟩ : ∃ R, has ds (p, c) = R := ⟨_, rfl⟩
  rw [hR]
  unfold has at hR
  dsimp only at hR
  have hbd := Vc.get_bd ds p
  generalize Vc.get ds p = G at hR KG hbd
  clear h
  go_enter Try.func80, Try.ntmps80
  go_wp2_with fail
  generalize w.alloc (.cells #[.int .i64 p, .int .i64 c] 58) = w1 at HB1 HS1 n0 n1 ⊢
  have c0 := cell_regrown n0
  have c1 := cell_regrown n1
  by_cases hc : 1 ≤ c
  · have hd : decide (1 ≤ c) = true := decide_eq_true hc
    rw [hd, Bool.true_and] at hR
    refine wp_region_quiet_below (by kernel_rfl) (by kernel_rfl) ?_
    repeat (quiet_step (first | (go_at_call 93; exact Calls.regrown_of (unhide KG _ ((unhide HS1).after (below_regrown _ _ _))))))
    refine wpQuiet_nil ?_
    intro _ hw'
    obtain ⟨⟨dq, osq⟩, hw''⟩ := hw'
    subst hw''
    go_wp2_with fail
    go_ret
    exact ⟨by first | rfl | exact ret_bool hR, (unhide HB1).trans ((below_regrown w1 dq osq).mono (unhide HB1).size)⟩
  · have hd : decide (1 ≤ c) = false := decide_eq_false hc
    rw [hd, Bool.false_and] at hR
    subst hR
    refine wp_region_quiet_below (by kernel_rfl) (by kernel_rfl) ?_
    repeat (quiet_step (fail))
    refine wpQuiet_nil ?_
    intro _ hw'
    obtain ⟨⟨dq, osq⟩, hw''⟩ := hw'
    subst hw''
    go_wp2_with fail
    go_ret
    exact ⟨by first | rfl | exact ret_bool hR, (unhide HB1).trans ((below_regrown w1 dq osq).mono (unhide HB1).size)⟩

set_option maxRecDepth 100000 in
set_option maxHeartbeats 1000000 in
theorem refHas_any (a : Option Addr) (cap : Nat) (ds : List Vc.D) (hl : ds.length ≤ 9223372036854775807) (p c : Int) (w : World) (h : Sl w a ds) :
    Calls Try.prog 86 #[.slice a ds.length cap, .agg #[.int .i64 p, .int .i64 c]] w fun e w' => e = .returned (.bool (has ds (p, c))) ∧ Below w.heap.size w w' := by
  have HB1 := hide ((Below.refl w.heap.size w).alloc (Nat.le_refl _) (.cells #[.int .i64 p, .int .i64 c] 58))
  have HS1 := hide (h.after (unhide HB1))
  have n0 := new0 w (.int .i64 p) (.int .i64 c) 58
  have n1 := new1 w (.int .i64 p) (.int .i64 c) 58
  have KG := hide fun w' (h' : Sl w' a ds) => refGet_any a cap ds hl p w' h'
  obtain ⟨R, hR⟩ : ∃ R, has ds (p, c) = R := ⟨_, rfl⟩
  rw [hR]
  unfold has at hR
  dsimp only at hR
  have hbd := Vc.get_bd ds p
  generalize Vc.get ds p = G at hR KG hbd
  clear h
  go_enter Try.func86, Try.ntmps86
  go_wp2_with fail
  generalize w.alloc (.cells #[.int .i64 p, .int .i64 c] 58) = w1 at HB1 HS1 n0 n1 ⊢
  have c0 := cell_regrown n0
  have c1 := cell_regrown n1
  by_cases hc : 1 ≤ c
  · have hd : decide (1 ≤ c) = true := decide_eq_true hc
    rw [hd, Bool.true_and] at hR
    refine wp_region_quiet_below (by kernel_rfl) (by kernel_rfl) ?_
    repeat (quiet_step (first | (go_at_call 95; exact Calls.regrown_of (unhide KG _ ((unhide HS1).after (below_regrown _ _ _))))))
    refine wpQuiet_nil ?_
    intro _ hw'
    obtain ⟨⟨dq, osq⟩, hw''⟩ := hw'
    subst hw''
    go_wp2_with fail
    go_ret
    exact ⟨by first | rfl | exact ret_bool hR, (unhide HB1).trans ((below_regrown w1 dq osq).mono (unhide HB1).size)⟩
  · have hd : decide (1 ≤ c) = false := decide_eq_false hc
    rw [hd, Bool.false_and] at hR
    subst hR
    refine wp_region_quiet_below (by kernel_rfl) (by kernel_rfl) ?_
    repeat (quiet_step (fail))
    refine wpQuiet_nil ?_
    intro _ hw'
    obtain ⟨⟨dq, osq⟩, hw''⟩ := hw'
    subst hw''
    go_wp2_with fail
    go_ret
    exact ⟨by first | rfl | exact ret_bool hR, (unhide HB1).trans ((below_regrown w1 dq osq).mono (unhide HB1).size)⟩
end Go.Proofs.Ytpfighkafmammaa

/-
  Versions in memory: one by value, one in a block, a slice of them wherever it lies.
-/

namespace Go.Proofs.Ytpfighkafmammaa
open Go.RowKit

/-- A version as a value, and its cells. -/
def verL (v : Vc.V) (r : Option Addr) (c : Nat) : List Value := [.int .i64 v.dot.1, .int .i64 v.dot.2, .slice r v.past.length c, .bool v.dead, .string v.data]
/-- A version at a place of memory, its past wherever it lies. -/
def VAt (W : World) (g o : Nat) (v : Vc.V) : Prop :=
  ∃ r c, W.cell? ⟨g, o, none⟩ = some (.int .i64 v.dot.1) ∧ W.cell? ⟨g, o + 1, none⟩ = some (.int .i64 v.dot.2) ∧ W.cell? ⟨g, o + 2, none⟩ = some (.slice r v.past.length c) ∧ W.cell? ⟨g, o + 3, none⟩ = some (.bool v.dead) ∧ W.cell? ⟨g, o + 4, none⟩ = some (.string v.data) ∧ v.past.length ≤ c ∧ Sl W r v.past
theorem VAt.after {W W' : World} {g o : Nat} {v : Vc.V} (h : VAt W g o v) (hg : g < W.heap.size) (hb : Below W.heap.size W W') : VAt W' g o v := by
  obtain ⟨r, c, h0, h1, h2, h3, h4, h5, h6⟩ := h
  refine ⟨r, c, ?_, ?_, ?_, ?_, ?_, h5, h6.after hb⟩
  all_goals rw [hb.cell (by exact hg)]
  all_goals assumption
/-- A slice of versions, wherever it lies; nothing is asked of one that has none. -/
def SV (W : World) (a : Option Addr) (vs : List Vc.V) : Prop :=
  0 < vs.length → ∃ g o, a = some ⟨g, o, none⟩ ∧ g < W.heap.size ∧ ∀ (j : Nat) (v : Vc.V), vs[j]? = some v → VAt W g (o + j * 5) v
theorem SV.after {W W' : World} {a : Option Addr} {vs : List Vc.V} (h : SV W a vs) (hb : Below W.heap.size W W') : SV W' a vs := fun h0 => by
  obtain ⟨g, o, e, hg, hc⟩ := h h0
  exact ⟨g, o, e, Nat.lt_of_lt_of_le hg hb.size, fun j v hj => (hc j v hj).after hg hb⟩
theorem SV.none (W : World) (a : Option Addr) : SV W a [] := fun h => absurd h (Nat.lt_irrefl _)
theorem SV.drewN {W : World} {a : Option Addr} {vs : List Vc.V} (h : SV W a vs) (n : Nat) : SV (W.drewN n) a vs := h
/-- Few enough to be gone through. -/
def Few (vs : List Vc.V) : Prop := vs.length ≤ 100000 ∧ ∀ v ∈ vs, v.past.length ≤ 9223372036854775807
theorem Few.at {vs : List Vc.V} (h : Few vs) {j : Nat} {v : Vc.V} (hj : vs[j]? = some v) : v.past.length ≤ 9223372036854775807 := h.2 v (List.mem_of_getElem? hj)
theorem below_alloc1 {w : World} (o : Obj) : Below w.heap.size w (w.alloc o) := (Below.refl _ _).alloc (Nat.le_refl _) o

set_option maxRecDepth 100000 in
set_option maxHeartbeats 400000 in
theorem refCovers_any (v u : Vc.V) (r q : Option Addr) (c d : Nat) (hl : v.past.length ≤ 9223372036854775807) (w : World) (s : Sl w r v.past) :
    Calls Try.prog 87 #[.agg (verL v r c).toArray, .agg (verL u q d).toArray] w fun e w' => e = .returned (.bool (Vc.covers v u)) ∧ Below w.heap.size w w' := by
  have HB := hide ((below_alloc1 (w := w) (.cells (verL v r c).toArray 61)).alloc (by simp) (.cells (verL u q d).toArray 61))
  have RS := (VRow.new w 61 (verL v r c)).alloc (.cells (verL u q d).toArray 61)
  have RT := VRow.newAt (W := w.alloc (.cells (verL v r c).toArray 61)) (T := 61) (n := w.heap.size + 1) (vs := verL u q d) (by simp)
  have K := hide fun W h => refHas_any r c v.past hl u.dot.1 u.dot.2 W h
  have S := hide (s.after (unhide HB))
  have a2 := RS.cell 2 _ rfl
  have b0 := RT.cell 0 _ rfl
  have b1 := RT.cell 1 _ rfl
  rw [show has v.past (u.dot.1, u.dot.2) = Vc.covers v u from rfl] at K
  generalize Vc.covers v u = X at K ⊢
  clear s RS RT
  unfold verL at *
  go_enter Try.func87, Try.ntmps87
  go_wp2_with fail
  refine (unhide K _ (unhide S)).mono ?_
  rintro e w1 ⟨rfl, hb⟩
  have HB1 := hide (below_grow (unhide HB) (Nat.le_refl _) hb)
  clear hb
  go_wp2_with fail
  go_ret
  exact ⟨rfl, unhide HB1⟩

set_option maxRecDepth 100000 in
set_option maxHeartbeats 1000000 in
theorem refCheckV_any (v : Vc.V) (r : Option Addr) (c : Nat) (hl : v.past.length ≤ 9223372036854775807) (w : World) (s : Sl w r v.past) :
    Calls Try.prog 69 #[.agg (verL v r c).toArray] w fun e w' => e = .returned (.int .i64 (Vc.chkV v)) ∧ Below w.heap.size w w' := by
  have HB := hide (below_alloc1 (w := w) (.cells (verL v r c).toArray 61))
  have RS := hide (VRow.new w 61 (verL v r c))
  have KD := hide fun W => refDot_any v.dot.1 v.dot.2 W
  have KC := hide fun W h => refCheck_any r c v.past hl W h
  have KH := hide fun W h => refHas_any r c v.past hl v.dot.1 v.dot.2 W h
  have S := hide (s.after (unhide HB))
  rw [show Vc.dotErr (v.dot.1, v.dot.2) = Vc.dotErr v.dot from rfl] at KD
  rw [show has v.past (v.dot.1, v.dot.2) = Vc.hasV v.past v.dot from rfl] at KH
  obtain ⟨R, hR⟩ : ∃ R, Vc.chkV v = R := ⟨_, rfl⟩
  rw [hR]
  unfold Vc.chkV at hR
  have a0 := (unhide RS).cell 0 _ rfl
  have a1 := (unhide RS).cell 1 _ rfl
  generalize Vc.dotErr v.dot = X at KD hR
  generalize Vc.check v.past = Y at KC hR
  generalize Vc.hasV v.past v.dot = Z at KH hR
  clear s
  unfold verL at *
  go_enter Try.func69, Try.ntmps69
  go_wp2_with fail
  generalize w.alloc (.cells _ 61) = w0 at HB RS S a0 a1 ⊢
  refine (unhide KD _).mono ?_
  rintro e w1 ⟨rfl, hb⟩
  replace HB := hide (below_grow (unhide HB) (Nat.le_refl _) hb)
  replace RS := hide ((unhide RS).after hb)
  replace S := hide ((unhide S).after hb)
  clear hb a0 a1
  by_cases hX : X = 0
  · subst hX
    rw [if_neg (by simp)] at hR
    have a2 := (unhide RS).cell 2 _ rfl
    go_wp2_with fail
    refine (unhide KC _ (unhide S)).mono ?_
    rintro e w2 ⟨rfl, hb⟩
    replace HB := hide (below_grow (unhide HB) (Nat.le_refl _) hb)
    replace RS := hide ((unhide RS).after hb)
    replace S := hide ((unhide S).after hb)
    clear hb a2
    by_cases hY : Y = 0
    · subst hY
      rw [if_neg (by simp)] at hR
      have a0 := (unhide RS).cell 0 _ rfl
      have a1 := (unhide RS).cell 1 _ rfl
      have a2 := (unhide RS).cell 2 _ rfl
      go_wp2_with fail
      refine (unhide KH _ (unhide S)).mono ?_
      rintro e w3 ⟨rfl, hb⟩
      replace HB := hide (below_grow (unhide HB) (Nat.le_refl _) hb)
      replace RS := hide ((unhide RS).after hb)
      clear hb a0 a1 a2 S
      have a3 := (unhide RS).cell 3 _ rfl
      have a4 := (unhide RS).cell 4 _ rfl
      cases Z with
      | true =>
        rw [if_pos rfl] at hR
        subst hR
        go_wp2_with fail
        go_ret
        exact ⟨rfl, unhide HB⟩
      | false =>
        rw [if_neg (by simp)] at hR
        obtain ⟨n, hn⟩ : ∃ n, v.data.size = n := ⟨_, rfl⟩
        rw [hn] at hR
        by_cases h48 : 48 < n
        · have hd : decide ((48 : Int) < (n : Int)) = true := decide_eq_true (by omega)
          rw [if_pos h48] at hR
          subst hR
          go_wp2_with fail
          go_ret
          exact ⟨rfl, unhide HB⟩
        · have hd : decide ((48 : Int) < (n : Int)) = false := decide_eq_false (by omega)
          rw [if_neg h48] at hR
          generalize v.dead = Q at *
          cases Q with
          | true =>
            by_cases h0 : 0 < n
            · have hd2 : decide ((0 : Int) < (n : Int)) = true := decide_eq_true (by omega)
              rw [if_pos ⟨rfl, h0⟩] at hR
              subst hR
              go_wp2_with fail
              go_ret
              exact ⟨rfl, unhide HB⟩
            · have hd2 : decide ((0 : Int) < (n : Int)) = false := decide_eq_false (by omega)
              rw [if_neg (fun h => h0 h.2)] at hR
              subst hR
              go_wp2_with fail
              go_ret
              exact ⟨rfl, unhide HB⟩
          | false =>
            rw [if_neg (fun h => by cases h.1)] at hR
            subst hR
            go_wp2_with fail
            go_ret
            exact ⟨rfl, unhide HB⟩
    · rw [if_pos hY] at hR
      subst hR
      have hYb : (Y != 0) = true := bne_iff_ne.2 hY
      go_wp2_with fail
      go_ret
      exact ⟨rfl, unhide HB⟩
  · rw [if_pos hX] at hR
    subst hR
    have hXb : (X != 0) = true := bne_iff_ne.2 hX
    have hXc : (X == 0) = false := by simpa using hX
    go_wp2_with fail
    go_ret
    exact ⟨rfl, unhide HB⟩
end Go.Proofs.Ytpfighkafmammaa

/-
  What the document's of, Join, Meet and With answer: the vector of the counts of all peers.
-/

namespace Go.Proofs.Ytpfighkafmammaa
open Go.RowKit

theorem grown_below {w w' : World} {base : Nat} {e : TypeId} {size : Nat} {v : Value} {n : Nat} {xs : List Value} (hown : w.ownsRow base e size v n xs) (hg : w.grownBy w' v.ownBlock) (hb : base ≤ w.heap.size) : Below base w w' :=
  ⟨hg.os, hg.tape, hg.output, hg.size, fun k hk => hg.block k (by omega) (by
    rcases hown.2 with ⟨rfl, _⟩ | ⟨g, cap, cur, rfl, hg', _⟩
    · simp [Value.ownBlock]
    · simp [Value.ownBlock]; omega)⟩

end Go.Proofs.Ytpfighkafmammaa

/-
  A row of versions of the call's own, and what is appended to it.
-/

namespace Go.Proofs.Ytpfighkafmammaa
open Go.RowKit

/-- A version, and where its past lies. -/
abbrev VP := Vc.V × Option Addr × Nat
def flatV : List VP → List Value
  | [] => []
  | x :: l => verL x.1 x.2.1 x.2.2 ++ flatV l
theorem flatV_len : ∀ l : List VP, (flatV l).length = l.length * 5
  | [] => rfl
  | x :: l => by simp [flatV, verL, flatV_len l]; omega
theorem flatV_append : ∀ l m : List VP, flatV (l ++ m) = flatV l ++ flatV m
  | [], _ => rfl
  | x :: l, m => by simp [flatV, flatV_append l m]
theorem flatV_one : ∀ (l : List VP), ∀ v ∈ flatV l, v.oneCell' = true
  | [], _, h => by cases h
  | x :: l, v, h => by
    rcases List.mem_append.1 h with h | h
    · simp [verL] at h
      rcases h with rfl | rfl | rfl | rfl | rfl <;> rfl
    · exact flatV_one l v h
theorem flatV_get : ∀ (l : List VP) (j : Nat) (x : VP), l[j]? = some x → ∀ i u, (verL x.1 x.2.1 x.2.2)[i]? = some u → (flatV l)[j * 5 + i]? = some u
  | [], j, x, h, _, _, _ => by simp at h
  | y :: l, 0, x, h, i, u, hu => by
    simp at h
    subst h
    have hi : i < (verL y.1 y.2.1 y.2.2).length := (List.getElem?_eq_some_iff.1 hu).1
    rw [flatV, Nat.zero_mul, Nat.zero_add, List.getElem?_append_left hi]
    exact hu
  | y :: l, j + 1, x, h, i, u, hu => by
    rw [flatV, List.getElem?_append_right (by simp [verL]; omega)]
    rw [show (j + 1) * 5 + i - (verL y.1 y.2.1 y.2.2).length = j * 5 + i by simp [verL]; omega]
    exact flatV_get l j x (by simpa using h) i u hu
/-- A past that lies apart from a row, in a block that may be. -/
def Apart (O : Nat → Prop) (row : Option Nat) (r : Option Addr) (ds : List Vc.D) : Prop := ∀ ad, r = some ad → 0 < ds.length → some ad.block ≠ row ∧ O ad.block
theorem Sl.apart {O : Nat → Prop} {W : World} {r : Option Addr} {ds : List Vc.D} (h : Sl W r ds) {row : Option Nat} (hr : ∀ g, row = some g → W.heap.size ≤ g) (hO : ∀ ad, r = some ad → 0 < ds.length → O ad.block) : Apart O row r ds := fun ad e h0 => by
  refine ⟨fun e' => ?_, hO ad e h0⟩
  obtain ⟨g, o, e2, hg, _⟩ := h h0
  rw [e] at e2
  injection e2 with e2
  subst e2
  have := hr _ e'.symm
  have : W.heap.size ≤ g := this
  omega
/-- Where versions and their pasts lie. -/
def Prov (O : Nat → Prop) (W : World) (a : Option Addr) (vs : List Vc.V) : Prop :=
  0 < vs.length → ∀ g o, a = some ⟨g, o, none⟩ → O g ∧ ∀ j v r c, vs[j]? = some v → W.cell? ⟨g, o + j * 5 + 2, none⟩ = some (.slice r v.past.length c) → ∀ ad, r = some ad → 0 < v.past.length → O ad.block
theorem Prov.any (W : World) (a : Option Addr) (vs : List Vc.V) : Prov (fun _ => True) W a vs := fun _ _ _ _ => ⟨trivial, fun _ _ _ _ _ _ _ _ _ => trivial⟩
theorem Prov.none (O : Nat → Prop) (W : World) (a : Option Addr) : Prov O W a [] := fun h => absurd h (Nat.lt_irrefl _)
theorem Prov.after {O : Nat → Prop} {W W' : World} {a : Option Addr} {vs : List Vc.V} (h : Prov O W a vs) (hs : SV W a vs) (hb : Below W.heap.size W W') : Prov O W' a vs := fun h0 g o e => by
  obtain ⟨h1, h2⟩ := h h0 g o e
  obtain ⟨g', o', e', hg, _⟩ := hs h0
  rw [e] at e'
  injection e' with e'
  injection e' with e1 e2
  subst e1
  exact ⟨h1, fun j v r c hj hc => h2 j v r c hj (by rw [← hb.cell (p := ⟨g, o + j * 5 + 2, Option.none⟩) hg]; exact hc)⟩
/-- What was there ahead lies below. -/
theorem SV.prov {W : World} {a : Option Addr} {vs : List Vc.V} (h : SV W a vs) {O : Nat → Prop} (hO : ∀ g, g < W.heap.size → O g) : Prov O W a vs := fun h0 g o e => by
  obtain ⟨g', o', e', hg, hc⟩ := h h0
  rw [e] at e'
  injection e' with e'
  injection e' with e1 e2
  subst e1
  subst e2
  refine ⟨hO _ hg, fun j v r c hj hcell ad ead h1 => ?_⟩
  obtain ⟨r', c', _, _, x2, _, _, _, x6⟩ := hc j v hj
  rw [hcell] at x2
  injection x2 with x2
  injection x2 with x2 _ _
  subst x2
  obtain ⟨g2, o2, e2, hg2, _⟩ := x6 h1
  rw [ead] at e2
  injection e2 with e2
  subst e2
  exact hO _ hg2
/-- A row of versions of the call's own. -/
structure OV (O : Nat → Prop) (W : World) (base : Nat) (l : Value) (vs : List Vc.V) : Prop where
  is : ∃ ps : List VP, ps.map (·.1) = vs ∧ W.ownsRow base 61 5 l ps.length (flatV ps) ∧ ∀ x ∈ ps, x.1.past.length ≤ x.2.2 ∧ Sl W x.2.1 x.1.past ∧ Apart O l.ownBlock x.2.1 x.1.past
theorem OV.nil (O : Nat → Prop) (W : World) (base : Nat) : OV O W base (.slice none 0 0) [] := ⟨[], rfl, World.ownsRow_nil _ _ _ _, fun _ h => by cases h⟩
theorem OV.lit (O : Nat → Prop) (W : World) : OV O (W.alloc (.cells #[] 61)) W.heap.size (.slice (some ⟨W.heap.size, 0, none⟩) 0 0) [] :=
  ⟨[], rfl, World.ownsRow_lit (base := W.heap.size) (e := 61) (size := 5) W #[] 0 (Nat.le_refl _) (by unfold maxLen; omega) rfl, fun _ h => by cases h⟩
theorem OV.after {O : Nat → Prop} {W W' : World} {base : Nat} {l : Value} {vs : List Vc.V} (h : OV O W base l vs) (hb : Below W.heap.size W W') : OV O W' base l vs := by
  obtain ⟨ps, h1, h2, h3⟩ := h.is
  refine ⟨ps, h1, ?_, fun x hx => ⟨(h3 x hx).1, (h3 x hx).2.1.after hb, (h3 x hx).2.2⟩⟩
  refine ⟨h2.1, ?_⟩
  rcases h2.2 with h2 | ⟨g, cap, cur, e1, e2, e3, e4⟩
  · exact .inl h2
  · exact .inr ⟨g, cap, cur, e1, e2, (hb.block g (Array.getElem?_eq_some_iff.1 e3).1).trans e3, e4⟩
theorem OV.lt {O : Nat → Prop} {W : World} {base : Nat} {l : Value} {vs : List Vc.V} (h : OV O W base l vs) : ∀ g, l.ownBlock = some g → base ≤ g ∧ g < W.heap.size := fun g e => by
  obtain ⟨ps, _, h2, _⟩ := h.is
  rcases h2.2 with ⟨rfl, _⟩ | ⟨g', cap, cur, rfl, e2, e3, _⟩
  · cases e
  · injection e with e
    subst e
    exact ⟨e2, (Array.getElem?_eq_some_iff.1 e3).1⟩
theorem OV.sv {O : Nat → Prop} {W : World} {base : Nat} {l : Value} {vs : List Vc.V} (h : OV O W base l vs) : ∃ a cap, l = .slice a vs.length cap ∧ vs.length ≤ cap ∧ SV W a vs ∧ ((∀ g, base ≤ g → O g) → Prov O W a vs) := by
  obtain ⟨ps, rfl, h2, h3⟩ := h.is
  rcases h2.2 with ⟨rfl, h0⟩ | ⟨g, cap, cur, rfl, hg, hh, c1, c2, c3, c4⟩
  · have : ps = [] := List.eq_nil_of_length_eq_zero h0
    subst this
    exact ⟨none, 0, rfl, Nat.le_refl _, SV.none _ _, fun _ => Prov.none _ _ _⟩
  · have e1 : ∀ j x, ps[j]? = some x → ∀ i u, (verL x.1 x.2.1 x.2.2)[i]? = some u → W.cell? ⟨g, 0 + j * 5 + i, none⟩ = some u := by
      intro j x hx i u hu
      have hjl : j < ps.length := (List.getElem?_eq_some_iff.1 hx).1
      have hi : i < 5 := (List.getElem?_eq_some_iff.1 hu).1
      rw [cell_of_row W g _ cur 61 (0, 0) hh]
      have h5 : (cur.toList.take (ps.length * 5))[j * 5 + i]? = (flatV ps)[j * 5 + i]? := by rw [c4]
      rw [List.getElem?_take_of_lt (by omega), flatV_get ps j x hx i u hu] at h5
      rw [show 0 + j * 5 + i = j * 5 + i by omega]
      simpa using h5
    refine ⟨_, cap, by rw [List.length_map], by rw [List.length_map]; exact c1, fun _ => ⟨g, 0, rfl, (Array.getElem?_eq_some_iff.1 hh).1, fun j v hj => ?_⟩, fun hO _ g' o' e => ?_⟩
    · rw [List.getElem?_map] at hj
      obtain ⟨x, hx, rfl⟩ := Option.map_eq_some_iff.1 hj
      have hm := h3 x (List.mem_of_getElem? hx)
      exact ⟨x.2.1, x.2.2, e1 j x hx 0 _ rfl, e1 j x hx 1 _ rfl, e1 j x hx 2 _ rfl, e1 j x hx 3 _ rfl, e1 j x hx 4 _ rfl, hm.1, hm.2.1⟩
    · injection e with e
      injection e with e2 e3
      subst e2
      subst e3
      refine ⟨hO _ hg, fun j v r c hj hc ad ead h0 => ?_⟩
      rw [List.getElem?_map] at hj
      obtain ⟨x, hx, rfl⟩ := Option.map_eq_some_iff.1 hj
      rw [e1 j x hx 2 _ rfl] at hc
      injection hc with hc
      injection hc with hc _ _
      subst hc
      exact ((h3 x (List.mem_of_getElem? hx)).2.2 ad ead h0).2
/-- Versions in memory, their pasts apart from a row. -/
def SVN (O : Nat → Prop) (row : Option Nat) (W : World) (a : Option Addr) (vs : List Vc.V) : Prop :=
  0 < vs.length → ∃ g o, a = some ⟨g, o, none⟩ ∧ ∃ ps : List VP, ps.map (·.1) = vs ∧ (∀ j u, (flatV ps)[j]? = some u → W.cell? ⟨g, o + j, none⟩ = some u) ∧ ∀ x ∈ ps, x.1.past.length ≤ x.2.2 ∧ Sl W x.2.1 x.1.past ∧ Apart O row x.2.1 x.1.past
theorem sv_list {O : Nat → Prop} {W : World} {g : Nat} : ∀ (vs : List Vc.V) (o : Nat), (∀ (j : Nat) (v : Vc.V), vs[j]? = some v → VAt W g (o + j * 5) v) → (∀ j v r c, vs[j]? = some v → W.cell? ⟨g, o + j * 5 + 2, none⟩ = some (.slice r v.past.length c) → ∀ ad, r = some ad → 0 < v.past.length → O ad.block) → ∃ ps : List VP, ps.map (·.1) = vs ∧ (∀ j u, (flatV ps)[j]? = some u → W.cell? ⟨g, o + j, none⟩ = some u) ∧ ∀ x ∈ ps, x.1.past.length ≤ x.2.2 ∧ Sl W x.2.1 x.1.past ∧ ∀ ad, x.2.1 = some ad → 0 < x.1.past.length → O ad.block
  | [], _, _, _ => ⟨[], rfl, fun j u h => by simp [flatV] at h, fun _ h => by cases h⟩
  | v :: vs, o, h, hp => by
    obtain ⟨r, c, h0, h1, h2, h3, h4, h5, h6⟩ := h 0 v rfl
    have h7 := hp 0 v r c rfl h2
    rw [Nat.zero_mul, Nat.add_zero] at h0 h1 h2 h3 h4
    obtain ⟨ps, e1, e2, e3⟩ := sv_list vs (o + 5) (fun j u hj => by
      have := h (j + 1) u (by simpa using hj)
      rw [show o + (j + 1) * 5 = o + 5 + j * 5 by omega] at this
      exact this) (fun j u r c hj hc => hp (j + 1) u r c (by simpa using hj) (by rw [show o + (j + 1) * 5 + 2 = o + 5 + j * 5 + 2 by omega]; exact hc))
    refine ⟨(v, r, c) :: ps, by rw [List.map_cons, e1], fun j u hu => ?_, fun x hx => ?_⟩
    · by_cases hj : j < 5
      · rw [flatV, List.getElem?_append_left (by simp [verL]; omega)] at hu
        rcases (show j = 0 ∨ j = 1 ∨ j = 2 ∨ j = 3 ∨ j = 4 by omega) with rfl | rfl | rfl | rfl | rfl <;> (simp [verL] at hu; subst hu; assumption)
      · rw [flatV, List.getElem?_append_right (by simp [verL]; omega)] at hu
        have := e2 (j - 5) u (by rw [show (verL v r c).length = 5 from rfl] at hu; exact hu)
        rw [show o + 5 + (j - 5) = o + j by omega] at this
        exact this
    · rcases List.mem_cons.1 hx with rfl | hx
      · exact ⟨h5, h6, h7⟩
      · exact e3 x hx
theorem SV.apart {O : Nat → Prop} {W : World} {a : Option Addr} {vs : List Vc.V} (h : SV W a vs) (hp : Prov O W a vs) {row : Option Nat} (hr : ∀ g, row = some g → W.heap.size ≤ g) {W' : World} (hb : Below W.heap.size W W') : SVN O row W' a vs := fun h0 => by
  obtain ⟨g, o, e, hg, hc⟩ := h h0
  obtain ⟨ps, e1, e2, e3⟩ := sv_list vs o hc (hp h0 g o e).2
  exact ⟨g, o, e, ps, e1, fun j u hu => (hb.cell (p := ⟨g, o + j, Option.none⟩) hg).trans (e2 j u hu), fun x hx => ⟨(e3 x hx).1, (e3 x hx).2.1.after hb, (e3 x hx).2.1.apart hr (e3 x hx).2.2⟩⟩
theorem one_svn {O : Nat → Prop} {W : World} {D T : Nat} {v : Vc.V} {r : Option Addr} {c : Nat} (h : VRow W D T (verL v r c)) (hc : v.past.length ≤ c) (hs : Sl W r v.past) {row : Option Nat} (ha : Apart O row r v.past) : SVN O row W (some ⟨D, 0, none⟩) [v] := fun _ =>
  ⟨D, 0, rfl, [(v, r, c)], rfl, fun j u hu => by rw [Nat.zero_add]; exact h.cell j u (by simpa [flatV] using hu), fun x hx => by rw [List.mem_singleton.1 hx]; exact ⟨hc, hs, ha⟩⟩

theorem info61 : (Try.prog.info? 61).map (fun i => (i.zero, i.size, i.bytes)) = some (some (.agg #[.int .i64 0, .int .i64 0, .slice none 0 0, .bool false, .string ⟨#[]⟩]), 5, 64) := by kernel_rfl
theorem run_append_noneV {w : World} (base : Nat) (t ty e : TypeId) (i : TypeInfo) (size : Nat) (ht : Try.prog.underlying t = some (.slice e)) (hi : Try.prog.info? e = some i)
    (v : Value) (n : Nat) (xs : List Value) (hown : w.ownsRow base e size v n xs) (c : Nat) :
    (Builtin.append_ #[t, t] ty #[v, .slice none 0 c]).run Try.prog w = .ok v w := by
  rcases hown.2 with ⟨rfl, rfl⟩ | ⟨g, cap, cur, rfl, _, _, hnc, _⟩
  · simp [Builtin.append_, run_underlying ht, sizeOf, typeInfo, hi, Builtin.lenOf, Builtin.firstCells]
  · simp [Builtin.append_, run_underlying ht, sizeOf, typeInfo, hi, Builtin.lenOf, Builtin.firstCells, hnc, storeCells]
/-- Versions appended to a row of the call's own. -/
theorem append_sv {O : Nat → Prop} {w : World} {ops : Array Oper} {rest : List Oper} {o : Oper} {a : Act} {Q : Exit → Act → World → Prop} (hgd : o.guard = none) (s x : Operand)
    (ho : o.op = .call { callee := .builtin .append, args := #[s, x], argTypes := #[42, 42] }) (base : Nat) (v : Value) (vs : List Vc.V) (hs : a.eval s = v) (hown : OV O w base v vs)
    (r : Option Addr) (c : Nat) (ys : List Vc.V) (hx : a.eval x = .slice r ys.length c) (hsl : SVN O v.ownBlock w r ys) (hn : vs.length + ys.length ≤ 200000) (hbase : base ≤ w.heap.size)
    (h : ∀ v' w', OV O w' base v' (vs ++ ys) → Below base w w' → w.grownBy w' v.ownBlock → (v'.ownBlock = v.ownBlock ∨ v'.ownBlock = some w.heap.size) → wpList Try.prog ops Q rest (a.put o.dst v') w') : wpList Try.prog ops Q (o :: rest) a w := by
  obtain ⟨i0, hi, hz0, hz1, hz2⟩ := info_parts info61
  obtain ⟨ps, e1, e2, e3⟩ := hown.is
  subst e1
  rw [List.length_map] at hn
  have keep : ∀ {w' : World} {v' : Value}, w.grownBy w' v.ownBlock → (v'.ownBlock = v.ownBlock ∨ v'.ownBlock = some w.heap.size) → ∀ {q : Option Addr} {ds : List Vc.D}, Sl w q ds → Apart O v.ownBlock q ds → Sl w' q ds ∧ Apart O v'.ownBlock q ds := by
    intro w' v' hg hv' q ds hq ha
    refine ⟨fun h0 => ?_, fun ad e h0 => ?_⟩
    · obtain ⟨g, o, e, hlt, hc⟩ := hq h0
      have hne := (ha _ e h0).1
      have hk : ∀ k, w'.cell? ⟨g, k, none⟩ = w.cell? ⟨g, k, none⟩ := fun k => World.cell?_of_block (hg.block g hlt hne)
      refine ⟨g, o, e, Nat.lt_of_lt_of_le hlt hg.size, fun j d hj => ?_⟩
      rw [hk, hk]
      exact hc j d hj
    · rcases hv' with e' | e'
      · rw [e']; exact ha ad e h0
      · rw [e']
        refine ⟨?_, (ha ad e h0).2⟩
        obtain ⟨g, o, e2, hlt, _⟩ := hq h0
        rw [e] at e2
        injection e2 with e2
        subst e2
        intro h
        injection h with h
        have : g = w.heap.size := h
        omega
  cases r with
  | none =>
    have hxs : ys = [] := by
      cases ys with
      | nil => rfl
      | cons d l => obtain ⟨g, o, e, _⟩ := hsl (by simp); cases e
    subst hxs
    refine wpList_plain hgd fun K hK => ?_
    have hrun := run_append_noneV (w := w) base 42 o.type 61 i0 5 Try.underlying42 hi v ps.length (flatV ps) e2 c
    unfold Oper.wp
    simp only [List.length_nil] at hx
    simp [execOp, ho, resolve, invoke, builtin, hs, hx, hrun, Result.andThen]
    refine hK _ _ (h v w ?_ (Below.refl _ _) ⟨rfl, rfl, rfl, Nat.le_refl _, fun _ _ _ => rfl⟩ (.inl rfl))
    rw [List.append_nil]
    exact hown
  | some ad =>
    have hps : ∃ qs : List VP, qs.map (·.1) = ys ∧ (∀ j u, (flatV qs)[j]? = some u → w.cell? (ad.add j) = some u) ∧ ∀ x ∈ qs, x.1.past.length ≤ x.2.2 ∧ Sl w x.2.1 x.1.past ∧ Apart O v.ownBlock x.2.1 x.1.past := by
      cases ys with
      | nil => exact ⟨[], rfl, fun j u hu => by simp [flatV] at hu, fun _ h => by cases h⟩
      | cons d l =>
        obtain ⟨g, o, e, qs, h1, h2, h3⟩ := hsl (by simp)
        injection e with e
        subst e
        refine ⟨qs, h1, fun j u hu => ?_, h3⟩
        rw [show (⟨g, o, none⟩ : Addr).add j = ⟨g, o + j, none⟩ by unfold Addr.add; split <;> simp_all]
        exact h2 j u hu
    obtain ⟨qs, h1, h2, h3⟩ := hps
    subst h1
    rw [List.length_map] at hn hx
    refine wpList_append_own_at w hgd s x 42 ho base 61 i0 _ 5 64 Try.underlying42 hi hz0 hz1 hz2 rfl (by decide) v ps.length (flatV ps) hs e2 ad qs.length c (flatV qs) hx (flatV_len qs) h2 (flatV_one qs) (by unfold maxLen; omega) (by omega) hbase ?_
    intro v' w' g1 g2 _ g4
    refine h v' w' ⟨ps ++ qs, by rw [List.map_append], by rw [List.length_append, flatV_append]; exact g1, fun x hx => ?_⟩ (grown_below e2 g2 hbase) g2 g4
    rcases List.mem_append.1 hx with hx | hx
    · exact ⟨(e3 x hx).1, keep g2 g4 (e3 x hx).2.1 (e3 x hx).2.2⟩
    · exact ⟨(h3 x hx).1, keep g2 g4 (h3 x hx).2.1 (h3 x hx).2.2⟩
end Go.Proofs.Ytpfighkafmammaa
