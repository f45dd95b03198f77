/-
  Plain facts on trees: names below a directory, its node, the texts of all nodes; trees of one digest are the same. Conditions: none but those that each theorem names.
-/
import Derived.Test.YtebjlmnhpfoglaaGreatDoorB08
import Derived.Test.YtebjlmnhpfoglaaGreatDoorB11
import Derived.Test.YtebjlmnhpfoglaaGreatDoorRows
import Derived.Test.YtebjlmnhpfoglaaGreatDoorB07
import Derived.WalkKit
import Derived.Lib.Strings
import Derived.WalkSpells
import Derived.WalkLawsBesides
import Derived.BigQuiet
import Derived.Outline
import Derived.Deep.MidRow
import Derived.Deep.WholeRow
import Derived.RegionTactic
import Derived.BigRegion
import Derived.OwnWalk
import Derived.Laws.ResultCell
import Derived.WalkMore
namespace Go.Proofs.YtebjlmnhpfoglaaGreatDoor
open Go.RowKit

theorem bytesLess_cmpB : ∀ a b : List UInt8, Op.bytesLess a b = decide (Pth.Pt.cmpB a b = -1)
  | [], [] => by decide
  | [], _ :: _ => by simp [Op.bytesLess, Pth.Pt.cmpB, Pth.Pt.lexC]
  | _ :: _, [] => by simp [Op.bytesLess, Pth.Pt.cmpB, Pth.Pt.lexC]
  | a :: l, b :: m => by
    have ih := bytesLess_cmpB l m
    have e : Pth.Pt.cmpB (a :: l) (b :: m) = if Pth.Pt.cmp8 a b = 0 then Pth.Pt.cmpB l m else Pth.Pt.cmp8 a b := rfl
    rw [e]
    unfold Op.bytesLess
    unfold Pth.Pt.cmp8
    by_cases h : a < b
    · simp [h]
    · by_cases h' : b < a
      · simp [h, h']
        intro e
        subst e
        exact absurd h' h
      · have : a = b := by
          apply UInt8.toNat_inj.1
          rw [UInt8.lt_iff_toNat_lt] at h h'
          omega
        subst this
        simp [ih]
def cmpN (a b : ByteArray) : Int := Pth.Pt.cmpB a.data.toList b.data.toList
theorem cmpN_eq {a b : ByteArray} : cmpN a b = 0 ↔ a = b :=
  (Pth.Pt.cmpB_good.eq _ _).trans ⟨fun h => by rw [← str_of a, ← str_of b, h], fun h => by rw [h]⟩
theorem cmpN_anti (a b : ByteArray) : cmpN b a = - cmpN a b := Pth.Pt.cmpB_good.anti _ _
theorem cmpN_rng (a b : ByteArray) : cmpN a b = -1 ∨ cmpN a b = 0 ∨ cmpN a b = 1 := Pth.Pt.cmpB_good.rng _ _
theorem cmpN_tr {a b c : ByteArray} (h1 : cmpN a b < 0) (h2 : cmpN b c < 0) : cmpN a c < 0 := by
  have e1 : cmpN a b = -1 := by have := cmpN_rng a b; omega
  have e2 : cmpN b c = -1 := by have := cmpN_rng b c; omega
  have := Pth.Pt.cmpB_good.tr _ _ _ e1 e2
  unfold cmpN
  omega
theorem leqB_above {p s : ByteArray} (h : cmpN p s < 0) : leqB s p = false := by
  unfold leqB
  rw [Lib.toList_data, Lib.toList_data, bytesLess_cmpB, Bool.or_eq_false_iff]
  have h1 : Pth.Pt.cmpB s.data.toList p.data.toList ≠ -1 := by
    have := cmpN_anti p s
    unfold cmpN at this h
    omega
  refine ⟨decide_eq_false h1, ?_⟩
  cases e : (s.data.toList == p.data.toList) with
  | false => rfl
  | true =>
    have e1 : s.data.toList = p.data.toList := by simpa using e
    unfold cmpN at h
    rw [e1, (Pth.Pt.cmpB_good.eq _ _).2 rfl] at h
    omega

/-! Names. -/
def underE (p d : ByteArray) : Bool := Pth.Pt.under p.data.toList d.data.toList
def partsE (p : ByteArray) : List (List UInt8) := Pth.Pt.parts p.data.toList
def nm (p d : ByteArray) : ByteArray := str ((partsE p).getD (partsE d).length [])
def nameStep (d : ByteArray) (out : List ByteArray) (x : En) : List ByteArray := if underE x.1 d = false then out else if out.getLast? = some (nm x.1 d) then out else out ++ [nm x.1 d]
def namesT (t : List En) (d : ByteArray) : List ByteArray := t.foldl (nameStep d) []
theorem names_snoc (t : List En) (d : ByteArray) (j : Nat) (x : En) (h : t[j]? = some x) : namesT (t.take (j + 1)) d = nameStep d (namesT (t.take j) d) x := by
  rw [List.take_add_one, h]
  simp [namesT]
/-- A directory: the root, or a path. -/
def Dir (d : ByteArray) : Prop := d.data.toList = [] ∨ Pth.Pt.isPath d.data.toList = true
theorem under_split {p d : ByteArray} (h : underE p d = true) : Pth.Pt.isPath p.data.toList = true ∧ Dir d ∧ ∃ r, Pth.Pt.pieces p.data.toList = partsE d ++ (nm p d).data.toList :: r := by
  obtain ⟨h1, h2, h3, h4⟩ := (Pth.Pt.under_names _ _).1 h
  refine ⟨h1, h2, ?_⟩
  have e1 : partsE p = Pth.Pt.pieces p.data.toList := Pth.Pt.parts_path _ h1
  have h3' : (partsE d).length < (partsE p).length := h3
  have e2 : (partsE p).take (partsE d).length = partsE d := by
    apply List.ext_getElem?
    intro i
    by_cases hi : i < (partsE d).length
    · rw [List.getElem?_take_of_lt hi]
      exact h4 i hi
    · rw [List.getElem?_eq_none (by rw [List.length_take]; omega), List.getElem?_eq_none (by omega)]
  refine ⟨(partsE p).drop ((partsE d).length + 1), ?_⟩
  rw [← e1]
  conv => lhs; rw [← List.take_append_drop (partsE d).length (partsE p), e2, List.drop_eq_getElem_cons h3']
  unfold nm
  rw [str_data, List.getD_eq_getElem?_getD, List.getElem?_eq_getElem h3']
  rfl
theorem under_few {p d : ByteArray} (h : underE p d = true) : (partsE d).length < 4 := by
  obtain ⟨_, _, h3, _⟩ := (Pth.Pt.under_names _ _).1 h
  have := Pth.Pt.parts_le p.data.toList
  unfold partsE
  omega
theorem nm_name {p d : ByteArray} (h : underE p d = true) : isN (nm p d) = true := by
  obtain ⟨h1, h2, r, e⟩ := under_split h
  have := ((Pth.Pt.isPath_iff _).1 h1).2 (nm p d).data.toList (by rw [e]; simp)
  exact this
theorem cmpP_pre : ∀ (D a b : List (List UInt8)), Pth.Pt.cmpP (D ++ a) (D ++ b) = Pth.Pt.cmpP a b
  | [], _, _ => rfl
  | x :: D, a, b => by
    rw [List.cons_append, List.cons_append, Pth.Pt.cmpP_cons, if_pos ((Pth.Pt.cmpB_good.eq x x).2 rfl)]
    exact cmpP_pre D a b
theorem nm_mono {p q d : ByteArray} (hp : underE p d = true) (hq : underE q d = true) (h : cmpE p q < 0) : cmpN (nm p d) (nm q d) ≤ 0 := by
  obtain ⟨_, _, r1, e1⟩ := under_split hp
  obtain ⟨_, _, r2, e2⟩ := under_split hq
  unfold cmpE Pth.Pt.cmpT at h
  rw [e1, e2, cmpP_pre, Pth.Pt.cmpP_cons] at h
  unfold cmpN
  split at h <;> omega
theorem mem_step {d : ByteArray} {out : List ByteArray} {x : En} (s : ByteArray) : s ∈ nameStep d out x ↔ s ∈ out ∨ (underE x.1 d = true ∧ nm x.1 d = s) := by
  unfold nameStep
  by_cases h1 : underE x.1 d = false
  · rw [if_pos h1, h1]
    simp
  · rw [if_neg h1]
    have h1' : underE x.1 d = true := by simpa using h1
    by_cases h2 : out.getLast? = some (nm x.1 d)
    · rw [if_pos h2]
      constructor
      · exact .inl
      · rintro (h | ⟨_, h⟩)
        · exact h
        · rw [← h]
          exact List.mem_of_getLast? h2
    · rw [if_neg h2, List.mem_append, List.mem_singleton, h1']
      constructor
      · rintro (h | h)
        · exact .inl h
        · exact .inr ⟨rfl, h.symm⟩
      · rintro (h | ⟨_, h⟩)
        · exact .inl h
        · exact .inr h.symm
theorem mem_fold {d : ByteArray} (s : ByteArray) : ∀ (t : List En) (out : List ByteArray), s ∈ t.foldl (nameStep d) out ↔ s ∈ out ∨ ∃ x ∈ t, underE x.1 d = true ∧ nm x.1 d = s
  | [], out => by simp
  | x :: t, out => by
    rw [List.foldl_cons, mem_fold s t, mem_step]
    constructor
    · rintro ((h | h) | ⟨y, hy, h⟩)
      · exact .inl h
      · exact .inr ⟨x, List.mem_cons_self .., h⟩
      · exact .inr ⟨y, List.mem_cons_of_mem _ hy, h⟩
    · rintro (h | ⟨y, hy, h⟩)
      · exact .inl (.inl h)
      · rcases List.mem_cons.1 hy with rfl | hy
        · exact .inl (.inr h)
        · exact .inr ⟨y, hy, h⟩
theorem mem_names {t : List En} {d : ByteArray} (s : ByteArray) : s ∈ namesT t d ↔ ∃ x ∈ t, underE x.1 d = true ∧ nm x.1 d = s := by
  unfold namesT
  rw [mem_fold]
  simp
theorem len_fold {d : ByteArray} : ∀ (t : List En) (out : List ByteArray), (t.foldl (nameStep d) out).length ≤ out.length + t.length
  | [], out => by simp
  | x :: t, out => by
    rw [List.foldl_cons]
    have h1 := len_fold (d := d) t (nameStep d out x)
    have h2 : (nameStep d out x).length ≤ out.length + 1 := by
      unfold nameStep
      split
      · omega
      · split
        · omega
        · simp
    simp only [List.length_cons]
    omega
theorem len_names (t : List En) (d : ByteArray) : (namesT t d).length ≤ t.length := by
  have := len_fold (d := d) t []
  unfold namesT
  simpa using this
theorem srt_fold {d : ByteArray} : ∀ (t : List En) (out : List ByteArray), Srt t → (out.Pairwise fun a b => cmpN a b < 0) → (∀ s, out.getLast? = some s → ∀ x ∈ t, underE x.1 d = true → cmpN s (nm x.1 d) ≤ 0) →
    (t.foldl (nameStep d) out).Pairwise fun a b => cmpN a b < 0
  | [], out, _, h, _ => h
  | x :: t, out, hs, h, hl => by
    rw [List.foldl_cons]
    by_cases h1 : underE x.1 d = false
    · have e : nameStep d out x = out := by unfold nameStep; rw [if_pos h1]
      rw [e]
      exact srt_fold t out hs.tail h fun s e y hy => hl s e y (List.mem_cons_of_mem _ hy)
    · have h1' : underE x.1 d = true := by simpa using h1
      by_cases h2 : out.getLast? = some (nm x.1 d)
      · have e : nameStep d out x = out := by unfold nameStep; rw [if_neg h1, if_pos h2]
        rw [e]
        exact srt_fold t out hs.tail h fun s e y hy => hl s e y (List.mem_cons_of_mem _ hy)
      · have e : nameStep d out x = out ++ [nm x.1 d] := by unfold nameStep; rw [if_neg h1, if_neg h2]
        rw [e]
        refine srt_fold t _ hs.tail ?_ fun s e y hy hu => ?_
        · rw [List.pairwise_append]
          refine ⟨h, by simp, fun a ha b hb => ?_⟩
          rw [List.mem_singleton.1 hb]
          cases hL : out.getLast? with
          | none => rw [List.getLast?_eq_none_iff.1 hL] at ha; cases ha
          | some s =>
            have h3 := hl s hL x (List.mem_cons_self ..) h1'
            have h4 : cmpN s (nm x.1 d) ≠ 0 := fun h => h2 (by rw [hL, cmpN_eq.1 h])
            obtain ⟨pre, rfl⟩ := List.getLast?_eq_some_iff.1 hL
            rcases List.mem_append.1 ha with ha | ha
            · exact cmpN_tr ((List.pairwise_append.1 h).2.2 a ha s (List.mem_singleton.2 rfl)) (by omega)
            · rw [List.mem_singleton.1 ha]
              omega
        · rw [List.getLast?_append] at e
          simp at e
          rw [← e]
          exact nm_mono h1' hu (hs.head y hy)
theorem names_srt {t : List En} (h : Srt t) (d : ByteArray) : (namesT t d).Pairwise fun a b => cmpN a b < 0 :=
  srt_fold t [] h List.Pairwise.nil fun _ e => by cases e
theorem names_deep {t : List En} {d : ByteArray} (h : 4 ≤ (partsE d).length) : namesT t d = [] := by
  rw [List.eq_nil_iff_forall_not_mem]
  intro s hs
  obtain ⟨x, _, hu, _⟩ := (mem_names s).1 hs
  have := under_few hu
  omega

/-! Down. -/
def downE (d s : ByteArray) : ByteArray := if d.data.toList = [] then s else str (d.data.toList ++ 47 :: s.data.toList)
theorem pieces_down {d s : ByteArray} (hd : Dir d) (hs : isN s = true) : Pth.Pt.pieces (downE d s).data.toList = partsE d ++ [s.data.toList] := by
  have h1 := (Pth.Pt.name_path _ hs).1
  unfold downE
  by_cases h : d.data.toList = []
  · rw [if_pos h, h1]
    unfold partsE
    rw [h, Pth.Pt.parts_none [] (by decide)]
    rfl
  · rw [if_neg h, str_data, Pth.Pt.pieces_slash, h1]
    unfold partsE
    rw [Pth.Pt.parts_path _ (hd.resolve_left h)]
theorem path_down {d s : ByteArray} (hd : Dir d) (hs : isN s = true) (h4 : (partsE d).length < 4) : Pth.Pt.isPath (downE d s).data.toList = true := by
  rw [Pth.Pt.isPath_iff, pieces_down hd hs]
  refine ⟨by simp; omega, fun p hp => ?_⟩
  rcases List.mem_append.1 hp with hp | hp
  · exact Pth.Pt.parts_names _ p hp
  · rw [List.mem_singleton.1 hp]
    exact hs
theorem parts_down {d s : ByteArray} (hd : Dir d) (hs : isN s = true) (h4 : (partsE d).length < 4) : partsE (downE d s) = partsE d ++ [s.data.toList] := by
  have h := path_down hd hs h4
  have e := pieces_down hd hs
  conv => lhs; unfold partsE; rw [Pth.Pt.parts_path _ h]
  exact e
theorem parts_below {t : List En} {d s : ByteArray} (h : s ∈ namesT t d) : Dir d ∧ isN s = true ∧ (partsE (downE d s)).length = (partsE d).length + 1 ∧ Pth.Pt.isPath (downE d s).data.toList = true := by
  obtain ⟨x, _, hu, rfl⟩ := (mem_names s).1 h
  have h1 := (under_split hu).2.1
  have h2 := nm_name hu
  refine ⟨h1, h2, ?_, path_down h1 h2 (under_few hu)⟩
  rw [parts_down h1 h2 (under_few hu)]
  simp
theorem under_down {e d : ByteArray} (h : underE e d = true) : e = downE d (nm e d) ∨ underE e (downE d (nm e d)) = true := by
  obtain ⟨h1, h2, r, h3⟩ := under_split h
  have hn := nm_name h
  have h4 := under_few h
  have e1 := pieces_down h2 hn
  cases r with
  | nil =>
    refine .inl ?_
    rw [← e1] at h3
    have h5 := Pth.Pt.pieces_inj _ _ h3
    exact (str_of e).symm.trans ((congrArg str h5).trans (str_of _))
  | cons q r =>
    refine .inr ((Pth.Pt.under_names _ _).2 ⟨h1, .inr (path_down h2 hn h4), ?_, fun i hi => ?_⟩)
    · show (partsE (downE d (nm e d))).length < (Pth.Pt.parts e.data.toList).length
      rw [parts_down h2 hn h4, Pth.Pt.parts_path _ h1, h3]
      simp
    · show (Pth.Pt.parts e.data.toList)[i]? = (partsE (downE d (nm e d)))[i]?
      have hi' : i < (partsE (downE d (nm e d))).length := hi
      rw [parts_down h2 hn h4] at hi' ⊢
      rw [Pth.Pt.parts_path _ h1, h3, show partsE d ++ (nm e d).data.toList :: q :: r = (partsE d ++ [(nm e d).data.toList]) ++ q :: r by simp, List.getElem?_append_left hi']

/-! Nodes. -/
def nodeT : Nat → List En → ByteArray → Nd
  | 0, t, d => ⟨getT t d, []⟩
  | k + 1, t, d => ⟨getT t d, (namesT t d).map fun s => (s, sumN (nodeT k t (downE d s)))⟩
def nodeF (t : List En) (d : ByteArray) : Nd := nodeT 4 t d
theorem nodeT_more (t : List En) : ∀ (k : Nat) (d : ByteArray), 4 ≤ (partsE d).length + k → nodeT (k + 1) t d = nodeT k t d
  | 0, d, h => by
    unfold nodeT
    rw [names_deep (by omega)]
    rfl
  | k + 1, d, h => by
    show (⟨getT t d, (namesT t d).map fun s => (s, sumN (nodeT (k + 1) t (downE d s)))⟩ : Nd) = ⟨getT t d, (namesT t d).map fun s => (s, sumN (nodeT k t (downE d s)))⟩
    congr 1
    refine List.map_congr_left fun s hs => ?_
    have := (parts_below hs).2.2.1
    rw [nodeT_more t k (downE d s) (by omega)]
theorem nodeF_eq (t : List En) (d : ByteArray) : nodeF t d = ⟨getT t d, (namesT t d).map fun s => (s, sumN (nodeF t (downE d s)))⟩ := (nodeT_more t 4 d (by omega)).symm
def rootT (t : List En) : List UInt8 := sumN (nodeF t ⟨#[]⟩)
def textsT : Nat → List En → ByteArray → List ByteArray
  | 0, t, d => [str (bytesN (nodeF t d)).1]
  | k + 1, t, d => str (bytesN (nodeF t d)).1 :: (namesT t d).flatMap fun s => textsT k t (downE d s)
def textsF (t : List En) (d : ByteArray) : List ByteArray := textsT 4 t d
theorem textsT_more (t : List En) : ∀ (k : Nat) (d : ByteArray), 4 ≤ (partsE d).length + k → textsT (k + 1) t d = textsT k t d
  | 0, d, h => by
    unfold textsT
    rw [names_deep (by omega)]
    rfl
  | k + 1, d, h => by
    show str (bytesN (nodeF t d)).1 :: (namesT t d).flatMap (fun s => textsT (k + 1) t (downE d s)) = str (bytesN (nodeF t d)).1 :: (namesT t d).flatMap fun s => textsT k t (downE d s)
    congr 1
    rw [List.flatMap_def, List.flatMap_def]
    congr 1
    refine List.map_congr_left fun s hs => ?_
    have := (parts_below hs).2.2.1
    rw [textsT_more t k (downE d s) (by omega)]
theorem textsF_eq (t : List En) (d : ByteArray) : textsF t d = str (bytesN (nodeF t d)).1 :: (namesT t d).flatMap fun s => textsF t (downE d s) := (textsT_more t 4 d (by omega)).symm
theorem texts_self (t : List En) (d : ByteArray) : str (bytesN (nodeF t d)).1 ∈ textsF t d := by rw [textsF_eq]; exact List.mem_cons_self ..
theorem texts_below {t : List En} {d s : ByteArray} (h : s ∈ namesT t d) : ∀ a ∈ textsF t (downE d s), a ∈ textsF t d := fun a ha => by
  rw [textsF_eq]
  exact List.mem_cons_of_mem _ (List.mem_flatMap.2 ⟨s, h, ha⟩)

/-! The nodes of a tree that may be may be. -/
theorem chkK_names_ok (f : ByteArray → List UInt8) : ∀ (l : List ByteArray) (p : ByteArray), (l.Pairwise fun a b => cmpN a b < 0) → (∀ s ∈ l, isN s = true) → (∀ s ∈ l, leqB s p = false) → chkK p (l.map fun s => (s, f s)) = 0
  | [], _, _, _, _ => rfl
  | s :: l, p, h, hn, hp => by
    have h1 := List.pairwise_cons.1 h
    have e : kidErr p (s, f s) = 0 := by
      unfold kidErr
      rw [if_neg (by simp [hn s (List.mem_cons_self ..)]), if_neg (by simp [hp s (List.mem_cons_self ..)])]
    show (if kidErr p (s, f s) ≠ 0 then kidErr p (s, f s) else chkK s (l.map fun s => (s, f s))) = 0
    rw [if_neg (by simpa using e)]
    exact chkK_names_ok f l s h1.2 (fun x hx => hn x (List.mem_cons_of_mem _ hx)) fun x hx => leqB_above (h1.1 x hx)
theorem getT_leaf {t : List En} (h : Tr t) (d : ByteArray) : Vc.checkLeaf (getT t d) = 0 := by
  by_cases e : getT t d = []
  · rw [e]
    exact (Vc.checkLeaf_zero _).2 Vc.leaf_nil
  · exact (h.leaf _ (getT_some e)).2
theorem names_isN {t : List En} {d : ByteArray} : ∀ s ∈ namesT t d, isN s = true := fun _ hs => (parts_below hs).2.1
theorem node_fine {t : List En} (h : Tr t) (d : ByteArray) : chkN (nodeF t d) = 0 := by
  rw [nodeF_eq]
  unfold chkN
  have h1 := getT_leaf h d
  have h2 := len_names t d
  have h3 := h.few
  rw [if_neg (by simpa using h1), if_neg (by simp only [List.length_map]; omega)]
  exact chkK_names_ok _ _ _ (names_srt h.srt d) names_isN fun s hs => leq_none (names_isN s hs)
theorem node_digs (t : List En) (d : ByteArray) : Digs (nodeF t d).ks := by
  rw [nodeF_eq]
  intro k hk
  obtain ⟨s, _, rfl⟩ := List.mem_map.1 hk
  exact sumN_len _
theorem node_bytes {t : List En} (h : Tr t) (d : ByteArray) : bytesN (nodeF t d) = (encN (nodeF t d), 0) := bytes_ok (node_fine h d)
theorem node_sum {t : List En} (h : Tr t) (d : ByteArray) : sumN (nodeF t d) = Hsh.Sha.sha (encN (nodeF t d)) := by
  unfold sumN
  rw [if_neg (by simpa using node_fine h d)]

/-! Trees of one digest. -/
def shaE (s : ByteArray) : List UInt8 := Hsh.Sha.sha s.data.toList
def Unlike (T : List ByteArray) : Prop := ∀ a ∈ T, ∀ b ∈ T, shaE a = shaE b → a = b
theorem apart_at {t u : List En} (ht : Tr t) (hu : Tr u) {T : List ByteArray} (hT : Unlike T) : ∀ (k : Nat) (d : ByteArray), 4 ≤ (partsE d).length + k → (∀ a ∈ textsF t d, a ∈ T) → (∀ a ∈ textsF u d, a ∈ T) →
    sumN (nodeF t d) = sumN (nodeF u d) → ∀ e, e = d ∨ underE e d = true → getT t e = getT u e := by
  have node_one : ∀ d, (∀ a ∈ textsF t d, a ∈ T) → (∀ a ∈ textsF u d, a ∈ T) → sumN (nodeF t d) = sumN (nodeF u d) → nodeF t d = nodeF u d := fun d h1 h2 h => by
    have m1 := h1 _ (texts_self t d)
    have m2 := h2 _ (texts_self u d)
    rw [node_bytes ht] at m1
    rw [node_bytes hu] at m2
    rw [node_sum ht, node_sum hu] at h
    have e := hT _ m1 _ m2 (by unfold shaE; rw [str_data, str_data]; exact h)
    have e2 : encN (nodeF t d) = encN (nodeF u d) := by rw [← str_data (encN (nodeF t d)), e, str_data]
    have r1 := read_back (node_fine ht d) (node_digs t d)
    have r2 := read_back (node_fine hu d) (node_digs u d)
    rw [e2, r2] at r1
    exact (congrArg Prod.fst r1).symm
  intro k
  induction k with
  | zero =>
    intro d h4 h1 h2 h e he
    rcases he with rfl | he
    · have := node_one _ h1 h2 h
      rw [nodeF_eq, nodeF_eq] at this
      exact congrArg Nd.vs this
    · have := under_few he
      omega
  | succ k ih =>
    intro d h4 h1 h2 h e he
    have hn := node_one _ h1 h2 h
    rw [nodeF_eq t, nodeF_eq u] at hn
    have hv : getT t d = getT u d := congrArg Nd.vs hn
    have hk : ((namesT t d).map fun s => (s, sumN (nodeF t (downE d s)))) = (namesT u d).map fun s => (s, sumN (nodeF u (downE d s))) := congrArg Nd.ks hn
    have hns : namesT t d = namesT u d := by
      have := congrArg (List.map Prod.fst) hk
      simpa [List.map_map, Function.comp_def] using this
    rcases he with rfl | he
    · exact hv
    · by_cases hm : nm e d ∈ namesT t d
      · have hm2 : nm e d ∈ namesT u d := hns ▸ hm
        rw [← hns] at hk
        have hs := List.map_inj_left.1 hk _ hm
        have hs2 := congrArg Prod.snd hs
        have hl := (parts_below hm).2.2.1
        exact ih (downE d (nm e d)) (by omega) (fun a ha => h1 a (texts_below hm a ha)) (fun a ha => h2 a (texts_below hm2 a ha)) hs2 e (under_down he)
      · have n1 : ∀ (r : List En), nm e d ∉ namesT r d → getT r e = [] := fun r hr => getT_none fun x hx hxe => hr ((mem_names _).2 ⟨x, hx, by rw [hxe]; exact he, by rw [hxe]⟩)
        rw [n1 t hm, n1 u (hns ▸ hm)]
theorem under_root {p : ByteArray} (h : Pth.Pt.isPath p.data.toList = true) : underE p ⟨#[]⟩ = true := by
  unfold underE Pth.Pt.under
  rw [if_pos (by rfl)]
  exact h
theorem get_ext {t u : List En} (ht : Tr t) (hu : Tr u) (h : ∀ p : ByteArray, Pth.Pt.isPath p.data.toList = true → getT t p = getT u p) : t = u := by
  have one : ∀ {a b : List En}, Tr a → Tr b → (∀ p : ByteArray, Pth.Pt.isPath p.data.toList = true → getT a p = getT b p) → ∀ x, x ∈ a → x ∈ b := fun {a b} ha hb hh x hx => by
    have h1 := getT_mem ha.srt hx
    have h2 := hh x.1 (ha.path x hx)
    have h3 : getT b x.1 ≠ [] := by
      rw [← h2, h1]
      intro e
      exact (ha.leaf x hx).1 (by rw [e]; rfl)
    have h4 := getT_some h3
    rwa [← h2, h1] at h4
  exact ht.srt.ext hu.srt fun x => ⟨one ht hu h x, one hu ht (fun p hp => (h p hp).symm) x⟩
/-- Trees of one root's digest are the same, if no two unlike texts of their nodes have one digest. -/
theorem apart_same {t u : List En} (ht : Tr t) (hu : Tr u) (hT : Unlike (textsF t ⟨#[]⟩ ++ textsF u ⟨#[]⟩)) (h : rootT t = rootT u) : t = u :=
  get_ext ht hu fun p hp => apart_at ht hu hT 4 ⟨#[]⟩ (by omega) (fun _ ha => List.mem_append_left _ ha) (fun _ ha => List.mem_append_right _ ha) h p (.inr (under_root hp))
def clashT (l : List ByteArray) : Bool := (List.range l.length).any fun i => (List.range i).any fun k => decide (shaE (l.getD k ⟨#[]⟩) = shaE (l.getD i ⟨#[]⟩) ∧ l.getD k ⟨#[]⟩ ≠ l.getD i ⟨#[]⟩)
theorem clash_no {l : List ByteArray} (h : clashT l = false) : Unlike l := by
  have key : ∀ i k, i < l.length → k < i → shaE (l.getD k ⟨#[]⟩) = shaE (l.getD i ⟨#[]⟩) → l.getD k ⟨#[]⟩ = l.getD i ⟨#[]⟩ := fun i k hi hk he => by
    have h1 := List.any_eq_false.1 h i (List.mem_range.2 hi)
    simp only [Bool.not_eq_true] at h1
    have h2 := List.any_eq_false.1 h1 k (List.mem_range.2 hk)
    simp only [decide_eq_true_eq] at h2
    exact Classical.not_not.1 fun hne => h2 ⟨he, hne⟩
  intro a ha b hb he
  obtain ⟨i, hi, rfl⟩ := List.getElem_of_mem ha
  obtain ⟨k, hk, rfl⟩ := List.getElem_of_mem hb
  have ei : l.getD i ⟨#[]⟩ = l[i] := by simp [hi]
  have ek : l.getD k ⟨#[]⟩ = l[k] := by simp [hk]
  rw [← ei, ← ek] at he ⊢
  rcases Nat.lt_trichotomy i k with h1 | h1 | h1
  · exact key k i hk h1 he
  · rw [h1]
  · exact (key i k hi h1 he.symm).symm
/-- One root's digest: the same tree, or a clash. -/
theorem same_or_clash {t u : List En} (ht : Tr t) (hu : Tr u) (h : rootT t = rootT u) : t = u ∨ clashT (textsF t ⟨#[]⟩ ++ textsF u ⟨#[]⟩) = true := by
  cases hc : clashT (textsF t ⟨#[]⟩ ++ textsF u ⟨#[]⟩) with
  | true => exact .inr rfl
  | false => exact .inl (apart_same ht hu (clash_no hc) h)
end Go.Proofs.YtebjlmnhpfoglaaGreatDoor

/-
  What the leaves answer: whether a byte may stand in a name; a text cut at its first slash; which of two texts stands ahead.
-/

namespace Go.Proofs.YtebjlmnhpfoglaaGreatDoor.Pth
open Go.RowKit

theorem hide {p : Prop} (h : p) : Hid p := h
theorem unhide {p : Prop} (h : Hid p) : p := h
theorem ret_bool {a b : Bool} (h : a = b) : Ending.returned (.bool a) = .returned (.bool b) := by rw [h]

set_option maxRecDepth 100000 in
set_option maxHeartbeats 400000 in
theorem sign_any (c : UInt8) (w : World) :
    Calls Tryz.prog 119 #[.int .u8 (c.toNat : Int)] w fun e w' => e = .returned (.bool (Pt.sign c)) ∧ w' = w := by
  have hc := c.toNat_lt
  unfold Pt.sign
  generalize c.toNat = x at *
  go_enter Tryz.func119, Tryz.ntmps119
  go_wp2
  all_goals go_ret
  all_goals refine ⟨ret_bool (Bool.eq_iff_iff.2 ?_), rfl⟩
  all_goals simp only [Bool.or_eq_true, Bool.and_eq_true, decide_eq_true_eq, beq_iff_eq, true_iff]
  all_goals omega

inductive CutAt (s : ByteArray) : ByteArray → ByteArray → Bool → Prop
  | none (h : ∀ x ∈ s.data.toList, x ≠ 47) : CutAt s s ⟨#[]⟩ false
  | some (p r : List UInt8) (h : ∀ x ∈ p, x ≠ 47) (e : s.data.toList = p ++ 47 :: r) : CutAt s (s.extract 0 p.length) (s.extract (p.length + 1) s.size) true

theorem extract_list (s : ByteArray) (a b : Nat) : (s.extract a b).data.toList = (s.data.toList.take b).drop a := by
  rw [ByteArray.data_extract, Array.toList_extract, List.extract_eq_take_drop, List.drop_take]

end Go.Proofs.YtebjlmnhpfoglaaGreatDoor.Pth

/-
  Rows of texts in a block: their cells, a store into one, what stays as it was; four texts by value.
-/

namespace Go.Proofs.YtebjlmnhpfoglaaGreatDoor.Pth
open Go.RowKit

/-- A text of bytes as a value. -/
def str (l : Pt.Bs) : Value := .string ⟨l.toArray⟩
theorem str_data (s : ByteArray) : str s.data.toList = .string s := by simp [str]

def VRow (W : World) (B T : Nat) (vs : List Value) : Prop := W.heap[B]? = some (.cells vs.toArray T (0, 0))

theorem VRow.cell {W : World} {B T : Nat} {vs : List Value} (h : VRow W B T vs) (k : Nat) (v : Value) (hv : vs[k]? = some v) : W.cell? ⟨B, k, none⟩ = some v := by
  rw [cell_of_row W B k vs.toArray T (0, 0) h]
  simpa using hv
theorem VRow.frozen {W : World} {B T : Nat} {vs : List Value} (h : VRow W B T vs) (k : Nat) : W.frozen? ⟨B, k, none⟩ = false := frozen_of_row W B k vs.toArray T h
theorem VRow.set {W : World} {B T : Nat} {vs : List Value} (h : VRow W B T vs) (k : Nat) (v : Value) : VRow (W.setCell ⟨B, k, none⟩ v) B T (vs.set k v) := by
  have := heap_setCell_same W B k vs.toArray T v h
  simpa [VRow] using this
theorem VRow.below {W W' : World} {n B T : Nat} {vs : List Value} (h : VRow W B T vs) (hb : Below n W W') (hn : B < n) : VRow W' B T vs := (hb.block B hn).trans h
theorem VRow.lt {W : World} {B T : Nat} {vs : List Value} (h : VRow W B T vs) : B < W.heap.size := (Array.getElem?_eq_some_iff.1 h).1
theorem VRow.new (W : World) (T : Nat) (vs : List Value) : VRow (W.alloc (.cells vs.toArray T)) W.heap.size T vs := heap_alloc_new W _
theorem VRow.newAt {W : World} {T n : Nat} {vs : List Value} (hn : n = W.heap.size) : VRow (W.alloc (.cells vs.toArray T)) n T vs := by subst hn; exact VRow.new W T vs
theorem VRow.alloc {W : World} {B T : Nat} {vs : List Value} (h : VRow W B T vs) (o : Obj) : VRow (W.alloc o) B T vs := (Below.heap_alloc W o B h.lt).trans h
theorem VRow.drewN {W : World} {B T : Nat} {vs : List Value} (h : VRow W B T vs) (n : Nat) : VRow (W.drewN n) B T vs := h

/-- Nothing turns but block B. -/
structure Only (B : Nat) (w w' : World) : Prop where
  os : w'.os = w.os
  tape : w'.tape = w.tape
  output : w'.output = w.output
  size : w'.heap.size = w.heap.size
  block : ∀ j, j ≠ B → w'.heap[j]? = w.heap[j]?
theorem Only.below {B n : Nat} {w w' : World} (h : Only B w w') (hn : n ≤ B) : Below n w w' := ⟨h.os, h.tape, h.output, Nat.le_of_eq h.size.symm, fun k hk => h.block k (by omega)⟩
theorem VRow.only {W W' : World} {A B T : Nat} {vs : List Value} (h : VRow W A T vs) (ho : Only B W W') (hne : A ≠ B) : VRow W' A T vs := (ho.block A hne).trans h
theorem below_drewN {B : Nat} {a w : World} (h : Below B a w) (q : Nat) : Below B a (w.drewN q) := ⟨h.os, h.tape, h.output, h.size, h.block⟩

theorem load_row {ops : Array Oper} {rest : List Oper} {o : Oper} {a : Act} {w : World} {Q : Exit → Act → World → Prop} (hgd : o.guard = none) (T : TypeId) (x : Operand) (ho : o.op = .load T x)
    (B : Nat) (hx : a.eval x = .pointer (some ⟨B, 0, none⟩)) (T' : TypeId) (vs : List Value) (hr : VRow w B T' vs) (n m : Nat) (e : TypeId) (hu : Tryz.prog.underlying T = some (.array m e))
    (hi : (Tryz.prog.info? T).map (·.size) = some n) (hn : vs.length = n)
    (h : wpList Tryz.prog ops Q rest (a.put o.dst (.agg vs.toArray)) w) : wpList Tryz.prog ops Q (o :: rest) a w :=
  wpList_load_row hgd T x ho B hx T' vs.toArray (0, 0) _ hr hu rfl (by rw [hi]; simp [hn]) h

theorem store_row {ops : Array Oper} {rest : List Oper} {o : Oper} {a : Act} {w : World} {Q : Exit → Act → World → Prop} (hgd : o.guard = none) (T : TypeId) (x y : Operand) (ho : o.op = .store T x y)
    (B : Nat) (vs : List Value) (hx : a.eval x = .pointer (some ⟨B, 0, none⟩)) (hy : a.eval y = .agg vs.toArray) (T' : TypeId) (olds : List Value) (hr : VRow w B T' olds) (n : Nat)
    (hi : (Tryz.prog.info? T).map (·.size) = some n) (hn : vs.length = n) (ho' : olds.length = n) (h1 : ∀ v ∈ vs, v.oneCell' = true)
    (h : ∀ w', Only B w w' → VRow w' B T' vs → wpList Tryz.prog ops Q rest (a.put o.dst undef) w') : wpList Tryz.prog ops Q (o :: rest) a w := by
  refine wpList_store_row hgd T x y ho B vs.toArray hx hy T' olds.toArray hr (by rw [hi]; simp [hn]) (by simp [hn, ho']) (all_oneCell_toArray h1) (h _ ?_ ?_)
  · exact ⟨rfl, rfl, rfl, by simp, fun j hj => setRow_other w B j _ hj⟩
  · exact setRow_heap w B olds.toArray _ T' (0, 0) hr

/-- A result in a row and one in a slot. -/
theorem results_row_int {fn : Func} {p q : Tmp} {ty : TypeId} (h : fn.results = #[.cell p ty, .tmp q]) (tmps : Array Value) (w : World) (g : Nat) (T : TypeId) (vs : List Value) {v : Value}
    (hp : tmps.getD p undef = .pointer (some ⟨g, 0, none⟩)) (hq : tmps.getD q undef = v) (hr : VRow w g T vs) (n m : Nat) (e : TypeId) (hu : Tryz.prog.underlying ty = some (.array m e))
    (hi : (Tryz.prog.info? ty).map (·.size) = some n) (hn : vs.length = n) : (results fn tmps).run Tryz.prog w = .ok (.tuple #[.agg vs.toArray, v]) w := by
  rw [results_cell_tmp h, hp, hq]
  simp only [asAddr, Sem.run_pure, Result.andThen_ok, run_loadVar_row w g T ty vs.toArray (0, 0) _ hr hu rfl (by rw [hi]; simp [hn])]

theorem size130 : (Tryz.prog.info? 130).map (·.size) = some 4 := by kernel_rfl

/-- Up to four texts, and empty ones behind them. -/
def row4 (cs : List Pt.Bs) : List Value := (cs ++ List.replicate (4 - cs.length) []).map str
theorem row4_len (cs : List Pt.Bs) (h : cs.length ≤ 4) : (row4 cs).length = 4 := by simp [row4]; omega
theorem row4_one (cs : List Pt.Bs) : ∀ v ∈ row4 cs, v.oneCell' = true := by
  intro v hv
  obtain ⟨x, _, rfl⟩ := List.mem_map.1 hv
  rfl
theorem row4_set (cs : List Pt.Bs) (p : Pt.Bs) (h : cs.length < 4) : (row4 cs).set cs.length (str p) = row4 (cs ++ [p]) := by
  unfold row4
  rw [← List.map_set]
  congr 1
  obtain ⟨n, hn⟩ : ∃ n, 4 - cs.length = n + 1 := ⟨3 - cs.length, by omega⟩
  rw [hn, List.set_append_right _ _ (Nat.le_refl _), Nat.sub_self, List.replicate_succ, List.set_cons_zero, List.append_assoc]
  simp
  omega
theorem row4_get (cs : List Pt.Bs) (k : Nat) (p : Pt.Bs) (h : cs[k]? = some p) : (row4 cs)[k]? = some (str p) := by
  have hk : k < cs.length := (List.getElem?_eq_some_iff.1 h).1
  unfold row4
  rw [List.getElem?_map, List.getElem?_append_left hk, h]
  rfl
theorem row4_old (cs : List Pt.Bs) (k : Nat) (h : k < 4) (hc : cs.length ≤ 4) : ∃ p, (row4 cs)[k]? = some (str p) := by
  have hk : k < (cs ++ List.replicate (4 - cs.length) ([] : Pt.Bs)).length := by simp; omega
  exact ⟨_, by unfold row4; rw [List.getElem?_map, List.getElem?_eq_getElem hk]; rfl⟩
theorem run_build130 (w : World) : (Instr.build 130 #[]).run Tryz.prog w = .ok (.agg (row4 []).toArray) w := by kernel_rfl
end Go.Proofs.YtebjlmnhpfoglaaGreatDoor.Pth

/-
  What split answers: a path's names and how many these are; of other texts none.
-/

namespace Go.Proofs.YtebjlmnhpfoglaaGreatDoor.Pth
open Go.RowKit

theorem piece_cases (p : ByteArray) (n : Nat) (hn : n ≤ 4) :
    p.toList.isEmpty = true ∨ (p.toList.isEmpty = false ∧ (p.toList == [46]) = true) ∨ (p.toList.isEmpty = false ∧ (p.toList == [46]) = false ∧ (p.toList == [46, 46]) = true) ∨
    (p.toList.isEmpty = false ∧ (p.toList == [46]) = false ∧ (p.toList == [46, 46]) = false ∧ n = 4) ∨ (p.toList.isEmpty = false ∧ (p.toList == [46]) = false ∧ (p.toList == [46, 46]) = false ∧ n < 4) := by
  cases p.toList.isEmpty with
  | true => exact .inl rfl
  | false =>
    cases (p.toList == [46]) with
    | true => exact .inr (.inl ⟨rfl, rfl⟩)
    | false =>
      cases (p.toList == [46, 46]) with
      | true => exact .inr (.inr (.inl ⟨rfl, rfl, rfl⟩))
      | false =>
        rcases Nat.lt_or_ge n 4 with h | h
        · exact .inr (.inr (.inr (.inr ⟨rfl, rfl, rfl, h⟩)))
        · exact .inr (.inr (.inr (.inl ⟨rfl, rfl, rfl, by omega⟩)))

theorem not_name (l : Pt.Bs) (h : l.isEmpty = true ∨ (l == [46]) = true ∨ (l == [46, 46]) = true) : Pt.isName l = false := by
  cases hN : Pt.isName l with
  | false => rfl
  | true =>
    exfalso
    obtain ⟨h1, _, h2, h3, _⟩ := (Pt.isName_iff l).1 hN
    rcases h with h | h | h
    · rw [List.isEmpty_iff] at h; rw [h] at h1; simp at h1
    · exact h2 (beq_iff_eq.1 h)
    · exact h3 (beq_iff_eq.1 h)

theorem yes_name (l : Pt.Bs) (h1 : l.isEmpty = false) (h2 : (l == [46]) = false) (h3 : (l == [46, 46]) = false) (h4 : l.length ≤ 12) (h5 : ∀ x ∈ l, Pt.sign x = true) : Pt.isName l = true := by
  refine (Pt.isName_iff l).2 ⟨?_, h4, ?_, ?_, h5⟩
  · cases l with
    | nil => cases h1
    | cons a t => simp
  · intro h; rw [h] at h2; cases h2
  · intro h; rw [h] at h3; cases h3

theorem piece_list (s : ByteArray) (k e : Nat) : (s.extract k e).toList = (s.data.toList.drop k).take (e - k) := by
  rw [Lib.toList_data, ByteArray.data_extract, Array.toList_extract, List.extract_eq_take_drop]

theorem piece_str (s : ByteArray) (k e : Nat) : str ((s.data.toList.drop k).take (e - k)) = .string (s.extract k e) := by
  rw [← piece_list, Lib.toList_data, str_data]

theorem signs_more (l : Pt.Bs) (k e : Nat) (hke : k ≤ e) (he : e < l.length) (h : ∀ x ∈ (l.drop k).take (e - k), Pt.sign x = true) (hx : Pt.sign l[e] = true) : ∀ x ∈ (l.drop k).take (e + 1 - k), Pt.sign x = true := by
  have e1 : (l.drop k).take (e + 1 - k) = (l.drop k).take (e - k) ++ [l[e]] := by
    rw [show e + 1 - k = (e - k) + 1 by omega, List.take_succ_eq_append_getElem (by rw [List.length_drop]; omega), List.getElem_drop]
    congr 2
    congr 1
    omega
  rw [e1]
  intro x hm
  rcases List.mem_append.1 hm with hm | hm
  · exact h x hm
  · rw [List.mem_singleton.1 hm]; exact hx

theorem lit_slash : (⟨#[47]⟩ : ByteArray)[0].toNat = 47 := rfl

set_option maxRecDepth 100000 in
set_option maxHeartbeats 2000000 in
theorem split_any (s : ByteArray) (hs : s.size ≤ 100000) (w : World) :
    Calls Tryz.prog 94 #[.string s] w fun e w' => e = .returned (.tuple #[.agg (row4 (Pt.parts s.data.toList)).toArray, .int .i64 ((Pt.parts s.data.toList).length : Nat)]) ∧ Below w.heap.size w w' := by
  have hbd := run_build130
  obtain ⟨PS, hPS⟩ : ∃ PS, Pt.parts s.data.toList = PS := ⟨_, rfl⟩
  rw [hPS]
  have hP4 : PS.length ≤ 4 := by rw [← hPS]; exact Pt.parts_le _
  have HPS := hide hPS
  clear hPS
  go_enter Tryz.func94, Tryz.ntmps94
  go_wp2_with fail
  go_step3
  go_wp2_with fail
  go_step3
  go_wp2_with fail
  go_loopw [3, 4] (fun c i wr => ∃ (k : Nat) (cs : List Pt.Bs), k ≤ s.size + 1 ∧ c = .int .i64 (cs.length : Nat) ∧ i = .int .i64 k ∧ Pt.Sofar s.data.toList k cs ∧ VRow wr w.heap.size 130 (row4 cs) ∧ Below w.heap.size w wr) (fun _ i _ => s.size + 1 - (intOf i).toNat)
  case atStart => exact ⟨0, [], Nat.zero_le _, rfl, rfl, Pt.Sofar.zero _, VRow.new w 130 (row4 []), (Below.refl _ _).alloc (Nat.le_refl _) _⟩
  case round =>
    obtain ⟨k, cs, hk, rfl, rfl, hso, hrow, hbl⟩ := hrel
    have HS := hide hso
    have HR := hide hrow
    have HB := hide hbl
    have hc4 : cs.length ≤ 4 := hso.few
    have HL := hide (row4_len cs hc4)
    clear hso hrow hbl
    by_cases hle : k ≤ s.size
    · go_wp2_with fail
      go_loopw [5] (fun i wq => ∃ e q : Nat, k ≤ e ∧ e ≤ s.size ∧ e ≤ k + 12 ∧ i = .int .i64 e ∧ (∀ x ∈ (s.data.toList.drop k).take (e - k), Pt.sign x = true) ∧ wq = wr.drewN q) (fun i _ => s.size - (intOf i).toNat)
      case atStart => exact ⟨k, 0, Nat.le_refl _, hle, by omega, rfl, by simp, rfl⟩
      case round =>
        obtain ⟨e, q, hke, hes, hek, rfl, hsg, rfl⟩ := hrel
        have HG := hide hsg
        clear hsg
        by_cases he : e < s.size
        · by_cases h47 : s[e] = 47
          · have h47i : (s[e].toNat : Int) = 47 := by rw [h47]; rfl
            have HE : Hid (e = s.data.toList.length ∨ s.data.toList[e]? = some 47) := hide (.inr (by rw [List.getElem?_eq_getElem he]; exact congrArg some h47))
            clear h47
            have HX := hide (piece_list s k e)
            have HY := hide (piece_str s k e)
            rcases piece_cases (s.extract k e) cs.length hc4 with b1 | ⟨b1, b2⟩ | ⟨b1, b2, b3⟩ | ⟨b1, b2, b3, b4⟩ | ⟨b1, b2, b3, b4⟩
            · have hpf := (unhide HS).stop hke hes (fun x hx => Pt.sign_slash x (unhide HG x hx)) (unhide HE) (.inl (not_name _ (by rw [← unhide HX]; exact .inl b1)))
              obtain rfl : PS = [] := by rw [← unhide HPS, Pt.parts_none _ hpf]
              clear hpf
              go_wp2_with fail
              go_quiet (fail)
              go_wp2_with (refine store_row (by rfl) 130 _ _ (by rfl) w.heap.size (row4 []) (by rfl) (by rfl) 130 (row4 cs) ((unhide HR).drewN _) 4 size130 rfl (unhide HL) (row4_one _) ?_; intro w6 ho6 hr6; have HO6 := hide ho6; have HR6 := hide hr6; clear ho6 hr6)
              rw [Exit.noGoto_ret]
              refine bodyPost_ret (v := .tuple #[.agg (row4 []).toArray, .int .i64 0]) ?_ rfl ⟨rfl, ?_⟩
              · exact results_row_int rfl _ _ w.heap.size 130 _ rfl rfl (unhide HR6) 4 4 9 Tryz.underlying130 size130 rfl
              · exact (below_drewN (unhide HB) _).trans ((unhide HO6).below (Nat.le_refl _))
            · have hpf := (unhide HS).stop hke hes (fun x hx => Pt.sign_slash x (unhide HG x hx)) (unhide HE) (.inl (not_name _ (by rw [← unhide HX]; exact .inr (.inl b2))))
              obtain rfl : PS = [] := by rw [← unhide HPS, Pt.parts_none _ hpf]
              clear hpf
              go_wp2_with fail
              go_quiet (fail)
              go_wp2_with (refine store_row (by rfl) 130 _ _ (by rfl) w.heap.size (row4 []) (by rfl) (by rfl) 130 (row4 cs) ((unhide HR).drewN _) 4 size130 rfl (unhide HL) (row4_one _) ?_; intro w6 ho6 hr6; have HO6 := hide ho6; have HR6 := hide hr6; clear ho6 hr6)
              rw [Exit.noGoto_ret]
              refine bodyPost_ret (v := .tuple #[.agg (row4 []).toArray, .int .i64 0]) ?_ rfl ⟨rfl, ?_⟩
              · exact results_row_int rfl _ _ w.heap.size 130 _ rfl rfl (unhide HR6) 4 4 9 Tryz.underlying130 size130 rfl
              · exact (below_drewN (unhide HB) _).trans ((unhide HO6).below (Nat.le_refl _))
            · have hpf := (unhide HS).stop hke hes (fun x hx => Pt.sign_slash x (unhide HG x hx)) (unhide HE) (.inl (not_name _ (by rw [← unhide HX]; exact .inr (.inr b3))))
              obtain rfl : PS = [] := by rw [← unhide HPS, Pt.parts_none _ hpf]
              clear hpf
              go_wp2_with fail
              go_quiet (fail)
              go_wp2_with (refine store_row (by rfl) 130 _ _ (by rfl) w.heap.size (row4 []) (by rfl) (by rfl) 130 (row4 cs) ((unhide HR).drewN _) 4 size130 rfl (unhide HL) (row4_one _) ?_; intro w6 ho6 hr6; have HO6 := hide ho6; have HR6 := hide hr6; clear ho6 hr6)
              rw [Exit.noGoto_ret]
              refine bodyPost_ret (v := .tuple #[.agg (row4 []).toArray, .int .i64 0]) ?_ rfl ⟨rfl, ?_⟩
              · exact results_row_int rfl _ _ w.heap.size 130 _ rfl rfl (unhide HR6) 4 4 9 Tryz.underlying130 size130 rfl
              · exact (below_drewN (unhide HB) _).trans ((unhide HO6).below (Nat.le_refl _))
            · have hpf := (unhide HS).stop hke hes (fun x hx => Pt.sign_slash x (unhide HG x hx)) (unhide HE) (.inr b4)
              obtain rfl : PS = [] := by rw [← unhide HPS, Pt.parts_none _ hpf]
              have b4i : ((cs.length : Int) == 4) = true := by rw [beq_iff_eq]; omega
              clear hpf b4
              go_wp2_with fail
              go_quiet (fail)
              go_wp2_with (refine store_row (by rfl) 130 _ _ (by rfl) w.heap.size (row4 []) (by rfl) (by rfl) 130 (row4 cs) ((unhide HR).drewN _) 4 size130 rfl (unhide HL) (row4_one _) ?_; intro w6 ho6 hr6; have HO6 := hide ho6; have HR6 := hide hr6; clear ho6 hr6)
              rw [Exit.noGoto_ret]
              refine bodyPost_ret (v := .tuple #[.agg (row4 []).toArray, .int .i64 0]) ?_ rfl ⟨rfl, ?_⟩
              · exact results_row_int rfl _ _ w.heap.size 130 _ rfl rfl (unhide HR6) 4 4 9 Tryz.underlying130 size130 rfl
              · exact (below_drewN (unhide HB) _).trans ((unhide HO6).below (Nat.le_refl _))
            · have hnm : Pt.isName ((s.data.toList.drop k).take (e - k)) = true := yes_name _ (by rw [← unhide HX]; exact b1) (by rw [← unhide HX]; exact b2) (by rw [← unhide HX]; exact b3) (by rw [List.length_take]; omega) (unhide HG)
              have HS2 := hide ((unhide HS).step hke hes (unhide HE) hnm b4)
              have b4i : ((cs.length : Int) == 4) = false := by
                cases h : ((cs.length : Int) == 4) with
                | false => rfl
                | true => rw [beq_iff_eq] at h; omega
              obtain ⟨po, hpo⟩ := row4_old cs cs.length b4 hc4
              have c0 : wr.cell? ⟨w.heap.size, cs.length, none⟩ = some (str po) := (unhide HR).cell cs.length _ hpo
              have f0 := (unhide HR).frozen cs.length
              have HR2 : Hid (∀ n, VRow ((wr.drewN n).setCell ⟨w.heap.size, cs.length, none⟩ (.string (s.extract k e))) w.heap.size 130 (row4 (cs ++ [(s.data.toList.drop k).take (e - k)]))) := by
                intro n
                rw [← row4_set cs _ b4, unhide HY]
                exact ((unhide HR).drewN n).set _ _
              clear hnm hpo
              go_wp2_with fail
              go_quiet (fail)
              go_wp2_with fail
              go_roundw
              case rel => exact ⟨e + 1, cs ++ [(s.data.toList.drop k).take (e - k)], by omega, by rw [List.length_append]; go_num, by go_num, unhide HS2, unhide HR2 _, (below_drewN (unhide HB) _).setCell (p := ⟨w.heap.size, cs.length, none⟩) (Nat.le_refl _) _⟩
              case measure => simp [intOf]; omega
          · have h47i : ((s[e].toNat : Int) != ((⟨#[47]⟩ : ByteArray)[0].toNat : Int)) = true := by
              rw [lit_slash, bne_iff_ne]
              intro h
              exact absurd (UInt8.toNat_inj.1 (by show s[e].toNat = 47; omega)) h47
            have h3 := hide (sign_any s[e])
            cases hsi : Pt.sign s[e] with
            | false =>
              rw [hsi] at h3
              have hpf := (unhide HS).break_ hke he (fun x hx => Pt.sign_slash x (unhide HG x hx)) h47 (.inl hsi)
              obtain rfl : PS = [] := by rw [← unhide HPS, Pt.parts_none _ hpf]
              clear hpf h47 hsi
              go_wp2_with fail
              go_quiet (fail)
              go_wp2_with (first
                | (go_at_call 119; refine (unhide h3 _).mono ?_; rintro e w' ⟨rfl, rfl⟩)
                | (refine store_row (by rfl) 130 _ _ (by rfl) w.heap.size (row4 []) (by rfl) (by rfl) 130 (row4 cs) ((unhide HR).drewN _) 4 size130 rfl (unhide HL) (row4_one _) ?_; intro w6 ho6 hr6; have HO6 := hide ho6; have HR6 := hide hr6; clear ho6 hr6))
              rw [Exit.noGoto_ret]
              refine bodyPost_ret (v := .tuple #[.agg (row4 []).toArray, .int .i64 0]) ?_ rfl ⟨rfl, ?_⟩
              · exact results_row_int rfl _ _ w.heap.size 130 _ rfl rfl (unhide HR6) 4 4 9 Tryz.underlying130 size130 rfl
              · exact (below_drewN (unhide HB) _).trans ((unhide HO6).below (Nat.le_refl _))
            | true =>
              rw [hsi] at h3
              by_cases h12 : e - k = 12
              · have hpf := (unhide HS).break_ hke he (fun x hx => Pt.sign_slash x (unhide HG x hx)) h47 (.inr h12)
                obtain rfl : PS = [] := by rw [← unhide HPS, Pt.parts_none _ hpf]
                have h12i : ((e : Int) - (k : Int) == 12) = true := by rw [beq_iff_eq]; omega
                clear hpf h47 hsi h12
                go_wp2_with fail
                go_quiet (fail)
                go_wp2_with (first
                  | (go_at_call 119; refine (unhide h3 _).mono ?_; rintro e w' ⟨rfl, rfl⟩)
                  | (refine store_row (by rfl) 130 _ _ (by rfl) w.heap.size (row4 []) (by rfl) (by rfl) 130 (row4 cs) ((unhide HR).drewN _) 4 size130 rfl (unhide HL) (row4_one _) ?_; intro w6 ho6 hr6; have HO6 := hide ho6; have HR6 := hide hr6; clear ho6 hr6))
                rw [Exit.noGoto_ret]
                refine bodyPost_ret (v := .tuple #[.agg (row4 []).toArray, .int .i64 0]) ?_ rfl ⟨rfl, ?_⟩
                · exact results_row_int rfl _ _ w.heap.size 130 _ rfl rfl (unhide HR6) 4 4 9 Tryz.underlying130 size130 rfl
                · exact (below_drewN (unhide HB) _).trans ((unhide HO6).below (Nat.le_refl _))
              · have h12i : ((e : Int) - (k : Int) == 12) = false := by
                  cases h : ((e : Int) - (k : Int) == 12) with
                  | false => rfl
                  | true => rw [beq_iff_eq] at h; omega
                have HG2 := hide (signs_more s.data.toList k e hke he (unhide HG) hsi)
                clear h47 hsi
                go_wp2_with fail
                go_quiet (fail)
                go_wp2_with (go_at_call 119; refine (unhide h3 _).mono ?_; rintro e w' ⟨rfl, rfl⟩)
                go_roundw
                case rel => exact ⟨e + 1, q + nq, by omega, by omega, by omega, by go_num, unhide HG2, by first | rfl | rw [World.drewN_drewN]⟩
                case measure => simp [intOf]; omega
        · obtain rfl : e = s.size := by omega
          have HE : Hid (s.size = s.data.toList.length ∨ s.data.toList[s.size]? = some 47) := hide (.inl rfl)
          have HX := hide (piece_list s k s.size)
          have HY := hide (piece_str s k s.size)
          rcases piece_cases (s.extract k s.size) cs.length hc4 with b1 | ⟨b1, b2⟩ | ⟨b1, b2, b3⟩ | ⟨b1, b2, b3, b4⟩ | ⟨b1, b2, b3, b4⟩
          · have hpf := (unhide HS).stop hke hes (fun x hx => Pt.sign_slash x (unhide HG x hx)) (unhide HE) (.inl (not_name _ (by rw [← unhide HX]; exact .inl b1)))
            obtain rfl : PS = [] := by rw [← unhide HPS, Pt.parts_none _ hpf]
            clear hpf
            go_wp2_with fail
            go_quiet (fail)
            go_wp2_with (refine store_row (by rfl) 130 _ _ (by rfl) w.heap.size (row4 []) (by rfl) (by rfl) 130 (row4 cs) ((unhide HR).drewN _) 4 size130 rfl (unhide HL) (row4_one _) ?_; intro w6 ho6 hr6; have HO6 := hide ho6; have HR6 := hide hr6; clear ho6 hr6)
            rw [Exit.noGoto_ret]
            refine bodyPost_ret (v := .tuple #[.agg (row4 []).toArray, .int .i64 0]) ?_ rfl ⟨rfl, ?_⟩
            · exact results_row_int rfl _ _ w.heap.size 130 _ rfl rfl (unhide HR6) 4 4 9 Tryz.underlying130 size130 rfl
            · exact (below_drewN (unhide HB) _).trans ((unhide HO6).below (Nat.le_refl _))
          · have hpf := (unhide HS).stop hke hes (fun x hx => Pt.sign_slash x (unhide HG x hx)) (unhide HE) (.inl (not_name _ (by rw [← unhide HX]; exact .inr (.inl b2))))
            obtain rfl : PS = [] := by rw [← unhide HPS, Pt.parts_none _ hpf]
            clear hpf
            go_wp2_with fail
            go_quiet (fail)
            go_wp2_with (refine store_row (by rfl) 130 _ _ (by rfl) w.heap.size (row4 []) (by rfl) (by rfl) 130 (row4 cs) ((unhide HR).drewN _) 4 size130 rfl (unhide HL) (row4_one _) ?_; intro w6 ho6 hr6; have HO6 := hide ho6; have HR6 := hide hr6; clear ho6 hr6)
            rw [Exit.noGoto_ret]
            refine bodyPost_ret (v := .tuple #[.agg (row4 []).toArray, .int .i64 0]) ?_ rfl ⟨rfl, ?_⟩
            · exact results_row_int rfl _ _ w.heap.size 130 _ rfl rfl (unhide HR6) 4 4 9 Tryz.underlying130 size130 rfl
            · exact (below_drewN (unhide HB) _).trans ((unhide HO6).below (Nat.le_refl _))
          · have hpf := (unhide HS).stop hke hes (fun x hx => Pt.sign_slash x (unhide HG x hx)) (unhide HE) (.inl (not_name _ (by rw [← unhide HX]; exact .inr (.inr b3))))
            obtain rfl : PS = [] := by rw [← unhide HPS, Pt.parts_none _ hpf]
            clear hpf
            go_wp2_with fail
            go_quiet (fail)
            go_wp2_with (refine store_row (by rfl) 130 _ _ (by rfl) w.heap.size (row4 []) (by rfl) (by rfl) 130 (row4 cs) ((unhide HR).drewN _) 4 size130 rfl (unhide HL) (row4_one _) ?_; intro w6 ho6 hr6; have HO6 := hide ho6; have HR6 := hide hr6; clear ho6 hr6)
            rw [Exit.noGoto_ret]
            refine bodyPost_ret (v := .tuple #[.agg (row4 []).toArray, .int .i64 0]) ?_ rfl ⟨rfl, ?_⟩
            · exact results_row_int rfl _ _ w.heap.size 130 _ rfl rfl (unhide HR6) 4 4 9 Tryz.underlying130 size130 rfl
            · exact (below_drewN (unhide HB) _).trans ((unhide HO6).below (Nat.le_refl _))
          · have hpf := (unhide HS).stop hke hes (fun x hx => Pt.sign_slash x (unhide HG x hx)) (unhide HE) (.inr b4)
            obtain rfl : PS = [] := by rw [← unhide HPS, Pt.parts_none _ hpf]
            have b4i : ((cs.length : Int) == 4) = true := by rw [beq_iff_eq]; omega
            clear hpf b4
            go_wp2_with fail
            go_quiet (fail)
            go_wp2_with (refine store_row (by rfl) 130 _ _ (by rfl) w.heap.size (row4 []) (by rfl) (by rfl) 130 (row4 cs) ((unhide HR).drewN _) 4 size130 rfl (unhide HL) (row4_one _) ?_; intro w6 ho6 hr6; have HO6 := hide ho6; have HR6 := hide hr6; clear ho6 hr6)
            rw [Exit.noGoto_ret]
            refine bodyPost_ret (v := .tuple #[.agg (row4 []).toArray, .int .i64 0]) ?_ rfl ⟨rfl, ?_⟩
            · exact results_row_int rfl _ _ w.heap.size 130 _ rfl rfl (unhide HR6) 4 4 9 Tryz.underlying130 size130 rfl
            · exact (below_drewN (unhide HB) _).trans ((unhide HO6).below (Nat.le_refl _))
          · have hnm : Pt.isName ((s.data.toList.drop k).take (s.size - k)) = true := yes_name _ (by rw [← unhide HX]; exact b1) (by rw [← unhide HX]; exact b2) (by rw [← unhide HX]; exact b3) (by rw [List.length_take]; omega) (unhide HG)
            have HS2 := hide ((unhide HS).step hke hes (unhide HE) hnm b4)
            have b4i : ((cs.length : Int) == 4) = false := by
              cases h : ((cs.length : Int) == 4) with
              | false => rfl
              | true => rw [beq_iff_eq] at h; omega
            obtain ⟨po, hpo⟩ := row4_old cs cs.length b4 hc4
            have c0 : wr.cell? ⟨w.heap.size, cs.length, none⟩ = some (str po) := (unhide HR).cell cs.length _ hpo
            have f0 := (unhide HR).frozen cs.length
            have HR2 : Hid (∀ n, VRow ((wr.drewN n).setCell ⟨w.heap.size, cs.length, none⟩ (.string (s.extract k s.size))) w.heap.size 130 (row4 (cs ++ [(s.data.toList.drop k).take (s.size - k)]))) := by
              intro n
              rw [← row4_set cs _ b4, unhide HY]
              exact ((unhide HR).drewN n).set _ _
            clear hnm hpo
            go_wp2_with fail
            go_quiet (fail)
            go_wp2_with fail
            go_roundw
            case rel => exact ⟨s.size + 1, cs ++ [(s.data.toList.drop k).take (s.size - k)], by omega, by rw [List.length_append]; go_num, by go_num, unhide HS2, unhide HR2 _, (below_drewN (unhide HB) _).setCell (p := ⟨w.heap.size, cs.length, none⟩) (Nat.le_refl _) _⟩
            case measure => simp [intOf]; omega
    · obtain rfl : k = s.size + 1 := by omega
      obtain ⟨hp, hpc⟩ := (unhide HS).done (by show s.size < _; omega)
      have hPc : PS = cs := by rw [← unhide HPS, Pt.parts_path _ hp, hpc]
      subst hPc
      clear hp hpc
      go_wp2_with (first
        | (refine load_row (by rfl) 130 _ (by rfl) w.heap.size (by rfl) 130 _ (unhide HR) 4 4 9 Tryz.underlying130 size130 (row4_len _ hP4) ?_)
        | (refine store_row (by rfl) 130 _ _ (by rfl) w.heap.size (row4 PS) (by rfl) (by rfl) 130 (row4 PS) (unhide HR) 4 size130 (row4_len _ hP4) (row4_len _ hP4) (row4_one _) ?_; intro w6 ho6 hr6; have HO6 := hide ho6; have HR6 := hide hr6; clear ho6 hr6))
      rw [Exit.noGoto_ret]
      refine bodyPost_ret (v := .tuple #[.agg (row4 PS).toArray, .int .i64 (PS.length : Nat)]) ?_ rfl ⟨rfl, ?_⟩
      · exact results_row_int rfl _ _ w.heap.size 130 _ rfl rfl (unhide HR6) 4 4 9 Tryz.underlying130 size130 (row4_len _ hP4)
      · exact (unhide HB).trans ((unhide HO6).below (Nat.le_refl _))
end Go.Proofs.YtebjlmnhpfoglaaGreatDoor.Pth

/-
  What Name, isPath, Check and long answer, and that chapter 4's examples hold.
-/

namespace Go.Proofs.YtebjlmnhpfoglaaGreatDoor.Pth
open Go.RowKit

theorem below_grow {n : Nat} {w w1 w2 : World} (h : Below n w w1) (hn : n ≤ w.heap.size) (h2 : Below w1.heap.size w1 w2) : Below n w w2 := h.trans (h2.mono (Nat.le_trans hn h.size))

set_option maxRecDepth 100000 in
set_option maxHeartbeats 1000000 in
theorem name_any (s : ByteArray) (hs : s.size ≤ 100000) (w : World) :
    Calls Tryz.prog 166 #[.string s] w fun e w' => e = .returned (.bool (Pt.isName s.data.toList)) ∧ Below w.heap.size w w' := by
  have HC := hide (split_any s hs)
  have HN := hide (Pt.parts_one s.data.toList)
  have hP4 := Pt.parts_le s.data.toList
  obtain ⟨PS, hPS⟩ : ∃ PS, Pt.parts s.data.toList = PS := ⟨_, rfl⟩
  rw [hPS] at HC HN hP4
  have HL := hide (row4_len PS hP4)
  have H1 := hide (row4_one PS)
  generalize row4 PS = R at HC HL H1
  clear hPS hs
  go_enter Tryz.func166, Tryz.ntmps166
  go_wp2_with (first
    | (go_at_call 94; refine (unhide HC _).mono ?_; rintro e w1 ⟨rfl, hb1⟩; have HB1 := hide hb1; clear hb1)
    | (refine store_row (by rfl) 130 _ _ (by rfl) w1.heap.size R (by rfl) (by rfl) 130 (row4 []) (VRow.newAt rfl) 4 size130 (unhide HL) rfl (unhide H1) ?_; intro w2 ho2 hr2; have HB2 := hide (((unhide HB1).alloc (unhide HB1).size _).trans (ho2.below (unhide HB1).size)); clear ho2 hr2))
  go_ret
  refine ⟨ret_bool ?_, unhide HB2⟩
  rw [← unhide HN, Bool.eq_iff_iff, beq_iff_eq, decide_eq_true_eq]
  omega

set_option maxRecDepth 100000 in
set_option maxHeartbeats 1000000 in
theorem isPath_any (s : ByteArray) (hs : s.size ≤ 100000) (w : World) :
    Calls Tryz.prog 61 #[.string s] w fun e w' => e = .returned (.bool (Pt.isPath s.data.toList)) ∧ Below w.heap.size w w' := by
  have HC := hide (split_any s hs)
  have HN := hide (Pt.parts_pos s.data.toList)
  have hP4 := Pt.parts_le s.data.toList
  obtain ⟨PS, hPS⟩ : ∃ PS, Pt.parts s.data.toList = PS := ⟨_, rfl⟩
  rw [hPS] at HC HN hP4
  have HL := hide (row4_len PS hP4)
  have H1 := hide (row4_one PS)
  generalize row4 PS = R at HC HL H1
  clear hPS hs
  go_enter Tryz.func61, Tryz.ntmps61
  go_wp2_with (first
    | (go_at_call 94; refine (unhide HC _).mono ?_; rintro e w1 ⟨rfl, hb1⟩; have HB1 := hide hb1; clear hb1)
    | (refine store_row (by rfl) 130 _ _ (by rfl) w1.heap.size R (by rfl) (by rfl) 130 (row4 []) (VRow.newAt rfl) 4 size130 (unhide HL) rfl (unhide H1) ?_; intro w2 ho2 hr2; have HB2 := hide (((unhide HB1).alloc (unhide HB1).size _).trans (ho2.below (unhide HB1).size)); clear ho2 hr2))
  go_ret
  refine ⟨ret_bool ?_, unhide HB2⟩
  rw [← unhide HN]

set_option maxRecDepth 100000 in
set_option maxHeartbeats 400000 in
theorem check_any (s : ByteArray) (hs : s.size ≤ 100000) (w : World) :
    Calls Tryz.prog 34 #[.string s] w fun e w' => e = .returned (.int .i64 (Pt.check s.data.toList)) ∧ Below w.heap.size w w' := by
  have HC := hide (isPath_any s hs)
  have hsz : s.data.toList.length = s.size := rfl
  unfold Pt.check
  rw [hsz]
  by_cases h51 : 51 < s.size
  · rw [if_pos h51]
    clear hsz
    go_enter Tryz.func34, Tryz.ntmps34
    go_wp2_with fail
    go_ret
    exact ⟨rfl, Below.refl _ _⟩
  · rw [if_neg h51]
    cases hp : Pt.isPath s.data.toList with
    | true =>
      rw [hp] at HC
      rw [if_pos rfl]
      clear hsz hp
      go_enter Tryz.func34, Tryz.ntmps34
      go_wp2_with (go_at_call 61; refine (unhide HC _).mono ?_; rintro e w1 ⟨rfl, hb1⟩; have HB1 := hide hb1; clear hb1)
      go_ret
      exact ⟨rfl, unhide HB1⟩
    | false =>
      rw [hp] at HC
      rw [if_neg (by decide)]
      clear hsz hp
      go_enter Tryz.func34, Tryz.ntmps34
      go_wp2_with (go_at_call 61; refine (unhide HC _).mono ?_; rintro e w1 ⟨rfl, hb1⟩; have HB1 := hide hb1; clear hb1)
      go_ret
      exact ⟨rfl, unhide HB1⟩

end Go.Proofs.YtebjlmnhpfoglaaGreatDoor.Pth
