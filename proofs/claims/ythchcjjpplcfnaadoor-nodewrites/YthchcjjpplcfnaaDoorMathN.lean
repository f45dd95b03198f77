/-
  Plain facts on nodes: whether one may be, its bytes, and the node that bytes are. Conditions: none but those that each theorem names.
-/
import Derived.Test.YthchcjjpplcfnaaDoorMathB
import Derived.Test.YthchcjjpplcfnaaDoorQMath
import Derived.Lib.Strings
namespace Go.Proofs.YthchcjjpplcfnaaDoor
open Go.RowKit

/-- A kid: a name, and a digest. -/
abbrev Kd := ByteArray × List UInt8
structure Nd where
  vs : List Vc.V
  ks : List Kd
def isN (s : ByteArray) : Bool := Pth.Pt.isName s.data.toList
def leqB (a b : ByteArray) : Bool := Go.Op.bytesLess a.toList b.toList || (a.toList == b.toList)
def kidErr (prev : ByteArray) (k : Kd) : Int := if isN k.1 = false then 1 else if leqB k.1 prev = true then 8 else 0
def chkK : ByteArray → List Kd → Int
  | _, [] => 0
  | prev, k :: l => if kidErr prev k ≠ 0 then kidErr prev k else chkK k.1 l
def chkN (n : Nd) : Int := if Vc.checkLeaf n.vs ≠ 0 then Vc.checkLeaf n.vs else if 128 < n.ks.length then 2 else chkK ⟨#[]⟩ n.ks
/-- Digests have 32 bytes. -/
def Digs (l : List Kd) : Prop := ∀ k ∈ l, k.2.length = 32
def prevK (l : List Kd) : Nat → ByteArray
  | 0 => ⟨#[]⟩
  | j + 1 => match l[j]? with
    | some k => k.1
    | none => ⟨#[]⟩
theorem prevK_at (l : List Kd) (j : Nat) (k : Kd) (h : l[j]? = some k) : prevK l (j + 1) = k.1 := by simp [prevK, h]
theorem chkK_step (l : List Kd) (j : Nat) (k : Kd) (h : l[j]? = some k) : chkK (prevK l j) (l.drop j) = if kidErr (prevK l j) k ≠ 0 then kidErr (prevK l j) k else chkK (prevK l (j + 1)) (l.drop (j + 1)) := by
  have hj := (List.getElem?_eq_some_iff.1 h).1
  rw [List.drop_eq_getElem_cons hj, prevK_at l j k h]
  rw [List.getElem?_eq_getElem hj] at h
  injection h with h
  rw [h]
  rfl
theorem chkK_end (l : List Kd) (p : ByteArray) : chkK p (l.drop l.length) = 0 := by rw [List.drop_length]; rfl
theorem leq_none {a : ByteArray} (h : isN a = true) : leqB a ⟨#[]⟩ = false := by
  have h1 := ((Pth.Pt.isName_iff _).1 h).1
  unfold leqB
  rw [Lib.toList_data a, Lib.toList_data ⟨#[]⟩]
  cases hd : a.data.toList with
  | nil => rw [hd] at h1; simp at h1
  | cons x l => rfl

/-! What is put. -/
def wKid (st : St) (k : Kd) : St := wDigest (wText st k.1) k.2
def wKids (st : St) (l : List Kd) : St := l.foldl wKid st
def wNode (n : Nd) : St := wKids (wNumber (wLeaf (fail ([], 0) (chkN n)) n.vs) n.ks.length) n.ks
def bytesN (n : Nd) : List UInt8 × Int := (told (wNode n), (wNode n).2)
theorem wDigest_bad' {st : St} (h : st.2 ≠ 0) (d : List UInt8) : wDigest st d = st := wput_bad h _ _
theorem wDigest_ok (b : List UInt8) (d : List UInt8) : wDigest (b, 0) d = (b ++ d, 0) := rfl
theorem wKid_bad {st : St} (h : st.2 ≠ 0) (k : Kd) : wKid st k = st := by
  unfold wKid
  rw [show wText st k.1 = st from wput_bad h _ _, wDigest_bad' h]
theorem wKids_bad {st : St} (h : st.2 ≠ 0) : ∀ l : List Kd, wKids st l = st
  | [] => rfl
  | k :: l => by
    show wKids (wKid st k) l = st
    rw [wKid_bad h, wKids_bad h l]
theorem wDigest_len' (st : St) {d : List UInt8} (hd : d.length = 32) : (wDigest st d).1.length ≤ st.1.length + 32 := by
  have := wput_len st true d
  simp only [if_true] at this
  unfold wDigest
  omega
theorem wKid_len (st : St) {k : Kd} (h : k.2.length = 32) : (wKid st k).1.length ≤ st.1.length + 65573 := by
  have h1 := wDigest_len' (wText st k.1) h
  have h2 := (wText_len st k.1).1
  unfold wKid
  omega
theorem wKids_snoc (st : St) (l : List Kd) (j : Nat) (k : Kd) (h : l[j]? = some k) : wKids st (l.take (j + 1)) = wKid (wKids st (l.take j)) k := by
  rw [List.take_add_one, h]
  simp [wKids]
theorem wKids_len : ∀ (l : List Kd) (st : St), Digs l → (wKids st l).1.length ≤ st.1.length + 65573 * l.length
  | [], st, _ => by simp [wKids]
  | k :: l, st, h => by
    have h1 := wKids_len l (wKid st k) fun x hx => h x (List.mem_cons_of_mem _ hx)
    have h2 := wKid_len st (h k (List.mem_cons_self ..))
    show (wKids (wKid st k) l).1.length ≤ _
    simp only [List.length_cons]
    omega
theorem wNode_bad {n : Nd} (h : chkN n ≠ 0) : wNode n = ([], chkN n) := by
  have e : fail ([], 0) (chkN n) = ([], chkN n) := rfl
  unfold wNode
  rw [e, wLeaf_stays h, wNumber_bad h, wKids_bad h]
theorem bytes_bad {n : Nd} (h : chkN n ≠ 0) : bytesN n = ([], chkN n) := by
  unfold bytesN
  rw [wNode_bad h]
  unfold told
  rw [if_pos h]
def encK (k : Kd) : List UInt8 := encT k.1.data.toList ++ k.2
def encKs (l : List Kd) : List UInt8 := (l.map encK).flatten
def encN (n : Nd) : List UInt8 := encLeaf n.vs ++ (Cnt.putL n.ks.length ++ encKs n.ks)
theorem encKs_snoc (l : List Kd) (x : Kd) : encKs (l ++ [x]) = encKs l ++ encK x := by simp [encKs]
theorem encKs_drop (l : List Kd) (j : Nat) (x : Kd) (h : l[j]? = some x) : encKs (l.drop j) = encK x ++ encKs (l.drop (j + 1)) := by
  have hk := (List.getElem?_eq_some_iff.1 h).1
  rw [List.drop_eq_getElem_cons hk]
  rw [List.getElem?_eq_getElem hk] at h
  injection h with h
  simp [encKs, h]
theorem chkN_zero {n : Nd} (h : chkN n = 0) : Vc.checkLeaf n.vs = 0 ∧ n.ks.length ≤ 128 ∧ chkK ⟨#[]⟩ n.ks = 0 := by
  unfold chkN at h
  by_cases h1 : Vc.checkLeaf n.vs ≠ 0
  · rw [if_pos h1] at h; exact absurd h h1
  · rw [if_neg h1] at h
    by_cases h2 : 128 < n.ks.length
    · rw [if_pos h2] at h; cases h
    · rw [if_neg h2] at h
      exact ⟨Classical.not_not.1 h1, by omega, h⟩
theorem kidErr_zero {p : ByteArray} {k : Kd} (h : kidErr p k = 0) : isN k.1 = true := by
  unfold kidErr at h
  cases hn : isN k.1 with
  | true => rfl
  | false => rw [hn] at h; simp at h
theorem isN_size {s : ByteArray} (h : isN s = true) : s.size ≤ 12 := by
  have := ((Pth.Pt.isName_iff _).1 h).2.1
  rw [size_data] at this
  exact this
theorem chkK_names : ∀ (l : List Kd) (p : ByteArray), chkK p l = 0 → ∀ k ∈ l, k.1.size ≤ 12
  | [], _, _, k, hk => by cases hk
  | a :: l, p, h, k, hk => by
    unfold chkK at h
    by_cases h1 : kidErr p a ≠ 0
    · rw [if_pos h1] at h; exact absurd h h1
    · rw [if_neg h1] at h
      rcases List.mem_cons.1 hk with rfl | hk
      · exact isN_size (kidErr_zero (Classical.not_not.1 h1))
      · exact chkK_names l a.1 h k hk
theorem wKid_ok (b : List UInt8) {k : Kd} (h : k.1.size ≤ 12) : wKid (b, 0) k = (b ++ encK k, 0) := by
  unfold wKid
  rw [wText_ok _ (by omega), wDigest_ok]
  simp [encK]
theorem wKids_ok : ∀ (l : List Kd) (b : List UInt8), (∀ k ∈ l, k.1.size ≤ 12) → wKids (b, 0) l = (b ++ encKs l, 0)
  | [], b, _ => by simp [wKids, encKs]
  | k :: l, b, h => by
    show wKids (wKid (b, 0) k) l = _
    rw [wKid_ok _ (h k (List.mem_cons_self ..)), wKids_ok l _ fun x hx => h x (List.mem_cons_of_mem _ hx)]
    simp [encKs]
theorem wNode_ok {n : Nd} (h : chkN n = 0) : wNode n = (encN n, 0) := by
  obtain ⟨h1, h2, h3⟩ := chkN_zero h
  unfold wNode
  rw [h, fail_zero, wLeaf_enc _ h1, wNumber_ok _ (by omega) (by omega), wKids_ok _ _ (chkK_names _ _ h3)]
  simp [encN]
theorem bytes_ok {n : Nd} (h : chkN n = 0) : bytesN n = (encN n, 0) := by
  unfold bytesN
  rw [wNode_ok h]
  rfl
theorem bytes_err (n : Nd) : (bytesN n).2 = chkN n := by
  by_cases h : chkN n = 0
  · rw [bytes_ok h, h]
  · rw [bytes_bad h]

/-! What is taken. -/
def rKid (st : St) : Kd × St := ((str (rText st 12).1, (rDigest (rText st 12).2).1), (rDigest (rText st 12).2).2)
def itK : Nat → St → List Kd × St
  | 0, st => ([], st)
  | k + 1, st => ((itK k st).1 ++ [(rKid (itK k st).2).1], (rKid (itK k st).2).2)
def rKids (st : St) : List Kd × St := itK (rNumber st 128).1.toNat (rNumber st 128).2
def readN (s : List UInt8) : Nd × Int :=
  if rDone (rKids (rLeaf (s, 0)).2).2 ≠ 0 then (⟨[], []⟩, rDone (rKids (rLeaf (s, 0)).2).2)
  else if chkN ⟨(rLeaf (s, 0)).1, (rKids (rLeaf (s, 0)).2).1⟩ ≠ 0 then (⟨[], []⟩, chkN ⟨(rLeaf (s, 0)).1, (rKids (rLeaf (s, 0)).2).1⟩)
  else (⟨(rLeaf (s, 0)).1, (rKids (rLeaf (s, 0)).2).1⟩, 0)
theorem rDigest_bad' {st : St} (h : st.2 ≠ 0) : (rDigest st).2 = st := by
  unfold rDigest
  rw [if_pos h]
theorem rDigest_dig (st : St) : (rDigest st).1.length = 32 := by
  unfold rDigest
  split
  · rfl
  · split
    · rfl
    · simp only [List.length_take]; omega
theorem rDigest_less (st : St) : (rDigest st).2.1.length ≤ st.1.length := by
  unfold rDigest
  split
  · exact Nat.le_refl _
  · split
    · exact Nat.le_refl _
    · simp
theorem rKid_bad {st : St} (h : st.2 ≠ 0) : (rKid st).2 = st := by
  unfold rKid
  dsimp only
  rw [rText_bad h, rDigest_bad' h]
theorem rKid_less (st : St) : (rKid st).2.1.length ≤ st.1.length := by
  have h1 := rText_len st 12
  have h2 := rDigest_less (rText st 12).2
  unfold rKid
  dsimp only
  omega
theorem itK_len : ∀ (k : Nat) (st : St), (itK k st).1.length = k
  | 0, _ => rfl
  | k + 1, st => by simp [itK, itK_len k st]
theorem itK_less : ∀ (k : Nat) (st : St), (itK k st).2.1.length ≤ st.1.length
  | 0, _ => Nat.le_refl _
  | k + 1, st => Nat.le_trans (rKid_less _) (itK_less k st)
theorem itK_digs : ∀ (k : Nat) (st : St), Digs (itK k st).1
  | 0, _, v, h => by cases h
  | k + 1, st, v, h => by
    rcases List.mem_append.1 (show v ∈ (itK k st).1 ++ [(rKid (itK k st).2).1] from h) with h | h
    · exact itK_digs k st v h
    · rw [List.mem_singleton.1 h]
      exact rDigest_dig _
theorem rText_short (st : St) : (str (rText st 12).1).size ≤ 12 := by
  rw [str_size]
  have h0 := rNumber_most st 12 (by omega)
  unfold rText
  split
  · simp
  · split
    · simp
    · simp only [List.length_take]; omega
theorem itK_names : ∀ (k : Nat) (st : St), ∀ v ∈ (itK k st).1, v.1.size ≤ 12
  | 0, _, v, h => by cases h
  | k + 1, st, v, h => by
    rcases List.mem_append.1 (show v ∈ (itK k st).1 ++ [(rKid (itK k st).2).1] from h) with h | h
    · exact itK_names k st v h
    · rw [List.mem_singleton.1 h]
      exact rText_short _
theorem itK_stays (st : St) (k : Nat) (h : (itK k st).2.2 ≠ 0) : ∀ m, k ≤ m → (itK m st).2 = (itK k st).2
  | 0, hm => by rw [show k = 0 by omega]
  | m + 1, hm => by
    by_cases e : k = m + 1
    · rw [e]
    · have ih := itK_stays st k h m (by omega)
      show (rKid (itK m st).2).2 = _
      rw [ih]
      exact rKid_bad h
theorem kCount (st : St) : (rNumber st 128).1.toNat ≤ 128 := by
  have := rNumber_most st 128 (by omega)
  omega
theorem rKids_len (st : St) : (rKids st).1.length ≤ 128 := by
  unfold rKids
  rw [itK_len]
  exact kCount st
theorem rKids_digs (st : St) : Digs (rKids st).1 := itK_digs _ _
theorem rKids_names (st : St) : ∀ v ∈ (rKids st).1, v.1.size ≤ 12 := itK_names _ _
/-- Behind an error in the row nothing more is taken, and the node is none. -/
theorem readN_bad {s : List UInt8} (h : rDone (rKids (rLeaf (s, 0)).2).2 ≠ 0) : readN s = (⟨[], []⟩, rDone (rKids (rLeaf (s, 0)).2).2) := by
  unfold readN
  rw [if_pos h]
theorem readN_early {st : St} {k : Nat} (hk : k ≤ (rNumber st 128).1.toNat) (h : (itK k (rNumber st 128).2).2.2 ≠ 0) : (rKids st).2 = (itK k (rNumber st 128).2).2 := itK_stays _ k h _ hk
theorem rDone_bad {st : St} (h : st.2 ≠ 0) : rDone st = st.2 := by
  unfold rDone
  rw [if_neg fun hc => h hc.1]

/-! What is put is taken again, and bytes that are taken are those that are put. -/
theorem rDigest_one {st : St} (h : (rDigest st).2.2 = 0) : st.2 = 0 ∧ st.1 = (rDigest st).1 ++ (rDigest st).2.1 := by
  unfold rDigest at h ⊢
  split at h
  · rename_i h1
    exact absurd h h1
  · rename_i h1
    split at h
    · exact absurd h (by simp)
    · rename_i h2
      rw [if_neg h1, if_neg h2]
      exact ⟨Classical.not_not.1 h1, (List.take_append_drop 32 st.1).symm⟩
theorem rKid_back {k : Kd} (h : k.1.size ≤ 12) (hd : k.2.length = 32) (r : List UInt8) : rKid (encK k ++ r, 0) = (k, (r, 0)) := by
  unfold rKid encK
  rw [List.append_assoc, back_textM (by rw [size_data]; omega) (by omega)]
  dsimp only
  rw [back_digest hd, str_of]
theorem itK_back {l : List Kd} (h : ∀ k ∈ l, k.1.size ≤ 12) (hd : Digs l) (r : List UInt8) : ∀ k, k ≤ l.length → itK k (encKs l ++ r, 0) = (l.take k, (encKs (l.drop k) ++ r, 0))
  | 0, _ => by simp [itK]
  | k + 1, hk => by
    obtain ⟨d, hdd⟩ : ∃ d, l[k]? = some d := ⟨_, List.getElem?_eq_getElem (by omega)⟩
    have ih := itK_back h hd r k (by omega)
    rw [encKs_drop l k d hdd, List.append_assoc] at ih
    unfold itK
    rw [ih]
    dsimp only
    rw [rKid_back (h d (List.mem_of_getElem? hdd)) (hd d (List.mem_of_getElem? hdd)), List.take_add_one, hdd]
    rfl
theorem rKids_back {l : List Kd} (hl : l.length ≤ 128) (h : ∀ k ∈ l, k.1.size ≤ 12) (hd : Digs l) (r : List UInt8) : rKids (Cnt.putL l.length ++ (encKs l ++ r), 0) = (l, (r, 0)) := by
  unfold rKids
  rw [back_number (by omega) (by omega) 128 (by omega)]
  dsimp only
  rw [Int.toNat_natCast, itK_back h hd r _ (Nat.le_refl _), List.take_length, List.drop_length]
  rfl
theorem read_back {n : Nd} (h : chkN n = 0) (hd : Digs n.ks) : readN (encN n) = (n, 0) := by
  obtain ⟨h1, h2, h3⟩ := chkN_zero h
  have e1 := rLeaf_back h1 (Cnt.putL n.ks.length ++ encKs n.ks)
  have e2 := rKids_back h2 (chkK_names _ _ h3) hd []
  rw [List.append_nil] at e2
  unfold readN encN
  rw [e1]
  dsimp only
  rw [e2]
  dsimp only
  rw [if_neg (by simp [rDone]), if_neg (by simpa using h)]
theorem rKid_one {st : St} (h : (rKid st).2.2 = 0) : st.2 = 0 ∧ st.1 = encK (rKid st).1 ++ (rKid st).2.1 := by
  unfold rKid at h ⊢
  dsimp only at h ⊢
  obtain ⟨h1, h2⟩ := rDigest_one h
  obtain ⟨h3, h4⟩ := rText_one h1
  refine ⟨h3, ?_⟩
  unfold encK
  dsimp only
  rw [str_data, List.append_assoc, ← h2]
  exact h4
theorem itK_one : ∀ (k : Nat) (st : St), (itK k st).2.2 = 0 → st.2 = 0 ∧ st.1 = encKs (itK k st).1 ++ (itK k st).2.1
  | 0, st, h => ⟨h, by simp [itK, encKs]⟩
  | k + 1, st, h => by
    have h' : (rKid (itK k st).2).2.2 = 0 := h
    obtain ⟨h1, h2⟩ := rKid_one h'
    obtain ⟨h3, h4⟩ := itK_one k st h1
    refine ⟨h3, ?_⟩
    show st.1 = encKs ((itK k st).1 ++ [(rKid (itK k st).2).1]) ++ (rKid (itK k st).2).2.1
    rw [encKs_snoc, List.append_assoc, ← h2]
    exact h4
theorem rKids_one {st : St} (h : (rKids st).2.2 = 0) : st.2 = 0 ∧ st.1 = Cnt.putL (rKids st).1.length ++ (encKs (rKids st).1 ++ (rKids st).2.1) := by
  unfold rKids at h ⊢
  obtain ⟨h4, h5⟩ := itK_one _ _ h
  obtain ⟨h6, h7⟩ := rNumber_one h4
  refine ⟨h6, ?_⟩
  rw [itK_len, ← h5]
  have h8 := rNumber_nonneg st 128
  rw [Int.toNat_of_nonneg h8]
  exact h7
theorem read_one {s : List UInt8} (h : (readN s).2 = 0) : chkN (readN s).1 = 0 ∧ encN (readN s).1 = s ∧ Digs (readN s).1.ks := by
  unfold readN at h ⊢
  by_cases h1 : rDone (rKids (rLeaf (s, 0)).2).2 ≠ 0
  · rw [if_pos h1] at h
    exact absurd h h1
  · rw [if_neg h1] at h ⊢
    by_cases h2 : chkN ⟨(rLeaf (s, 0)).1, (rKids (rLeaf (s, 0)).2).1⟩ ≠ 0
    · rw [if_pos h2] at h
      exact absurd h h2
    · rw [if_neg h2]
      obtain ⟨h3, h4⟩ := rDone_zero (Classical.not_not.1 h1)
      obtain ⟨h5, h6⟩ := rKids_one h3
      obtain ⟨h7, h8, _⟩ := rLeaf_one h5
      refine ⟨Classical.not_not.1 h2, ?_, rKids_digs _⟩
      show encLeaf (rLeaf (s, 0)).1 ++ (Cnt.putL (rKids (rLeaf (s, 0)).2).1.length ++ encKs (rKids (rLeaf (s, 0)).2).1) = s
      rw [h4, List.append_nil] at h6
      rw [← h6]
      exact h8.symm
end Go.Proofs.YthchcjjpplcfnaaDoor
