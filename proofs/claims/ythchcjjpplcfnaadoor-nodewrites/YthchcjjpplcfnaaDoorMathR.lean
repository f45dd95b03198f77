/-
  Plain facts on vectors and leaves as bytes, put and taken: no program, no world. Conditions: none but those that each theorem names.
-/
import Derived.Test.YthchcjjpplcfnaaDoorCRow
import Derived.Test.YthchcjjpplcfnaaDoorSib
namespace Go.Proofs.YthchcjjpplcfnaaDoor
open Go.RowKit

/-! What is put. -/
def wDot (st : St) (d : Vc.D) : St := wNumber (wNumber st d.1) d.2
def wDots (st : St) (ds : List Vc.D) : St := ds.foldl wDot st
def wVec (st : St) (ds : List Vc.D) : St := wDots (wNumber (fail st (Vc.check ds)) ds.length) ds
def wVer (st : St) (v : Vc.V) : St := wText (wFlag (wVec (wDot st v.dot) v.past) v.dead) v.data
def wVers (st : St) (l : List Vc.V) : St := l.foldl wVer st
def wLeaf (st : St) (l : List Vc.V) : St := wVers (wNumber (fail st (Vc.checkLeaf l)) l.length) l

theorem fail_zero (st : St) : fail st 0 = st := by
  unfold fail
  split
  · rename_i h; exact Prod.ext rfl h.symm
  · rfl
theorem fail_bad {st : St} {e : Int} (h : e ≠ 0) : (fail st e).2 ≠ 0 := by
  unfold fail
  split
  · exact h
  · assumption
theorem fail_stays {st : St} (e : Int) (h : st.2 ≠ 0) : fail st e = st := if_neg h
theorem fail_len (st : St) (e : Int) : (fail st e).1.length = st.1.length := by
  unfold fail
  split <;> rfl
theorem wput_bad {st : St} (h : st.2 ≠ 0) (is : Bool) (b : List UInt8) : wput st is b = st := if_pos h
theorem wNumber_bad {st : St} (h : st.2 ≠ 0) (n : Int) : wNumber st n = st := wput_bad h _ _
theorem wDot_bad {st : St} (h : st.2 ≠ 0) (d : Vc.D) : wDot st d = st := by
  unfold wDot
  rw [wNumber_bad h, wNumber_bad h]
theorem wDots_bad {st : St} (h : st.2 ≠ 0) : ∀ ds : List Vc.D, wDots st ds = st
  | [] => rfl
  | d :: l => by
    show wDots (wDot st d) l = st
    rw [wDot_bad h]
    exact wDots_bad h l
theorem wVec_bad {st : St} {ds : List Vc.D} (h : Vc.check ds ≠ 0) : wVec st ds = fail st (Vc.check ds) := by
  unfold wVec
  rw [wNumber_bad (fail_bad h), wDots_bad (fail_bad h)]
theorem wVec_ok {st : St} {ds : List Vc.D} (h : Vc.check ds = 0) : wVec st ds = wDots (wNumber st ds.length) ds := by
  unfold wVec
  rw [h, fail_zero]
theorem wVec_stays {st : St} (h : st.2 ≠ 0) (ds : List Vc.D) : wVec st ds = st := by
  unfold wVec
  rw [fail_stays _ h, wNumber_bad h, wDots_bad h]
theorem wVer_bad {st : St} (h : st.2 ≠ 0) (v : Vc.V) : wVer st v = st := by
  unfold wVer wFlag wText
  rw [wDot_bad h, wVec_stays h, wput_bad h, wput_bad h]
theorem wVers_bad {st : St} (h : st.2 ≠ 0) : ∀ l : List Vc.V, wVers st l = st
  | [] => rfl
  | v :: l => by
    show wVers (wVer st v) l = st
    rw [wVer_bad h]
    exact wVers_bad h l
theorem wLeaf_bad {st : St} {l : List Vc.V} (h : Vc.checkLeaf l ≠ 0) : wLeaf st l = fail st (Vc.checkLeaf l) := by
  unfold wLeaf
  rw [wNumber_bad (fail_bad h), wVers_bad (fail_bad h)]
theorem wLeaf_ok {st : St} {l : List Vc.V} (h : Vc.checkLeaf l = 0) : wLeaf st l = wVers (wNumber st l.length) l := by
  unfold wLeaf
  rw [h, fail_zero]
theorem wLeaf_stays {st : St} (h : st.2 ≠ 0) (l : List Vc.V) : wLeaf st l = st := by
  unfold wLeaf
  rw [fail_stays _ h, wNumber_bad h, wVers_bad h]

theorem wNumber_len (st : St) (n : Int) : (wNumber st n).1.length ≤ st.1.length + 5 := by
  have h1 := wput_len st (decide (0 ≤ n) && decide (n ≤ 1073741824)) (Cnt.putL n)
  have h2 := Cnt.putL_len n
  unfold wNumber
  refine Nat.le_trans h1 ?_
  split <;> omega
theorem wFlag_len (st : St) (is : Bool) : (wFlag st is).1.length ≤ st.1.length + 1 := by
  have h1 := wput_len st true (flagB is)
  have h2 : (flagB is).length = 1 := by unfold flagB; split <;> rfl
  rw [h2] at h1
  exact h1
theorem wText_len (st : St) (s : ByteArray) : (wText st s).1.length ≤ st.1.length + 65541 ∧ (wText st s).1.length ≤ st.1.length + 5 + s.size := by
  have h1 := wput_len st (decide (s.size ≤ 65536)) (Cnt.putL s.size ++ s.data.toList)
  have h2 := Cnt.putL_len s.size
  unfold wText
  rw [List.length_append, size_data] at h1
  split at h1
  · rename_i h3
    have := of_decide_eq_true h3
    omega
  · omega
theorem wDot_len (st : St) (d : Vc.D) : (wDot st d).1.length ≤ st.1.length + 10 := by
  have h1 := wNumber_len st d.1
  have h2 := wNumber_len (wNumber st d.1) d.2
  unfold wDot
  omega
theorem wDots_len : ∀ (ds : List Vc.D) (st : St), (wDots st ds).1.length ≤ st.1.length + 10 * ds.length
  | [], st => by simp [wDots]
  | d :: l, st => by
    have h1 := wDots_len l (wDot st d)
    have h2 := wDot_len st d
    show (wDots (wDot st d) l).1.length ≤ _
    rw [List.length_cons]
    omega
/-- At each time a vector's bytes are few. -/
theorem wVec_part (st : St) (ds : List Vc.D) (k : Nat) : (wDots (wNumber (fail st (Vc.check ds)) ds.length) (ds.take k)).1.length ≤ st.1.length + 645 := by
  by_cases h : Vc.check ds = 0
  · have h1 := Vc.vec_len ((Vc.check_zero ds).1 h)
    have h2 := wDots_len (ds.take k) (wNumber (fail st (Vc.check ds)) ds.length)
    have h3 := wNumber_len (fail st (Vc.check ds)) ds.length
    rw [fail_len] at h3
    rw [List.length_take] at h2
    have h4 : min k ds.length ≤ 64 := by omega
    omega
  · rw [wNumber_bad (fail_bad h), wDots_bad (fail_bad h), fail_len]
    omega
theorem wVec_len (st : St) (ds : List Vc.D) : (wVec st ds).1.length ≤ st.1.length + 645 := by
  have h := wVec_part st ds ds.length
  rw [List.take_length] at h
  exact h
theorem wVer_len (st : St) (v : Vc.V) : (wVer st v).1.length ≤ st.1.length + 66197 ∧ (wVer st v).1.length ≤ st.1.length + 661 + v.data.size := by
  have h1 := wDot_len st v.dot
  have h2 := wVec_len (wDot st v.dot) v.past
  have h3 := wFlag_len (wVec (wDot st v.dot) v.past) v.dead
  have h4 := wText_len (wFlag (wVec (wDot st v.dot) v.past) v.dead) v.data
  unfold wVer
  omega
theorem wVers_len : ∀ (l : List Vc.V) (st : St), (wVers st l).1.length ≤ st.1.length + 66197 * l.length
  | [], st => by simp [wVers]
  | v :: l, st => by
    have h1 := wVers_len l (wVer st v)
    have h2 := (wVer_len st v).1
    show (wVers (wVer st v) l).1.length ≤ _
    rw [List.length_cons]
    omega
theorem wVers_few : ∀ (l : List Vc.V) (st : St), (∀ v ∈ l, v.data.size ≤ 48) → (wVers st l).1.length ≤ st.1.length + 709 * l.length
  | [], st, _ => by simp [wVers]
  | v :: l, st, h => by
    have h1 := wVers_few l (wVer st v) fun u hu => h u (List.mem_cons_of_mem _ hu)
    have h2 := (wVer_len st v).2
    have h3 := h v (by simp)
    show (wVers (wVer st v) l).1.length ≤ _
    rw [List.length_cons]
    omega
/-- At each time a leaf's bytes are not many. -/
theorem wLeaf_part (st : St) (l : List Vc.V) (k : Nat) : (wVers (wNumber (fail st (Vc.checkLeaf l)) l.length) (l.take k)).1.length ≤ st.1.length + 4300000 := by
  by_cases h : Vc.checkLeaf l = 0
  · have h1 := ((Vc.checkLeaf_zero l).1 h).len
    have h2 := wVers_len (l.take k) (wNumber (fail st (Vc.checkLeaf l)) l.length)
    have h3 := wNumber_len (fail st (Vc.checkLeaf l)) l.length
    rw [fail_len] at h3
    rw [List.length_take] at h2
    have h4 : min k l.length ≤ 64 := by omega
    omega
  · rw [wNumber_bad (fail_bad h), wVers_bad (fail_bad h), fail_len]
    omega
theorem wLeaf_len (st : St) (l : List Vc.V) : (wLeaf st l).1.length ≤ st.1.length + 46000 := by
  by_cases h : Vc.checkLeaf l = 0
  · have hL := (Vc.checkLeaf_zero l).1 h
    have h1 := hL.len
    have h2 := wVers_few l (wNumber st l.length) fun v hv => (hL.up.mem hv).1.data
    have h3 := wNumber_len st l.length
    rw [wLeaf_ok h]
    omega
  · rw [wLeaf_bad h, fail_len]
    omega
theorem wDots_snoc (st : St) (l : List Vc.D) (k : Nat) (d : Vc.D) (h : l[k]? = some d) : wDots st (l.take (k + 1)) = wDot (wDots st (l.take k)) d := by
  rw [List.take_add_one, h]
  simp [wDots]
theorem wVers_snoc (st : St) (l : List Vc.V) (k : Nat) (v : Vc.V) (h : l[k]? = some v) : wVers st (l.take (k + 1)) = wVer (wVers st (l.take k)) v := by
  rw [List.take_add_one, h]
  simp [wVers]

/-! What is taken. -/
def rDot (st : St) : Vc.D × St := (((rNumber st 63).1, (rNumber (rNumber st 63).2 1048576).1), (rNumber (rNumber st 63).2 1048576).2)
def itD : Nat → St → List Vc.D × St
  | 0, st => ([], st)
  | k + 1, st => ((itD k st).1 ++ [(rDot (itD k st).2).1], (rDot (itD k st).2).2)
def endD (x : List Vc.D × St) : List Vc.D × St := (if (fail x.2 (Vc.check x.1)).2 ≠ 0 then [] else x.1, fail x.2 (Vc.check x.1))
def rVec (st : St) : List Vc.D × St := endD (itD (rNumber st 64).1.toNat (rNumber st 64).2)
def rVer (st : St) : Vc.V × St :=
  (⟨(rDot st).1, (rVec (rDot st).2).1, (rFlag (rVec (rDot st).2).2).1, str (rText (rFlag (rVec (rDot st).2).2).2 48).1⟩, (rText (rFlag (rVec (rDot st).2).2).2 48).2)
def itV : Nat → St → List Vc.V × St
  | 0, st => ([], st)
  | k + 1, st => ((itV k st).1 ++ [(rVer (itV k st).2).1], (rVer (itV k st).2).2)
def endV (x : List Vc.V × St) : List Vc.V × St := (if (fail x.2 (Vc.checkLeaf x.1)).2 ≠ 0 then [] else x.1, fail x.2 (Vc.checkLeaf x.1))
def rLeaf (st : St) : List Vc.V × St := endV (itV (rNumber st 64).1.toNat (rNumber st 64).2)

theorem rNumber_bad {st : St} (h : st.2 ≠ 0) (m : Int) : rNumber st m = (0, st) := if_pos h
theorem rNumber_most (st : St) (m : Int) (h : 0 ≤ m) : (rNumber st m).1 ≤ m := by
  unfold rNumber
  split
  · exact h
  · split
    · exact h
    · split
      · exact h
      · rename_i h3
        show (Cnt.takeF st.1).1 ≤ m
        omega
theorem rDot_bad {st : St} (h : st.2 ≠ 0) : (rDot st).2 = st := by
  unfold rDot
  rw [rNumber_bad h]
  dsimp only
  rw [rNumber_bad h]
theorem itD_len : ∀ (k : Nat) (st : St), (itD k st).1.length = k
  | 0, _ => rfl
  | k + 1, st => by simp [itD, itD_len k st]
theorem itV_len : ∀ (k : Nat) (st : St), (itV k st).1.length = k
  | 0, _ => rfl
  | k + 1, st => by simp [itV, itV_len k st]
theorem itD_stays (st : St) (k : Nat) (h : (itD k st).2.2 ≠ 0) : ∀ m, k ≤ m → (itD m st).2 = (itD k st).2
  | 0, hm => by rw [show k = 0 by omega]
  | m + 1, hm => by
    by_cases e : k = m + 1
    · rw [e]
    · have ih := itD_stays st k h m (by omega)
      show (rDot (itD m st).2).2 = _
      rw [ih]
      exact rDot_bad h
theorem endD_bad {x : List Vc.D × St} (h : x.2.2 ≠ 0) : endD x = ([], x.2) := by
  unfold endD
  rw [fail_stays _ h, if_pos h]
theorem rVec_early {st : St} {k : Nat} (hk : k ≤ (rNumber st 64).1.toNat) (h : (itD k (rNumber st 64).2).2.2 ≠ 0) : endD (itD k (rNumber st 64).2) = rVec st := by
  unfold rVec
  have h2 := itD_stays _ k h _ hk
  rw [endD_bad h, endD_bad (by rw [h2]; exact h), h2]
theorem rVec_bad {st : St} (h : st.2 ≠ 0) : rVec st = ([], st) := by
  unfold rVec
  rw [rNumber_bad h]
  exact endD_bad h
theorem rFlag_bad {st : St} (h : st.2 ≠ 0) : (rFlag st).2 = st := by
  unfold rFlag
  rw [if_pos h]
theorem rText_bad {st : St} (h : st.2 ≠ 0) (m : Int) : (rText st m).2 = st := by
  unfold rText
  rw [rNumber_bad h, if_pos h]
theorem rVer_bad {st : St} (h : st.2 ≠ 0) : (rVer st).2 = st := by
  unfold rVer
  dsimp only
  rw [rDot_bad h, rVec_bad h]
  dsimp only
  rw [rFlag_bad h, rText_bad h]
theorem itV_stays (st : St) (k : Nat) (h : (itV k st).2.2 ≠ 0) : ∀ m, k ≤ m → (itV m st).2 = (itV k st).2
  | 0, hm => by rw [show k = 0 by omega]
  | m + 1, hm => by
    by_cases e : k = m + 1
    · rw [e]
    · have ih := itV_stays st k h m (by omega)
      show (rVer (itV m st).2).2 = _
      rw [ih]
      exact rVer_bad h
theorem endV_bad {x : List Vc.V × St} (h : x.2.2 ≠ 0) : endV x = ([], x.2) := by
  unfold endV
  rw [fail_stays _ h, if_pos h]
theorem rLeaf_early {st : St} {k : Nat} (hk : k ≤ (rNumber st 64).1.toNat) (h : (itV k (rNumber st 64).2).2.2 ≠ 0) : endV (itV k (rNumber st 64).2) = rLeaf st := by
  unfold rLeaf
  have h2 := itV_stays _ k h _ hk
  rw [endV_bad h, endV_bad (by rw [h2]; exact h), h2]
theorem rCount (st : St) : (rNumber st 64).1.toNat ≤ 64 := by
  have := rNumber_most st 64 (by omega)
  omega
theorem endD_len (x : List Vc.D × St) : (endD x).1.length ≤ x.1.length := by
  unfold endD
  dsimp only
  split <;> simp
theorem endV_len (x : List Vc.V × St) : (endV x).1.length ≤ x.1.length := by
  unfold endV
  dsimp only
  split <;> simp
theorem rVec_len (st : St) : (rVec st).1.length ≤ 64 := by
  have h1 := endD_len (itD (rNumber st 64).1.toNat (rNumber st 64).2)
  rw [itD_len] at h1
  have h2 := rCount st
  unfold rVec
  omega
theorem rLeaf_len (st : St) : (rLeaf st).1.length ≤ 64 := by
  have h1 := endV_len (itV (rNumber st 64).1.toNat (rNumber st 64).2)
  rw [itV_len] at h1
  have h2 := rCount st
  unfold rLeaf
  omega
theorem rVer_past (st : St) : (rVer st).1.past.length ≤ 64 := rVec_len _
theorem itV_past : ∀ (k : Nat) (st : St), ∀ v ∈ (itV k st).1, v.past.length ≤ 64
  | 0, _, v, h => by cases h
  | k + 1, st, v, h => by
    rcases List.mem_append.1 (show v ∈ (itV k st).1 ++ [(rVer (itV k st).2).1] from h) with h | h
    · exact itV_past k st v h
    · rw [List.mem_singleton.1 h]
      exact rVer_past _
theorem rLeaf_past (st : St) : ∀ v ∈ (rLeaf st).1, v.past.length ≤ 64 := fun v hv => by
  unfold rLeaf endV at hv
  dsimp only at hv
  split at hv
  · cases hv
  · exact itV_past _ _ v hv

theorem rText_len (st : St) (most : Int) : (rText st most).2.1.length ≤ st.1.length := by
  have h := rNumber_len st most
  unfold rText
  split
  · exact h
  · split
    · exact Nat.le_refl _
    · rw [List.length_drop]; omega
theorem rFlag_len (st : St) : (rFlag st).2.1.length ≤ st.1.length := by
  obtain ⟨b, e⟩ := st
  unfold rFlag
  split
  · exact Nat.le_refl _
  · cases b with
    | nil => exact Nat.le_refl _
    | cons x r =>
      dsimp only
      split
      · exact Nat.le_refl _
      · simp
theorem rDot_less (st : St) : (rDot st).2.1.length ≤ st.1.length := by
  have h1 := rNumber_len st 63
  have h2 := rNumber_len (rNumber st 63).2 1048576
  unfold rDot
  dsimp only
  omega
theorem itD_less : ∀ (k : Nat) (st : St), (itD k st).2.1.length ≤ st.1.length
  | 0, _ => Nat.le_refl _
  | k + 1, st => Nat.le_trans (rDot_less _) (itD_less k st)
theorem rVec_less (st : St) : (rVec st).2.1.length ≤ st.1.length := by
  have h1 := itD_less (rNumber st 64).1.toNat (rNumber st 64).2
  have h2 := rNumber_len st 64
  unfold rVec endD
  dsimp only
  rw [fail_len]
  omega
theorem rVer_less (st : St) : (rVer st).2.1.length ≤ st.1.length := by
  have h1 := rDot_less st
  have h2 := rVec_less (rDot st).2
  have h3 := rFlag_len (rVec (rDot st).2).2
  have h4 := rText_len (rFlag (rVec (rDot st).2).2).2 48
  unfold rVer
  dsimp only
  omega
theorem itV_less : ∀ (k : Nat) (st : St), (itV k st).2.1.length ≤ st.1.length
  | 0, _ => Nat.le_refl _
  | k + 1, st => Nat.le_trans (rVer_less _) (itV_less k st)
theorem rLeaf_less (st : St) : (rLeaf st).2.1.length ≤ st.1.length := by
  have h1 := itV_less (rNumber st 64).1.toNat (rNumber st 64).2
  have h2 := rNumber_len st 64
  unfold rLeaf endV
  dsimp only
  rw [fail_len]
  omega
/-- What a text is, as a vector or as a leaf, and what is wrong first. -/
def ofVec (s : List UInt8) : List Vc.D × Int := (if rDone (rVec (s, 0)).2 ≠ 0 then [] else (rVec (s, 0)).1, rDone (rVec (s, 0)).2)
def ofLeaf (s : List UInt8) : List Vc.V × Int := (if rDone (rLeaf (s, 0)).2 ≠ 0 then [] else (rLeaf (s, 0)).1, rDone (rLeaf (s, 0)).2)
end Go.Proofs.YthchcjjpplcfnaaDoor
