/-
  Plain facts: what is put is taken again, and bytes that are taken are those that are put. Conditions: none but those that each theorem names.
-/
import Derived.Test.YthchcjjpplcfnaaDoorMathR
namespace Go.Proofs.YthchcjjpplcfnaaDoor
open Go.RowKit

def encD (d : Vc.D) : List UInt8 := Cnt.putL d.1 ++ Cnt.putL d.2
def encDs (ds : List Vc.D) : List UInt8 := (ds.map encD).flatten
def encVec (ds : List Vc.D) : List UInt8 := Cnt.putL ds.length ++ encDs ds
def encT (l : List UInt8) : List UInt8 := Cnt.putL l.length ++ l
def encV (v : Vc.V) : List UInt8 := encD v.dot ++ (encVec v.past ++ (flagB v.dead ++ encT v.data.data.toList))
def encVs (l : List Vc.V) : List UInt8 := (l.map encV).flatten
def encLeaf (l : List Vc.V) : List UInt8 := Cnt.putL l.length ++ encVs l

theorem encDs_drop (l : List Vc.D) (k : Nat) (x : Vc.D) (h : l[k]? = some x) : encDs (l.drop k) = encD x ++ encDs (l.drop (k + 1)) := by
  have hk := (List.getElem?_eq_some_iff.1 h).1
  rw [List.drop_eq_getElem_cons hk]
  rw [List.getElem?_eq_getElem hk] at h
  injection h with h
  simp [encDs, h]
theorem encVs_drop (l : List Vc.V) (k : Nat) (x : Vc.V) (h : l[k]? = some x) : encVs (l.drop k) = encV x ++ encVs (l.drop (k + 1)) := by
  have hk := (List.getElem?_eq_some_iff.1 h).1
  rw [List.drop_eq_getElem_cons hk]
  rw [List.getElem?_eq_getElem hk] at h
  injection h with h
  simp [encVs, h]
theorem encDs_snoc (l : List Vc.D) (x : Vc.D) : encDs (l ++ [x]) = encDs l ++ encD x := by simp [encDs]
theorem encVs_snoc (l : List Vc.V) (x : Vc.V) : encVs (l ++ [x]) = encVs l ++ encV x := by simp [encVs]

/-! What is put. -/
theorem wput_ok (b c : List UInt8) : wput (b, 0) true c = (b ++ c, 0) := rfl
theorem wNumber_ok (b : List UInt8) {n : Int} (h0 : 0 ≤ n) (h1 : n ≤ 1073741824) : wNumber (b, 0) n = (b ++ Cnt.putL n, 0) := by
  unfold wNumber
  rw [decide_eq_true h0, decide_eq_true h1]
  rfl
theorem wDot_ok (b : List UInt8) {d : Vc.D} (h : Vc.Ok d) : wDot (b, 0) d = (b ++ encD d, 0) := by
  unfold Vc.Ok at h
  unfold wDot encD
  rw [wNumber_ok b (by omega) (by omega), wNumber_ok _ (by omega) (by omega), List.append_assoc]
theorem wDots_ok : ∀ (ds : List Vc.D) (b : List UInt8), (∀ d ∈ ds, Vc.Ok d) → wDots (b, 0) ds = (b ++ encDs ds, 0)
  | [], b, _ => by simp [wDots, encDs]
  | d :: l, b, h => by
    show wDots (wDot (b, 0) d) l = _
    rw [wDot_ok b (h d (by simp)), wDots_ok l _ fun x hx => h x (List.mem_cons_of_mem _ hx)]
    simp [encDs]
theorem vec_oks {ds : List Vc.D} (h : Vc.check ds = 0) : ∀ d ∈ ds, Vc.Ok d := fun _ hd => Vc.mem_ok ((Vc.check_zero ds).1 h) hd
theorem vec_few {ds : List Vc.D} (h : Vc.check ds = 0) : ds.length ≤ 64 := Vc.vec_len ((Vc.check_zero ds).1 h)
theorem wVec_enc (b : List UInt8) {ds : List Vc.D} (h : Vc.check ds = 0) : wVec (b, 0) ds = (b ++ encVec ds, 0) := by
  have hl := vec_few h
  rw [wVec_ok h, wNumber_ok b (by omega) (by omega), wDots_ok ds _ (vec_oks h)]
  simp [encVec]
theorem wFlag_ok (b : List UInt8) (is : Bool) : wFlag (b, 0) is = (b ++ flagB is, 0) := rfl
theorem wText_ok (b : List UInt8) {s : ByteArray} (h : s.size ≤ 65536) : wText (b, 0) s = (b ++ encT s.data.toList, 0) := by
  unfold wText encT
  rw [decide_eq_true h, size_data]
  rfl
theorem wVer_ok (b : List UInt8) {v : Vc.V} (h : Vc.OkV v) : wVer (b, 0) v = (b ++ encV v, 0) := by
  have hd := h.data
  unfold wVer encV
  rw [wDot_ok b h.dot, wVec_enc _ ((Vc.check_zero _).2 h.past), wFlag_ok, wText_ok _ (by omega)]
  simp
theorem wVers_ok : ∀ (l : List Vc.V) (b : List UInt8), (∀ v ∈ l, Vc.OkV v) → wVers (b, 0) l = (b ++ encVs l, 0)
  | [], b, _ => by simp [wVers, encVs]
  | v :: l, b, h => by
    show wVers (wVer (b, 0) v) l = _
    rw [wVer_ok b (h v (by simp)), wVers_ok l _ fun x hx => h x (List.mem_cons_of_mem _ hx)]
    simp [encVs]
theorem leaf_oks {l : List Vc.V} (h : Vc.checkLeaf l = 0) : ∀ v ∈ l, Vc.OkV v := fun _ hv => (((Vc.checkLeaf_zero l).1 h).up.mem hv).1
theorem leaf_few {l : List Vc.V} (h : Vc.checkLeaf l = 0) : l.length ≤ 64 := ((Vc.checkLeaf_zero l).1 h).len
theorem wLeaf_enc (b : List UInt8) {l : List Vc.V} (h : Vc.checkLeaf l = 0) : wLeaf (b, 0) l = (b ++ encLeaf l, 0) := by
  have hl := leaf_few h
  rw [wLeaf_ok h, wNumber_ok b (by omega) (by omega), wVers_ok l _ (leaf_oks h)]
  simp [encLeaf]
theorem wVec_check {ds : List Vc.D} {st : St} (h : (wVec st ds).2 = 0) : Vc.check ds = 0 := Classical.byContradiction fun hc => by
  rw [wVec_bad hc] at h
  exact fail_bad hc h
theorem wLeaf_check {l : List Vc.V} {st : St} (h : (wLeaf st l).2 = 0) : Vc.checkLeaf l = 0 := Classical.byContradiction fun hc => by
  rw [wLeaf_bad hc] at h
  exact fail_bad hc h

/-! It is taken again. -/
theorem back_textM {l : List UInt8} {most : Int} (hs : (l.length : Int) ≤ most) (hm : most ≤ 65536) (r : List UInt8) : rText (encT l ++ r, 0) most = (l, (r, 0)) := by
  have h := back_number (n := l.length) (by omega) (by omega) most hs (l ++ r)
  unfold rText encT
  rw [List.append_assoc, h]
  rw [if_neg (by simp), if_neg (by rw [List.length_append]; simp; omega)]
  simp only [Int.toNat_natCast]
  rw [List.take_left, List.drop_left]
theorem rDot_back {d : Vc.D} (h : Vc.Ok d) (r : List UInt8) : rDot (encD d ++ r, 0) = (d, (r, 0)) := by
  unfold Vc.Ok at h
  unfold rDot encD
  rw [List.append_assoc, back_number (by omega) (by omega) 63 (by omega)]
  dsimp only
  rw [back_number (by omega) (by omega) 1048576 (by omega)]
theorem itD_back {ds : List Vc.D} (h : ∀ d ∈ ds, Vc.Ok d) (r : List UInt8) : ∀ k, k ≤ ds.length → itD k (encDs ds ++ r, 0) = (ds.take k, (encDs (ds.drop k) ++ r, 0))
  | 0, _ => by simp [itD]
  | k + 1, hk => by
    obtain ⟨d, hd⟩ : ∃ d, ds[k]? = some d := ⟨_, List.getElem?_eq_getElem (by omega)⟩
    have ih := itD_back h r k (by omega)
    rw [encDs_drop ds k d hd, List.append_assoc] at ih
    unfold itD
    rw [ih]
    dsimp only
    rw [rDot_back (h d (List.mem_of_getElem? hd)), List.take_add_one, hd]
    rfl
theorem endD_ok {ds : List Vc.D} (h : Vc.check ds = 0) (r : List UInt8) : endD (ds, (r, 0)) = (ds, (r, 0)) := by
  unfold endD
  rw [h, fail_zero]
  rfl
theorem rVec_back {ds : List Vc.D} (h : Vc.check ds = 0) (r : List UInt8) : rVec (encVec ds ++ r, 0) = (ds, (r, 0)) := by
  have hl := vec_few h
  unfold rVec encVec
  rw [List.append_assoc, back_number (by omega) (by omega) 64 (by omega)]
  dsimp only
  rw [Int.toNat_natCast, itD_back (vec_oks h) r _ (Nat.le_refl _), List.take_length, List.drop_length]
  exact endD_ok h r
theorem rVer_back {v : Vc.V} (h : Vc.OkV v) (r : List UInt8) : rVer (encV v ++ r, 0) = (v, (r, 0)) := by
  have hd := h.data
  unfold rVer encV
  rw [List.append_assoc, List.append_assoc, List.append_assoc, rDot_back h.dot]
  dsimp only
  rw [rVec_back ((Vc.check_zero _).2 h.past)]
  dsimp only
  rw [back_flag, back_textM (by rw [size_data]; omega) (by omega)]
  dsimp only
  rw [str_of]
theorem itV_back {l : List Vc.V} (h : ∀ v ∈ l, Vc.OkV v) (r : List UInt8) : ∀ k, k ≤ l.length → itV k (encVs l ++ r, 0) = (l.take k, (encVs (l.drop k) ++ r, 0))
  | 0, _ => by simp [itV]
  | k + 1, hk => by
    obtain ⟨d, hd⟩ : ∃ d, l[k]? = some d := ⟨_, List.getElem?_eq_getElem (by omega)⟩
    have ih := itV_back h r k (by omega)
    rw [encVs_drop l k d hd, List.append_assoc] at ih
    unfold itV
    rw [ih]
    dsimp only
    rw [rVer_back (h d (List.mem_of_getElem? hd)), List.take_add_one, hd]
    rfl
theorem endV_ok {l : List Vc.V} (h : Vc.checkLeaf l = 0) (r : List UInt8) : endV (l, (r, 0)) = (l, (r, 0)) := by
  unfold endV
  rw [h, fail_zero]
  rfl
theorem rLeaf_back {l : List Vc.V} (h : Vc.checkLeaf l = 0) (r : List UInt8) : rLeaf (encLeaf l ++ r, 0) = (l, (r, 0)) := by
  have hl := leaf_few h
  unfold rLeaf encLeaf
  rw [List.append_assoc, back_number (by omega) (by omega) 64 (by omega)]
  dsimp only
  rw [Int.toNat_natCast, itV_back (leaf_oks h) r _ (Nat.le_refl _), List.take_length, List.drop_length]
  exact endV_ok h r
theorem ofVec_back {ds : List Vc.D} (h : Vc.check ds = 0) : ofVec (encVec ds) = (ds, 0) := by
  have := rVec_back h []
  rw [List.append_nil] at this
  unfold ofVec
  rw [this]
  rfl
theorem ofLeaf_back {l : List Vc.V} (h : Vc.checkLeaf l = 0) : ofLeaf (encLeaf l) = (l, 0) := by
  have := rLeaf_back h []
  rw [List.append_nil] at this
  unfold ofLeaf
  rw [this]
  rfl

/-! Bytes that are taken are those that are put. -/
theorem rNumber_one {st : St} {m : Int} (h : (rNumber st m).2.2 = 0) : st.2 = 0 ∧ st.1 = Cnt.putL (rNumber st m).1 ++ (rNumber st m).2.1 := by
  unfold rNumber at h ⊢
  by_cases h0 : st.2 ≠ 0
  · rw [if_pos h0] at h
    exact absurd h h0
  · rw [if_neg h0] at h ⊢
    by_cases h1 : (Cnt.takeF st.1).2.2 ≠ 0
    · rw [if_pos h1] at h
      exact absurd h h1
    · rw [if_neg h1] at h ⊢
      by_cases h2 : m < (Cnt.takeF st.1).1
      · rw [if_pos h2] at h
        cases h
      · rw [if_neg h2]
        obtain ⟨_, _, h3⟩ := Cnt.takeF_ok st.1 (by simpa using h1)
        refine ⟨by simpa using h0, ?_⟩
        dsimp only
        rw [h3, List.take_append_drop]
theorem rDot_one {st : St} (h : (rDot st).2.2 = 0) : st.2 = 0 ∧ st.1 = encD (rDot st).1 ++ (rDot st).2.1 := by
  unfold rDot at h ⊢
  dsimp only at h ⊢
  obtain ⟨h1, h2⟩ := rNumber_one h
  obtain ⟨h3, h4⟩ := rNumber_one h1
  refine ⟨h3, ?_⟩
  unfold encD
  dsimp only
  rw [List.append_assoc, ← h2]
  exact h4
theorem itD_one : ∀ (k : Nat) (st : St), (itD k st).2.2 = 0 → st.2 = 0 ∧ st.1 = encDs (itD k st).1 ++ (itD k st).2.1
  | 0, st, h => ⟨h, by simp [itD, encDs]⟩
  | k + 1, st, h => by
    have h' : (rDot (itD k st).2).2.2 = 0 := h
    obtain ⟨h1, h2⟩ := rDot_one h'
    obtain ⟨h3, h4⟩ := itD_one k st h1
    refine ⟨h3, ?_⟩
    show st.1 = encDs ((itD k st).1 ++ [(rDot (itD k st).2).1]) ++ (rDot (itD k st).2).2.1
    rw [encDs_snoc, List.append_assoc, ← h2]
    exact h4
theorem fail_parts {st : St} {e : Int} (h : (fail st e).2 = 0) : st.2 = 0 ∧ e = 0 := by
  unfold fail at h
  split at h
  · rename_i h1; exact ⟨h1, h⟩
  · rename_i h1; exact absurd h h1
theorem endD_one {x : List Vc.D × St} (h : (endD x).2.2 = 0) : x.2.2 = 0 ∧ Vc.check x.1 = 0 ∧ endD x = x := by
  have h' : (fail x.2 (Vc.check x.1)).2 = 0 := h
  obtain ⟨h1, h2⟩ := fail_parts h'
  refine ⟨h1, h2, ?_⟩
  unfold endD
  rw [h2, fail_zero, if_neg (by simpa using h1)]
theorem rVec_one {st : St} (h : (rVec st).2.2 = 0) : st.2 = 0 ∧ st.1 = encVec (rVec st).1 ++ (rVec st).2.1 ∧ Vc.check (rVec st).1 = 0 := by
  unfold rVec at h ⊢
  obtain ⟨h1, h2, h3⟩ := endD_one h
  rw [h3]
  obtain ⟨h4, h5⟩ := itD_one _ _ h1
  obtain ⟨h6, h7⟩ := rNumber_one h4
  refine ⟨h6, ?_, h2⟩
  unfold encVec
  rw [itD_len, List.append_assoc, ← h5]
  have h8 := rNumber_nonneg st 64
  rw [Int.toNat_of_nonneg h8]
  exact h7
theorem rFlag_one {st : St} (h : (rFlag st).2.2 = 0) : st.2 = 0 ∧ st.1 = flagB (rFlag st).1 ++ (rFlag st).2.1 := by
  obtain ⟨b, e⟩ := st
  unfold rFlag at h ⊢
  by_cases h0 : e ≠ 0
  · rw [if_pos h0] at h
    exact absurd h h0
  · rw [if_neg h0] at h ⊢
    refine ⟨by simpa using h0, ?_⟩
    cases b with
    | nil => cases h
    | cons x r =>
      dsimp only at h ⊢
      by_cases hx : 1 < x.toNat
      · rw [if_pos hx] at h
        cases h
      · rw [if_neg hx]
        dsimp only
        have hc : x = 0 ∨ x = 1 := by
          rcases (show x.toNat = 0 ∨ x.toNat = 1 by omega) with h1 | h1
          · exact .inl (UInt8.toNat_inj.1 h1)
          · exact .inr (UInt8.toNat_inj.1 h1)
        rcases hc with rfl | rfl <;> rfl
theorem rText_one {st : St} {m : Int} (h : (rText st m).2.2 = 0) : st.2 = 0 ∧ st.1 = encT (rText st m).1 ++ (rText st m).2.1 := by
  unfold rText at h ⊢
  by_cases h0 : (rNumber st m).2.2 ≠ 0
  · rw [if_pos h0] at h
    exact absurd h h0
  · rw [if_neg h0] at h ⊢
    by_cases h1 : ((rNumber st m).2.1.length : Int) < (rNumber st m).1
    · rw [if_pos h1] at h
      cases h
    · rw [if_neg h1]
      obtain ⟨h2, h3⟩ := rNumber_one (st := st) (m := m) (by simpa using h0)
      refine ⟨h2, ?_⟩
      have h8 := rNumber_nonneg st m
      unfold encT
      dsimp only
      rw [List.length_take, List.append_assoc, List.take_append_drop, show ((min (rNumber st m).1.toNat (rNumber st m).2.1.length : Nat) : Int) = (rNumber st m).1 by omega]
      exact h3
theorem rVer_one {st : St} (h : (rVer st).2.2 = 0) : st.2 = 0 ∧ st.1 = encV (rVer st).1 ++ (rVer st).2.1 := by
  unfold rVer at h ⊢
  dsimp only at h ⊢
  obtain ⟨h1, h2⟩ := rText_one h
  obtain ⟨h3, h4⟩ := rFlag_one h1
  obtain ⟨h5, h6, _⟩ := rVec_one h3
  obtain ⟨h7, h8⟩ := rDot_one h5
  refine ⟨h7, ?_⟩
  unfold encV
  dsimp only
  rw [str_data, List.append_assoc, List.append_assoc, List.append_assoc, ← h2, ← h4, ← h6]
  exact h8
theorem itV_one : ∀ (k : Nat) (st : St), (itV k st).2.2 = 0 → st.2 = 0 ∧ st.1 = encVs (itV k st).1 ++ (itV k st).2.1
  | 0, st, h => ⟨h, by simp [itV, encVs]⟩
  | k + 1, st, h => by
    have h' : (rVer (itV k st).2).2.2 = 0 := h
    obtain ⟨h1, h2⟩ := rVer_one h'
    obtain ⟨h3, h4⟩ := itV_one k st h1
    refine ⟨h3, ?_⟩
    show st.1 = encVs ((itV k st).1 ++ [(rVer (itV k st).2).1]) ++ (rVer (itV k st).2).2.1
    rw [encVs_snoc, List.append_assoc, ← h2]
    exact h4
theorem endV_one {x : List Vc.V × St} (h : (endV x).2.2 = 0) : x.2.2 = 0 ∧ Vc.checkLeaf x.1 = 0 ∧ endV x = x := by
  have h' : (fail x.2 (Vc.checkLeaf x.1)).2 = 0 := h
  obtain ⟨h1, h2⟩ := fail_parts h'
  refine ⟨h1, h2, ?_⟩
  unfold endV
  rw [h2, fail_zero, if_neg (by simpa using h1)]
theorem rLeaf_one {st : St} (h : (rLeaf st).2.2 = 0) : st.2 = 0 ∧ st.1 = encLeaf (rLeaf st).1 ++ (rLeaf st).2.1 ∧ Vc.checkLeaf (rLeaf st).1 = 0 := by
  unfold rLeaf at h ⊢
  obtain ⟨h1, h2, h3⟩ := endV_one h
  rw [h3]
  obtain ⟨h4, h5⟩ := itV_one _ _ h1
  obtain ⟨h6, h7⟩ := rNumber_one h4
  refine ⟨h6, ?_, h2⟩
  unfold encLeaf
  rw [itV_len, List.append_assoc, ← h5]
  have h8 := rNumber_nonneg st 64
  rw [Int.toNat_of_nonneg h8]
  exact h7
theorem rDone_zero {st : St} (h : rDone st = 0) : st.2 = 0 ∧ st.1 = [] := by
  unfold rDone at h
  by_cases h1 : st.2 = 0 ∧ st.1 ≠ []
  · rw [if_pos h1] at h
    cases h
  · rw [if_neg h1] at h
    exact ⟨h, Classical.byContradiction fun h2 => h1 ⟨h, h2⟩⟩
theorem ofLeaf_one {s : List UInt8} (h : (ofLeaf s).2 = 0) : Vc.checkLeaf (ofLeaf s).1 = 0 ∧ encLeaf (ofLeaf s).1 = s := by
  have h' : rDone (rLeaf (s, 0)).2 = 0 := h
  obtain ⟨h1, h2⟩ := rDone_zero h'
  obtain ⟨_, h3, h4⟩ := rLeaf_one h1
  have e : ofLeaf s = ((rLeaf (s, 0)).1, 0) := by
    unfold ofLeaf
    rw [h', if_neg (by simp)]
  rw [e]
  refine ⟨h4, ?_⟩
  rw [h2, List.append_nil] at h3
  exact h3.symm
end Go.Proofs.YthchcjjpplcfnaaDoor
