/-
  Plain facts: a message that may be is read as it was written, and bytes that are read are those that are written.
-/
import Derived.Test.YthecijjmgfempaaGreatMathB
import Derived.Test.YthecijjmgfempaaGreatX1
namespace Go.Proofs.YthecijjmgfempaaGreat
open Go.RowKit

def encRs (l : List (List Vc.D)) : List UInt8 := (l.map encVec).flatten
def encRows (l : List (List Vc.D)) : List UInt8 := Cnt.putL l.length ++ encRs l
def encOwn (m : Msg) : List UInt8 :=
  if m.kind = 2 then m.root ++ (encVec m.ctx ++ encRows m.rows) else if m.kind = 3 then m.root ++ encT m.path.data.toList else if m.kind = 4 then encT m.path.data.toList ++ encT m.text.data.toList else if m.kind = 6 then flagB m.turn else []
def encM (m : Msg) : List UInt8 := Cnt.putL m.kind ++ (Cnt.putL m.frm ++ (Cnt.putL m.dst ++ (Cnt.putL m.sid ++ encOwn m)))
theorem encRs_drop (l : List (List Vc.D)) (k : Nat) (x : List Vc.D) (h : l[k]? = some x) : encRs (l.drop k) = encVec x ++ encRs (l.drop (k + 1)) := by
  obtain ⟨h1, rfl⟩ := List.getElem?_eq_some_iff.1 h
  rw [List.drop_eq_getElem_cons h1]
  unfold encRs
  rw [List.map_cons, List.flatten_cons]
theorem encRs_snoc (l : List (List Vc.D)) (x : List Vc.D) : encRs (l ++ [x]) = encRs l ++ encVec x := by simp [encRs]
theorem wVecs_ok : ∀ (l : List (List Vc.D)) (b : List UInt8), (∀ d ∈ l, Vc.check d = 0) → wVecs (b, 0) l = (b ++ encRs l, 0)
  | [], b, _ => by simp [wVecs, encRs]
  | d :: l, b, h => by
    have e : wVecs (b, 0) (d :: l) = wVecs (wVec (b, 0) d) l := rfl
    rw [e, wVec_enc b (h d (by simp)), wVecs_ok l _ (fun x hx => h x (by simp [hx]))]
    simp [encRs]
theorem wRows_ok (b : List UInt8) {l : List (List Vc.D)} (hn : l.length ≤ 64) (h : ∀ d ∈ l, Vc.check d = 0) : wRows (b, 0) l = (b ++ encRows l, 0) := by
  unfold wRows
  rw [wNumber_ok b (by omega) (by omega), wVecs_ok l _ h, List.append_assoc]
  rfl
theorem wDigest_ok (b : List UInt8) (d : List UInt8) : wDigest (b, 0) d = (b ++ d, 0) := rfl
theorem wHead_ok {m : Msg} (h : headM m = 0) : wHead ([], 0) m = (Cnt.putL m.kind ++ (Cnt.putL m.frm ++ (Cnt.putL m.dst ++ Cnt.putL m.sid)), 0) := by
  obtain ⟨h1, h2, h3, h4, h5, h6, _, h7, h8⟩ := headM_zero h
  unfold wHead
  rw [wNumber_ok _ (by omega) (by omega), wNumber_ok _ (by omega) (by omega), wNumber_ok _ (by omega) (by omega), wNumber_ok _ (by omega) (by omega)]
  simp
theorem path_le51 {s : ByteArray} (h : Pth.Pt.check s.data.toList = 0) : s.size ≤ 51 := by
  unfold Pth.Pt.check at h
  split at h
  · exact absurd h (by omega)
  · rename_i h1
    rw [size_data] at h1
    omega
theorem path_small {s : ByteArray} (h : pathErr s = 0) : s.size ≤ 51 := by
  unfold pathErr at h
  split at h
  · rename_i e
    rw [e]
    exact Nat.zero_le _
  · exact path_le51 h
theorem wMsg_ok {m : Msg} (h : checkM m = 0) : wMsg ([], 0) m = (encM m, 0) := by
  obtain ⟨h1, _, h3, h4, h5, h6, h7⟩ := checkM_zero h
  have hr := (rowsErr_zero m.rows).1 h6
  have hp := path_small h3
  unfold wMsg encM encOwn
  rw [wHead_ok h1]
  split
  · rw [wDigest_ok, wVec_enc _ h4, wRows_ok _ h5 hr]
    simp
  · split
    · rw [wDigest_ok, wText_ok _ (by omega)]
      simp
    · split
      · rw [wText_ok _ (by omega), wText_ok _ h7]
        simp
      · split
        · rw [wFlag_ok]
          simp
        · simp
theorem bytesM_ok {m : Msg} (h : checkM m = 0) : bytesM m = (encM m, 0) := by
  unfold bytesM
  rw [if_neg (by simp [h]), wMsg_ok h]
  rfl
theorem bytesM_err (m : Msg) : (bytesM m).2 = checkM m := by
  by_cases h : checkM m = 0
  · rw [bytesM_ok h, h]
  · unfold bytesM
    rw [if_pos h]

theorem itR_back {l : List (List Vc.D)} (h : ∀ d ∈ l, Vc.check d = 0) (r : List UInt8) : ∀ k, k ≤ l.length → itR k (encRs l ++ r, 0) = (l.take k, (encRs (l.drop k) ++ r, 0))
  | 0, _ => by simp [itR]
  | k + 1, hk => by
    obtain ⟨x, hx⟩ : ∃ x, l[k]? = some x := ⟨_, List.getElem?_eq_getElem (by omega)⟩
    have e := itR_back h r k (by omega)
    have hm := h x (List.mem_of_getElem? hx)
    unfold itR
    rw [e]
    dsimp only
    rw [encRs_drop l k x hx, List.append_assoc, rVec_back hm]
    rw [List.take_add_one, hx]
    rfl
theorem rRows_back {l : List (List Vc.D)} (hn : l.length ≤ 64) (h : ∀ d ∈ l, Vc.check d = 0) (r : List UInt8) : rRows (encRows l ++ r, 0) = (l, (r, 0)) := by
  unfold rRows encRows
  rw [List.append_assoc, back_number (by omega) (by omega) 64 (by omega)]
  dsimp only
  rw [Int.toNat_natCast, itR_back h r l.length (Nat.le_refl _), List.take_length, List.drop_length]
  rfl
theorem str_self (s : ByteArray) : str s.data.toList = s := by cases s; simp [str]
theorem head_back {m : Msg} (h : headM m = 0) (r : List UInt8) :
    rNumber (Cnt.putL m.kind ++ (Cnt.putL m.frm ++ (Cnt.putL m.dst ++ (Cnt.putL m.sid ++ r))), 0) 1073741824 = (m.kind, (Cnt.putL m.frm ++ (Cnt.putL m.dst ++ (Cnt.putL m.sid ++ r)), 0)) ∧
    rHS m.kind (Cnt.putL m.frm ++ (Cnt.putL m.dst ++ (Cnt.putL m.sid ++ r)), 0) = (r, 0) ∧ rH m.kind (Cnt.putL m.frm ++ (Cnt.putL m.dst ++ (Cnt.putL m.sid ++ r)), 0) = { zeroM with kind := m.kind, frm := m.frm, dst := m.dst, sid := m.sid } := by
  obtain ⟨h1, h2, h3, h4, h5, h6, _, h7, h8⟩ := headM_zero h
  have e0 : kindErr m.kind = 0 := by unfold kindErr; rw [if_neg (by omega)]
  have b1 := back_number (n := m.frm) (by omega) (by omega) 63 (by omega) (Cnt.putL m.dst ++ (Cnt.putL m.sid ++ r))
  have b2 := back_number (n := m.dst) (by omega) (by omega) 63 (by omega) (Cnt.putL m.sid ++ r)
  have b3 := back_number (n := m.sid) (by omega) (by omega) 1048576 (by omega) r
  refine ⟨back_number (by omega) (by omega) _ (by omega) _, ?_, ?_⟩
  · unfold rHS
    rw [e0, fail_zero, b1]
    dsimp only
    rw [b2]
    dsimp only
    rw [b3]
  · unfold rH
    rw [e0, fail_zero, b1]
    dsimp only
    rw [b2]
    dsimp only
    rw [b3]
theorem rMsg_back {m : Msg} (h : checkM m = 0) (hr : m.root.length = 32) : rMsg (encM m, 0) = (m, ([], 0)) := by
  obtain ⟨h1, h2, h3, h4, h5, h6, h7⟩ := checkM_zero h
  have hrs := (rowsErr_zero m.rows).1 h6
  have hp := path_small h3
  obtain ⟨g1, g2, g3⟩ := head_back h1 (encOwn m)
  have hf := (own_iff m).2 h2
  unfold rMsg encM
  rw [g1]
  dsimp only
  unfold rBody
  rw [g2, g3]
  unfold blankM at hf
  unfold encOwn
  obtain ⟨K, F, T, S, TU, P, R, C, RW, TX⟩ := m
  dsimp only at *
  by_cases k2 : K = 2
  · rw [if_pos k2] at hf ⊢
    rw [if_pos k2, back_digest hr]
    dsimp only
    rw [rVec_back h4]
    dsimp only
    have e := rRows_back h5 hrs []
    rw [List.append_nil] at e
    rw [e]
    simp only [zeroM, Msg.mk.injEq, true_and] at hf ⊢
    simp_all
  rw [if_neg k2] at hf ⊢
  rw [if_neg k2]
  by_cases k3 : K = 3
  · rw [if_pos k3] at hf ⊢
    rw [if_pos k3, back_digest hr]
    dsimp only
    have e := back_textM (l := P.data.toList) (most := 51) (by rw [size_data]; omega) (by omega) []
    rw [List.append_nil] at e
    rw [e]
    dsimp only
    rw [str_self]
    simp only [zeroM, Msg.mk.injEq, true_and] at hf ⊢
    simp_all
  rw [if_neg k3] at hf ⊢
  rw [if_neg k3]
  by_cases k4 : K = 4
  · rw [if_pos k4] at hf ⊢
    rw [if_pos k4, back_textM (l := P.data.toList) (most := 51) (by rw [size_data]; omega) (by omega)]
    dsimp only
    have e := back_textM (l := TX.data.toList) (most := 65536) (by rw [size_data]; omega) (by omega) []
    rw [List.append_nil] at e
    rw [e]
    dsimp only
    rw [str_self, str_self]
    simp only [zeroM, Msg.mk.injEq, and_true, true_and] at hf ⊢
    simp_all
  rw [if_neg k4] at hf ⊢
  rw [if_neg k4]
  by_cases k6 : K = 6
  · rw [if_pos k6] at hf ⊢
    rw [if_pos k6]
    have e := back_flag TU []
    rw [List.append_nil] at e
    rw [e]
    simp only [zeroM, Msg.mk.injEq, true_and] at hf ⊢
    simp_all
  rw [if_neg k6] at hf ⊢
  rw [if_neg k6, hf]
theorem read_back {m : Msg} (h : checkM m = 0) (hr : m.root.length = 32) : readM ((bytesM m).1, 0) = (m, 0) := by
  rw [bytesM_ok h]
  have e : readErr (encM m, 0) = 0 := by
    unfold readErr
    rw [rMsg_back h hr]
    rw [if_neg (by simp [rDone])]
    exact h
  unfold readM
  rw [if_neg (by simp [e]), rMsg_back h hr]

theorem rDigest_one {st : St} (h : (rDigest st).2.2 = 0) : st.2 = 0 ∧ st.1 = (rDigest st).1 ++ (rDigest st).2.1 := by
  unfold rDigest at h ⊢
  split at h
  · rename_i h1
    exact absurd h h1
  · rename_i h1
    split at h
    · exact absurd h (by simp)
    · rename_i h2
      rw [if_neg h1, if_neg h2]
      exact ⟨Classical.not_not.1 h1, (List.take_append_drop 32 st.1).symm⟩
theorem itR_one : ∀ (k : Nat) (st : St), (itR k st).2.2 = 0 → st.2 = 0 ∧ st.1 = encRs (itR k st).1 ++ (itR k st).2.1
  | 0, st, h => ⟨h, rfl⟩
  | k + 1, st, h => by
    have h' : (rVec (itR k st).2).2.2 = 0 := h
    obtain ⟨h1, h2, _⟩ := rVec_one h'
    obtain ⟨h3, h4⟩ := itR_one k st h1
    refine ⟨h3, ?_⟩
    show st.1 = encRs ((itR k st).1 ++ [(rVec (itR k st).2).1]) ++ (rVec (itR k st).2).2.1
    rw [encRs_snoc, List.append_assoc, ← h2]
    exact h4
theorem rRows_one {st : St} (h : (rRows st).2.2 = 0) : st.2 = 0 ∧ st.1 = encRows (rRows st).1 ++ (rRows st).2.1 := by
  obtain ⟨h1, h2⟩ := itR_one _ _ h
  obtain ⟨h3, h4⟩ := rNumber_one h1
  refine ⟨h3, ?_⟩
  have hl : ((rRows st).1.length : Int) = (rNumber st 64).1 := by
    show ((itR (rNumber st 64).1.toNat (rNumber st 64).2).1.length : Int) = _
    rw [itR_len]
    have := rNumber_nonneg st 64
    omega
  unfold encRows
  rw [hl, List.append_assoc]
  exact h4.trans (by rw [h2]; rfl)
theorem head_one {k : Int} {S : St} (h : (rHS k S).2 = 0) : S.2 = 0 ∧ S.1 = Cnt.putL (rH k S).frm ++ (Cnt.putL (rH k S).dst ++ (Cnt.putL (rH k S).sid ++ (rHS k S).1)) := by
  obtain ⟨h1, h2⟩ := rNumber_one h
  obtain ⟨h3, h4⟩ := rNumber_one h1
  obtain ⟨h5, h6⟩ := rNumber_one h3
  obtain ⟨h7, h8⟩ := fail_parts h5
  refine ⟨h7, ?_⟩
  have e : (fail S (kindErr k)).1 = S.1 := by rw [h8, fail_zero]
  rw [← e, h6, h4, h2]
  rfl
theorem rMsg_one {st : St} (h : (rMsg st).2.2 = 0) : st.2 = 0 ∧ st.1 = encM (rMsg st).1 ++ (rMsg st).2.1 := by
  obtain ⟨X, hX⟩ : ∃ X, rNumber st 1073741824 = X := ⟨_, rfl⟩
  have hn := @rNumber_one st 1073741824
  unfold rMsg at h ⊢
  rw [hX] at h hn ⊢
  obtain ⟨k, S⟩ := X
  dsimp only at h hn ⊢
  have key : ∀ (m : Msg) (r : List UInt8), m.kind = k → m.frm = (rH k S).frm → m.dst = (rH k S).dst → m.sid = (rH k S).sid → (rHS k S).2 = 0 → (rHS k S).1 = encOwn m ++ r → st.2 = 0 ∧ st.1 = encM m ++ r := by
    intro m r e1 e2 e3 e4 h1 h2
    obtain ⟨h3, h4⟩ := head_one h1
    obtain ⟨h5, h6⟩ := hn h3
    refine ⟨h5, ?_⟩
    unfold encM
    rw [h6, h4, h2, e1, e2, e3, e4]
    simp
  unfold rBody at h ⊢
  by_cases k2 : k = 2
  · rw [if_pos k2] at h ⊢
    obtain ⟨h1, h2⟩ := rRows_one h
    obtain ⟨h3, h4, _⟩ := rVec_one h1
    obtain ⟨h5, h6⟩ := rDigest_one h3
    refine key _ _ rfl rfl rfl rfl h5 ?_
    unfold encOwn
    rw [if_pos (show (rH k S).kind = 2 from k2)]
    rw [h6, h4, h2]
    simp
  rw [if_neg k2] at h ⊢
  by_cases k3 : k = 3
  · rw [if_pos k3] at h ⊢
    obtain ⟨h1, h2⟩ := rText_one h
    obtain ⟨h3, h4⟩ := rDigest_one h1
    refine key _ _ rfl rfl rfl rfl h3 ?_
    unfold encOwn
    rw [if_neg (show ¬ (rH k S).kind = 2 from k2), if_pos (show (rH k S).kind = 3 from k3)]
    rw [h4, h2]
    simp [str_data]
  rw [if_neg k3] at h ⊢
  by_cases k4 : k = 4
  · rw [if_pos k4] at h ⊢
    obtain ⟨h1, h2⟩ := rText_one h
    obtain ⟨h3, h4⟩ := rText_one h1
    refine key _ _ rfl rfl rfl rfl h3 ?_
    unfold encOwn
    rw [if_neg (show ¬ (rH k S).kind = 2 from k2), if_neg (show ¬ (rH k S).kind = 3 from k3), if_pos (show (rH k S).kind = 4 from k4)]
    rw [h4, h2]
    simp [str_data]
  rw [if_neg k4] at h ⊢
  by_cases k6 : k = 6
  · rw [if_pos k6] at h ⊢
    obtain ⟨h1, h2⟩ := rFlag_one h
    refine key _ _ rfl rfl rfl rfl h1 ?_
    unfold encOwn
    rw [if_neg (show ¬ (rH k S).kind = 2 from k2), if_neg (show ¬ (rH k S).kind = 3 from k3), if_neg (show ¬ (rH k S).kind = 4 from k4), if_pos (show (rH k S).kind = 6 from k6)]
    exact h2
  rw [if_neg k6] at h ⊢
  refine key _ _ rfl rfl rfl rfl h ?_
  unfold encOwn
  rw [if_neg (show ¬ (rH k S).kind = 2 from k2), if_neg (show ¬ (rH k S).kind = 3 from k3), if_neg (show ¬ (rH k S).kind = 4 from k4), if_neg (show ¬ (rH k S).kind = 6 from k6)]
  rfl
theorem read_one {s : List UInt8} (h : (readM (s, 0)).2 = 0) : bytesM (readM (s, 0)).1 = (s, 0) := by
  by_cases he : readErr (s, 0) = 0
  · have e : readM (s, 0) = ((rMsg (s, 0)).1, 0) := by unfold readM; rw [if_neg (by simp [he])]
    rw [e]
    unfold readErr at he
    split at he
    · contradiction
    · rename_i hd
      obtain ⟨h1, h2⟩ := rDone_zero (Classical.not_not.1 hd)
      obtain ⟨_, h4⟩ := rMsg_one h1
      rw [h2, List.append_nil] at h4
      rw [bytesM_ok he, ← h4]
  · have e : readM (s, 0) = (zeroM, readErr (s, 0)) := by unfold readM; rw [if_pos he]
    rw [e] at h
    exact absurd h he
end Go.Proofs.YthecijjmgfempaaGreat
