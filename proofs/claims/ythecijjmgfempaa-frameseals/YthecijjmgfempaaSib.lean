/-
  Plain facts on versions side by side: no program, no world. Conditions: none but those that each theorem names.
-/
import Derived.Test.YthecijjmgfempaaCMath
import Derived.Test.YthecijjmgfempaaCRow
import Derived.Test.YthecijjmgfempaaRow
namespace Go.Proofs.Ythecijjmgfempaa.Vc

/-- A version. -/
structure V where
  dot : D
  past : List D
  dead : Bool
  data : ByteArray

def hasV (l : List D) (d : D) : Bool := decide (1 ≤ d.2) && decide (d.2 ≤ get l d.1)
theorem hasV_up {l : List D} (h : Up (-1) l) (d : D) : hasV l d = true ↔ 1 ≤ d.2 ∧ d.2 ≤ look l d.1 := by
  unfold hasV
  rw [get_vec h, Bool.and_eq_true, decide_eq_true_iff, decide_eq_true_iff]
def chkV (v : V) : Int := if dotErr v.dot ≠ 0 then dotErr v.dot else if check v.past ≠ 0 then check v.past else if hasV v.past v.dot = true then 8 else if 48 < v.data.size then 2 else if v.dead = true ∧ 0 < v.data.size then 7 else 0
/-- A version that may be. -/
structure OkV (v : V) : Prop where
  dot : Ok v.dot
  past : Up (-1) v.past
  new : look v.past v.dot.1 < v.dot.2
  data : v.data.size ≤ 48
  dead : ¬ (v.dead = true ∧ 0 < v.data.size)
theorem chkV_zero (v : V) : chkV v = 0 ↔ OkV v := by
  unfold chkV
  by_cases h1 : dotErr v.dot = 0
  · rw [if_neg (by simpa using h1)]
    have hok := (dotErr_zero _).1 h1
    by_cases h2 : check v.past = 0
    · rw [if_neg (by simpa using h2)]
      have hup := (check_zero _).1 h2
      by_cases h3 : hasV v.past v.dot = true
      · rw [if_pos h3]
        constructor
        · intro h; omega
        · intro h; have := (hasV_up hup _).1 h3; have := h.new; omega
      · rw [if_neg h3]
        have hn : look v.past v.dot.1 < v.dot.2 := by
          unfold Ok at hok
          by_cases hl : look v.past v.dot.1 < v.dot.2
          · exact hl
          · exact absurd ((hasV_up hup _).2 ⟨by omega, by omega⟩) h3
        by_cases h4 : 48 < v.data.size
        · rw [if_pos h4]
          constructor
          · intro h; omega
          · intro h; have := h.data; omega
        · rw [if_neg h4]
          by_cases h5 : v.dead = true ∧ 0 < v.data.size
          · rw [if_pos h5]
            constructor
            · intro h; omega
            · intro h; exact absurd h5 h.dead
          · rw [if_neg h5]
            exact ⟨fun _ => ⟨hok, hup, hn, by omega, h5⟩, fun _ => rfl⟩
    · rw [if_pos (by simpa using h2)]
      exact ⟨fun h => absurd h h2, fun h => absurd ((check_zero _).2 h.past) h2⟩
  · rw [if_pos (by simpa using h1)]
    exact ⟨fun h => absurd h h1, fun h => absurd ((dotErr_zero _).2 h.dot) h1⟩

/-- A version covers another one. -/
def covers (a b : V) : Bool := hasV a.past b.dot
theorem covers_ok {a b : V} (h : OkV a) (hb : OkV b) : covers a b = true ↔ b.dot.2 ≤ look a.past b.dot.1 := by
  unfold covers
  rw [hasV_up h.past]
  have := hb.dot
  unfold Ok at this
  exact ⟨fun h => h.2, fun h => ⟨by omega, h⟩⟩
def covered (l : List V) (v : V) : Bool := l.any fun u => covers u v
theorem covered_no (l : List V) (v : V) : covered l v = false ↔ ∀ u ∈ l, covers u v = false := by
  unfold covered
  rw [List.any_eq_false]
  exact ⟨fun h u hu => by simpa using h u hu, fun h u hu => by simp [h u hu]⟩

/-- What is wrong with the versions, behind a peer. -/
def chkL : Int → List V → Int
  | _, [] => 0
  | q, v :: l => if chkV v ≠ 0 then chkV v else if v.dot.1 ≤ q then 8 else chkL v.dot.1 l
def VUp : Int → List V → Prop
  | _, [] => True
  | q, v :: l => OkV v ∧ q < v.dot.1 ∧ VUp v.dot.1 l
theorem chkL_zero : ∀ (l : List V) (q : Int), chkL q l = 0 ↔ VUp q l
  | [], _ => by simp [chkL, VUp]
  | v :: l, q => by
    unfold chkL VUp
    by_cases h : chkV v = 0
    · rw [if_neg (by simpa using h)]
      have hok := (chkV_zero v).1 h
      by_cases h2 : v.dot.1 ≤ q
      · rw [if_pos h2]
        constructor
        · intro h; omega
        · intro h; omega
      · rw [if_neg h2, chkL_zero l]
        exact ⟨fun h => ⟨hok, by omega, h⟩, fun h => h.2.2⟩
    · rw [if_pos (by simpa using h)]
      exact ⟨fun h' => absurd h' h, fun h' => absurd ((chkV_zero v).2 h'.1) h⟩
theorem VUp.weak : ∀ {l : List V} {p q : Int}, VUp p l → q ≤ p → VUp q l
  | [], _, _, _, _ => trivial
  | _ :: _, _, _, h, hq => ⟨h.1, by have := h.2.1; omega, h.2.2⟩
theorem VUp.mem : ∀ {l : List V} {q : Int} {v : V}, VUp q l → v ∈ l → OkV v ∧ q < v.dot.1
  | [], _, _, _, h => by cases h
  | u :: l, q, v, h, hv => by
    rcases List.mem_cons.1 hv with rfl | hv
    · exact ⟨h.1, h.2.1⟩
    · have := VUp.mem h.2.2 hv
      exact ⟨this.1, by have := h.2.1; omega⟩
theorem VUp.one : ∀ {l : List V} {q : Int} {u v : V}, VUp q l → u ∈ l → v ∈ l → u.dot.1 = v.dot.1 → u = v
  | [], _, _, _, _, h, _, _ => by cases h
  | x :: l, q, u, v, h, hu, hv, e => by
    rcases List.mem_cons.1 hu with hu | hu
    · rcases List.mem_cons.1 hv with hv | hv
      · rw [hu, hv]
      · have := (VUp.mem h.2.2 hv).2; subst hu; omega
    · rcases List.mem_cons.1 hv with hv | hv
      · have := (VUp.mem h.2.2 hu).2; subst hv; omega
      · exact VUp.one h.2.2 hu hv e
theorem VUp.ext : ∀ {a b : List V} {p q : Int}, VUp p a → VUp q b → (∀ x, x ∈ a ↔ x ∈ b) → a = b
  | [], [], _, _, _, _, _ => rfl
  | [], e :: b, _, _, _, _, h => by have := (h e).2 (List.mem_cons_self ..); cases this
  | d :: a, [], _, _, _, _, h => by have := (h d).1 (List.mem_cons_self ..); cases this
  | d :: a, e :: b, p, q, ha, hb, h => by
    have hde : d = e := by
      rcases List.mem_cons.1 ((h d).1 (List.mem_cons_self ..)) with rfl | hd
      · rfl
      · rcases List.mem_cons.1 ((h e).2 (List.mem_cons_self ..)) with rfl | he
        · rfl
        · have h1 := (VUp.mem hb.2.2 hd).2
          have h2 := (VUp.mem ha.2.2 he).2
          omega
    subst hde
    rw [VUp.ext ha.2.2 hb.2.2 fun x => ?_]
    constructor
    · intro hx
      rcases List.mem_cons.1 ((h x).1 (List.mem_cons_of_mem _ hx)) with rfl | hx'
      · have := (VUp.mem ha.2.2 hx).2; omega
      · exact hx'
    · intro hx
      rcases List.mem_cons.1 ((h x).2 (List.mem_cons_of_mem _ hx)) with rfl | hx'
      · have := (VUp.mem hb.2.2 hx).2; omega
      · exact hx'
theorem VUp.len : ∀ {l : List V} {q : Int}, VUp q l → -1 ≤ q → (l.length : Int) ≤ 63 - q ∨ l = []
  | [], _, _, _ => .inr rfl
  | v :: l, q, h, hq => by
    have h1 := h.1.dot
    unfold Ok at h1
    rcases VUp.len h.2.2 (by have := h.2.1; omega) with h2 | rfl
    · left; rw [List.length_cons]; have := h.2.1; omega
    · left; have := h.2.1; simp; omega
theorem VUp.snoc : ∀ {l : List V} {q : Int} {v : V}, VUp q l → OkV v → q < v.dot.1 → (∀ u ∈ l, u.dot.1 < v.dot.1) → VUp q (l ++ [v])
  | [], _, _, _, h, h', _ => ⟨h, h', trivial⟩
  | u :: _, _, _, h, hv, _, hl => ⟨h.1, h.2.1, VUp.snoc h.2.2 hv (hl u (List.mem_cons_self ..)) fun x hx => hl x (List.mem_cons_of_mem _ hx)⟩

def checkLeaf (l : List V) : Int := if 64 < l.length then 2 else if chkL (-1) l ≠ 0 then chkL (-1) l else if (l.any fun v => covered l v) = true then 7 else 0
/-- A leaf that may be. -/
structure LeafOk (l : List V) : Prop where
  up : VUp (-1) l
  free : ∀ u ∈ l, ∀ v ∈ l, covers u v = false
theorem LeafOk.len {l : List V} (h : LeafOk l) : l.length ≤ 64 := by
  rcases h.up.len (by omega) with h | rfl
  · omega
  · simp
theorem checkLeaf_zero (l : List V) : checkLeaf l = 0 ↔ LeafOk l := by
  unfold checkLeaf
  by_cases h1 : 64 < l.length
  · rw [if_pos h1]
    constructor
    · intro h; omega
    · intro h; have := h.len; omega
  · rw [if_neg h1]
    by_cases h2 : chkL (-1) l = 0
    · rw [if_neg (by simpa using h2)]
      have hup := (chkL_zero l _).1 h2
      by_cases h3 : (l.any fun v => covered l v) = true
      · rw [if_pos h3]
        constructor
        · intro h; omega
        · intro h
          obtain ⟨v, hv, hc⟩ := List.any_eq_true.1 h3
          rw [(covered_no l v).2 fun u hu => h.free u hu v hv] at hc
          cases hc
      · rw [if_neg h3]
        refine ⟨fun _ => ⟨hup, fun u hu v hv => ?_⟩, fun _ => rfl⟩
        have h4 : covered l v = false := by
          cases hcv : covered l v with
          | false => rfl
          | true => exact absurd (List.any_eq_true.2 ⟨v, hv, hcv⟩) h3
        exact (covered_no l v).1 h4 u hu
    · rw [if_pos (by simpa using h2)]
      exact ⟨fun h => absurd h h2, fun h => absurd ((chkL_zero l _).2 h.up) h2⟩
theorem leaf_nil : LeafOk [] := ⟨trivial, fun _ h => by cases h⟩

/-- What all dots and all pasts come to together. -/
def cov1 (c : List D) (v : V) : List D := joins (joins c v.past) [v.dot]
def coverF (l : List V) : List D := l.foldl cov1 []
def coverL (l : List V) : List D := if checkLeaf l = 0 then coverF l else []
def reach (v : V) (p : Int) : Int := max (look v.past p) (if v.dot.1 = p then v.dot.2 else 0)
def top : List V → Int → Int
  | [], _ => 0
  | v :: l, p => max (reach v p) (top l p)
theorem one_up {d : D} (h : Ok d) : Up (-1) [d] := ⟨h, by unfold Ok at h; omega, trivial⟩
theorem one_look (d : D) (p : Int) : look [d] p = if d.1 = p then d.2 else 0 := rfl
theorem joins_vec {a b : List D} (ha : Up (-1) a) (hb : Up (-1) b) : joins a b = join a b := by unfold joins; rw [if_pos ⟨(check_zero a).2 ha, (check_zero b).2 hb⟩]
theorem cov1_up {c : List D} {v : V} (hc : Up (-1) c) (hv : OkV v) : Up (-1) (cov1 c v) ∧ ∀ p, look (cov1 c v) p = max (look c p) (reach v p) := by
  unfold cov1
  rw [joins_vec hc hv.past, joins_vec (join_up hc hv.past) (one_up hv.dot)]
  refine ⟨join_up (join_up hc hv.past) (one_up hv.dot), fun p => ?_⟩
  rw [join_look (join_up hc hv.past) (one_up hv.dot), join_look hc hv.past, one_look]
  unfold reach
  omega
theorem fold_up : ∀ {l : List V} {q : Int} {c : List D}, VUp q l → Up (-1) c → Up (-1) (l.foldl cov1 c) ∧ ∀ p, look (l.foldl cov1 c) p = max (look c p) (top l p)
  | [], _, c, _, hc => ⟨hc, fun p => by have := look_bd p hc; show look c p = max (look c p) 0; omega⟩
  | v :: l, q, c, h, hc => by
    obtain ⟨h1, h2⟩ := cov1_up hc h.1
    obtain ⟨h3, h4⟩ := fold_up h.2.2 h1
    refine ⟨h3, fun p => ?_⟩
    show look (l.foldl cov1 (cov1 c v)) p = max (look c p) (max (reach v p) (top l p))
    rw [h4 p, h2 p]
    omega
theorem top_zero : ∀ (l : List V) (p : Int), 0 ≤ top l p
  | [], _ => Int.le_refl _
  | v :: l, p => by have := top_zero l p; show 0 ≤ max (reach v p) (top l p); omega
theorem coverF_up {l : List V} {q : Int} (h : VUp q l) : Up (-1) (coverF l) ∧ ∀ p, look (coverF l) p = top l p := by
  obtain ⟨h1, h2⟩ := fold_up h (c := []) trivial
  refine ⟨h1, fun p => ?_⟩
  unfold coverF
  rw [h2 p]
  have := top_zero l p
  show max 0 (top l p) = top l p
  omega
theorem coverL_leaf {l : List V} (h : LeafOk l) : coverL l = coverF l := by unfold coverL; rw [if_pos ((checkLeaf_zero l).2 h)]
theorem coverL_up (l : List V) : Up (-1) (coverL l) := by
  unfold coverL
  split
  · rename_i h; exact (coverF_up ((checkLeaf_zero l).1 h).up).1
  · trivial
theorem top_le : ∀ {l : List V} {p k : Int}, 0 ≤ k → (∀ v ∈ l, reach v p ≤ k) → top l p ≤ k
  | [], _, _, h, _ => h
  | v :: l, p, k, h, hl => by
    have h1 := hl v (List.mem_cons_self ..)
    have h2 := top_le h fun x hx => hl x (List.mem_cons_of_mem _ hx)
    show max (reach v p) (top l p) ≤ k
    omega
theorem le_top : ∀ {l : List V} {v : V} (p : Int), v ∈ l → reach v p ≤ top l p
  | [], _, _, h => by cases h
  | u :: l, v, p, h => by
    show reach v p ≤ max (reach u p) (top l p)
    rcases List.mem_cons.1 h with rfl | h
    · omega
    · have := le_top p h; omega

/-- What is left of two leaves. -/
def Free (a b : List V) (x : V) : Prop := (∀ u ∈ a, covers u x = false) ∧ ∀ u ∈ b, covers u x = false
def Best (a b : List V) (x : V) : Prop :=
  (x ∈ a ∧ Free a b x ∧ ∀ y ∈ b, y.dot.1 = x.dot.1 → Free a b y → y.dot.2 ≤ x.dot.2) ∨ (x ∈ b ∧ Free a b x ∧ ∀ y ∈ a, y.dot.1 = x.dot.1 → Free a b y → y.dot.2 < x.dot.2)
structure IsSync (a b s : List V) : Prop where
  up : VUp (-1) s
  mem : ∀ x, x ∈ s ↔ Best a b x
theorem IsSync.ext {a b s t : List V} (h : IsSync a b s) (h' : IsSync a b t) : s = t := VUp.ext h.up h'.up fun x => (h.mem x).trans (h'.mem x).symm
theorem Best.of {a b : List V} {x : V} (h : Best a b x) : (x ∈ a ∨ x ∈ b) ∧ Free a b x := by
  rcases h with h | h
  · exact ⟨.inl h.1, h.2.1⟩
  · exact ⟨.inr h.1, h.2.1⟩
theorem IsSync.leaf {a b s : List V} (h : IsSync a b s) : LeafOk s := ⟨h.up, fun u hu v hv => by
  obtain ⟨h1, _⟩ := ((h.mem u).1 hu).of
  obtain ⟨_, h2⟩ := ((h.mem v).1 hv).of
  rcases h1 with h1 | h1
  · exact h2.1 u h1
  · exact h2.2 u h1⟩
/-- What is live, what is written, what is deleted. -/
def live (l : List V) : List V := l.filter fun v => !v.dead
def overF (l : List V) (d : D) (dead : Bool) (data : ByteArray) : List V × Int := if hasV (coverL l) d = true then ([], 8) else ([⟨d, coverL l, dead, data⟩], 0)
def writeF (l : List V) (d : D) (data : ByteArray) : List V × Int := if checkLeaf l ≠ 0 then ([], checkLeaf l) else if dotErr d ≠ 0 then ([], dotErr d) else if 48 < data.size then ([], 2) else overF l d false data
def eraseF (l : List V) (d : D) : List V × Int := if checkLeaf l ≠ 0 then ([], checkLeaf l) else if dotErr d ≠ 0 then ([], dotErr d) else if (live l).length = 0 then ([], 3) else overF l d true ⟨#[]⟩
theorem coverL_len (l : List V) : (coverL l).length ≤ 64 := vec_len (coverL_up l)
theorem coverF_snoc (l : List V) (v : V) : coverF (l ++ [v]) = cov1 (coverF l) v := by unfold coverF; rw [List.foldl_append]; rfl
end Go.Proofs.Ythecijjmgfempaa.Vc

namespace Go.Proofs.Ythecijjmgfempaa
open Go.RowKit

/-! What is put. -/
def wDot (st : St) (d : Vc.D) : St := wNumber (wNumber st d.1) d.2
def wDots (st : St) (ds : List Vc.D) : St := ds.foldl wDot st
def wVec (st : St) (ds : List Vc.D) : St := wDots (wNumber (fail st (Vc.check ds)) ds.length) ds
def wVer (st : St) (v : Vc.V) : St := wText (wFlag (wVec (wDot st v.dot) v.past) v.dead) v.data
def wVers (st : St) (l : List Vc.V) : St := l.foldl wVer st
def wLeaf (st : St) (l : List Vc.V) : St := wVers (wNumber (fail st (Vc.checkLeaf l)) l.length) l

theorem fail_zero (st : St) : fail st 0 = st := by
  unfold fail
  split
  · rename_i h; exact Prod.ext rfl h.symm
  · rfl
theorem fail_bad {st : St} {e : Int} (h : e ≠ 0) : (fail st e).2 ≠ 0 := by
  unfold fail
  split
  · exact h
  · assumption
theorem fail_stays {st : St} (e : Int) (h : st.2 ≠ 0) : fail st e = st := if_neg h
theorem fail_len (st : St) (e : Int) : (fail st e).1.length = st.1.length := by
  unfold fail
  split <;> rfl
theorem wput_bad {st : St} (h : st.2 ≠ 0) (is : Bool) (b : List UInt8) : wput st is b = st := if_pos h
theorem wNumber_bad {st : St} (h : st.2 ≠ 0) (n : Int) : wNumber st n = st := wput_bad h _ _
theorem wDot_bad {st : St} (h : st.2 ≠ 0) (d : Vc.D) : wDot st d = st := by
  unfold wDot
  rw [wNumber_bad h, wNumber_bad h]
theorem wDots_bad {st : St} (h : st.2 ≠ 0) : ∀ ds : List Vc.D, wDots st ds = st
  | [] => rfl
  | d :: l => by
    show wDots (wDot st d) l = st
    rw [wDot_bad h]
    exact wDots_bad h l
theorem wVec_bad {st : St} {ds : List Vc.D} (h : Vc.check ds ≠ 0) : wVec st ds = fail st (Vc.check ds) := by
  unfold wVec
  rw [wNumber_bad (fail_bad h), wDots_bad (fail_bad h)]
theorem wVec_ok {st : St} {ds : List Vc.D} (h : Vc.check ds = 0) : wVec st ds = wDots (wNumber st ds.length) ds := by
  unfold wVec
  rw [h, fail_zero]
theorem wVec_stays {st : St} (h : st.2 ≠ 0) (ds : List Vc.D) : wVec st ds = st := by
  unfold wVec
  rw [fail_stays _ h, wNumber_bad h, wDots_bad h]
theorem wVer_bad {st : St} (h : st.2 ≠ 0) (v : Vc.V) : wVer st v = st := by
  unfold wVer wFlag wText
  rw [wDot_bad h, wVec_stays h, wput_bad h, wput_bad h]
theorem wVers_bad {st : St} (h : st.2 ≠ 0) : ∀ l : List Vc.V, wVers st l = st
  | [] => rfl
  | v :: l => by
    show wVers (wVer st v) l = st
    rw [wVer_bad h]
    exact wVers_bad h l
theorem wLeaf_bad {st : St} {l : List Vc.V} (h : Vc.checkLeaf l ≠ 0) : wLeaf st l = fail st (Vc.checkLeaf l) := by
  unfold wLeaf
  rw [wNumber_bad (fail_bad h), wVers_bad (fail_bad h)]
theorem wLeaf_ok {st : St} {l : List Vc.V} (h : Vc.checkLeaf l = 0) : wLeaf st l = wVers (wNumber st l.length) l := by
  unfold wLeaf
  rw [h, fail_zero]
theorem wLeaf_stays {st : St} (h : st.2 ≠ 0) (l : List Vc.V) : wLeaf st l = st := by
  unfold wLeaf
  rw [fail_stays _ h, wNumber_bad h, wVers_bad h]

theorem wNumber_len (st : St) (n : Int) : (wNumber st n).1.length ≤ st.1.length + 5 := by
  have h1 := wput_len st (decide (0 ≤ n) && decide (n ≤ 1073741824)) (Cnt.putL n)
  have h2 := Cnt.putL_len n
  unfold wNumber
  refine Nat.le_trans h1 ?_
  split <;> omega
theorem wFlag_len (st : St) (is : Bool) : (wFlag st is).1.length ≤ st.1.length + 1 := by
  have h1 := wput_len st true (flagB is)
  have h2 : (flagB is).length = 1 := by unfold flagB; split <;> rfl
  rw [h2] at h1
  exact h1
theorem wText_len (st : St) (s : ByteArray) : (wText st s).1.length ≤ st.1.length + 65541 ∧ (wText st s).1.length ≤ st.1.length + 5 + s.size := by
  have h1 := wput_len st (decide (s.size ≤ 65536)) (Cnt.putL s.size ++ s.data.toList)
  have h2 := Cnt.putL_len s.size
  unfold wText
  rw [List.length_append, size_data] at h1
  split at h1
  · rename_i h3
    have := of_decide_eq_true h3
    omega
  · omega
theorem wDot_len (st : St) (d : Vc.D) : (wDot st d).1.length ≤ st.1.length + 10 := by
  have h1 := wNumber_len st d.1
  have h2 := wNumber_len (wNumber st d.1) d.2
  unfold wDot
  omega
theorem wDots_len : ∀ (ds : List Vc.D) (st : St), (wDots st ds).1.length ≤ st.1.length + 10 * ds.length
  | [], st => by simp [wDots]
  | d :: l, st => by
    have h1 := wDots_len l (wDot st d)
    have h2 := wDot_len st d
    show (wDots (wDot st d) l).1.length ≤ _
    rw [List.length_cons]
    omega
/-- At each time a vector's bytes are few. -/
theorem wVec_part (st : St) (ds : List Vc.D) (k : Nat) : (wDots (wNumber (fail st (Vc.check ds)) ds.length) (ds.take k)).1.length ≤ st.1.length + 645 := by
  by_cases h : Vc.check ds = 0
  · have h1 := Vc.vec_len ((Vc.check_zero ds).1 h)
    have h2 := wDots_len (ds.take k) (wNumber (fail st (Vc.check ds)) ds.length)
    have h3 := wNumber_len (fail st (Vc.check ds)) ds.length
    rw [fail_len] at h3
    rw [List.length_take] at h2
    have h4 : min k ds.length ≤ 64 := by omega
    omega
  · rw [wNumber_bad (fail_bad h), wDots_bad (fail_bad h), fail_len]
    omega
theorem wVec_len (st : St) (ds : List Vc.D) : (wVec st ds).1.length ≤ st.1.length + 645 := by
  have h := wVec_part st ds ds.length
  rw [List.take_length] at h
  exact h
theorem wVer_len (st : St) (v : Vc.V) : (wVer st v).1.length ≤ st.1.length + 66197 ∧ (wVer st v).1.length ≤ st.1.length + 661 + v.data.size := by
  have h1 := wDot_len st v.dot
  have h2 := wVec_len (wDot st v.dot) v.past
  have h3 := wFlag_len (wVec (wDot st v.dot) v.past) v.dead
  have h4 := wText_len (wFlag (wVec (wDot st v.dot) v.past) v.dead) v.data
  unfold wVer
  omega
theorem wVers_len : ∀ (l : List Vc.V) (st : St), (wVers st l).1.length ≤ st.1.length + 66197 * l.length
  | [], st => by simp [wVers]
  | v :: l, st => by
    have h1 := wVers_len l (wVer st v)
    have h2 := (wVer_len st v).1
    show (wVers (wVer st v) l).1.length ≤ _
    rw [List.length_cons]
    omega
theorem wVers_few : ∀ (l : List Vc.V) (st : St), (∀ v ∈ l, v.data.size ≤ 48) → (wVers st l).1.length ≤ st.1.length + 709 * l.length
  | [], st, _ => by simp [wVers]
  | v :: l, st, h => by
    have h1 := wVers_few l (wVer st v) fun u hu => h u (List.mem_cons_of_mem _ hu)
    have h2 := (wVer_len st v).2
    have h3 := h v (by simp)
    show (wVers (wVer st v) l).1.length ≤ _
    rw [List.length_cons]
    omega
/-- At each time a leaf's bytes are not many. -/
theorem wLeaf_part (st : St) (l : List Vc.V) (k : Nat) : (wVers (wNumber (fail st (Vc.checkLeaf l)) l.length) (l.take k)).1.length ≤ st.1.length + 4300000 := by
  by_cases h : Vc.checkLeaf l = 0
  · have h1 := ((Vc.checkLeaf_zero l).1 h).len
    have h2 := wVers_len (l.take k) (wNumber (fail st (Vc.checkLeaf l)) l.length)
    have h3 := wNumber_len (fail st (Vc.checkLeaf l)) l.length
    rw [fail_len] at h3
    rw [List.length_take] at h2
    have h4 : min k l.length ≤ 64 := by omega
    omega
  · rw [wNumber_bad (fail_bad h), wVers_bad (fail_bad h), fail_len]
    omega
theorem wLeaf_len (st : St) (l : List Vc.V) : (wLeaf st l).1.length ≤ st.1.length + 46000 := by
  by_cases h : Vc.checkLeaf l = 0
  · have hL := (Vc.checkLeaf_zero l).1 h
    have h1 := hL.len
    have h2 := wVers_few l (wNumber st l.length) fun v hv => (hL.up.mem hv).1.data
    have h3 := wNumber_len st l.length
    rw [wLeaf_ok h]
    omega
  · rw [wLeaf_bad h, fail_len]
    omega
theorem wDots_snoc (st : St) (l : List Vc.D) (k : Nat) (d : Vc.D) (h : l[k]? = some d) : wDots st (l.take (k + 1)) = wDot (wDots st (l.take k)) d := by
  rw [List.take_add_one, h]
  simp [wDots]
theorem wVers_snoc (st : St) (l : List Vc.V) (k : Nat) (v : Vc.V) (h : l[k]? = some v) : wVers st (l.take (k + 1)) = wVer (wVers st (l.take k)) v := by
  rw [List.take_add_one, h]
  simp [wVers]

/-! What is taken. -/
def rDot (st : St) : Vc.D × St := (((rNumber st 63).1, (rNumber (rNumber st 63).2 1048576).1), (rNumber (rNumber st 63).2 1048576).2)
def itD : Nat → St → List Vc.D × St
  | 0, st => ([], st)
  | k + 1, st => ((itD k st).1 ++ [(rDot (itD k st).2).1], (rDot (itD k st).2).2)
def endD (x : List Vc.D × St) : List Vc.D × St := (if (fail x.2 (Vc.check x.1)).2 ≠ 0 then [] else x.1, fail x.2 (Vc.check x.1))
def rVec (st : St) : List Vc.D × St := endD (itD (rNumber st 64).1.toNat (rNumber st 64).2)
def rVer (st : St) : Vc.V × St :=
  (⟨(rDot st).1, (rVec (rDot st).2).1, (rFlag (rVec (rDot st).2).2).1, str (rText (rFlag (rVec (rDot st).2).2).2 48).1⟩, (rText (rFlag (rVec (rDot st).2).2).2 48).2)
def itV : Nat → St → List Vc.V × St
  | 0, st => ([], st)
  | k + 1, st => ((itV k st).1 ++ [(rVer (itV k st).2).1], (rVer (itV k st).2).2)
def endV (x : List Vc.V × St) : List Vc.V × St := (if (fail x.2 (Vc.checkLeaf x.1)).2 ≠ 0 then [] else x.1, fail x.2 (Vc.checkLeaf x.1))
def rLeaf (st : St) : List Vc.V × St := endV (itV (rNumber st 64).1.toNat (rNumber st 64).2)

theorem rNumber_bad {st : St} (h : st.2 ≠ 0) (m : Int) : rNumber st m = (0, st) := if_pos h
theorem rNumber_most (st : St) (m : Int) (h : 0 ≤ m) : (rNumber st m).1 ≤ m := by
  unfold rNumber
  split
  · exact h
  · split
    · exact h
    · split
      · exact h
      · rename_i h3
        show (Cnt.takeF st.1).1 ≤ m
        omega
theorem rDot_bad {st : St} (h : st.2 ≠ 0) : (rDot st).2 = st := by
  unfold rDot
  rw [rNumber_bad h]
  dsimp only
  rw [rNumber_bad h]
theorem itD_len : ∀ (k : Nat) (st : St), (itD k st).1.length = k
  | 0, _ => rfl
  | k + 1, st => by simp [itD, itD_len k st]
theorem itV_len : ∀ (k : Nat) (st : St), (itV k st).1.length = k
  | 0, _ => rfl
  | k + 1, st => by simp [itV, itV_len k st]
theorem itD_stays (st : St) (k : Nat) (h : (itD k st).2.2 ≠ 0) : ∀ m, k ≤ m → (itD m st).2 = (itD k st).2
  | 0, hm => by rw [show k = 0 by omega]
  | m + 1, hm => by
    by_cases e : k = m + 1
    · rw [e]
    · have ih := itD_stays st k h m (by omega)
      show (rDot (itD m st).2).2 = _
      rw [ih]
      exact rDot_bad h
theorem endD_bad {x : List Vc.D × St} (h : x.2.2 ≠ 0) : endD x = ([], x.2) := by
  unfold endD
  rw [fail_stays _ h, if_pos h]
theorem rVec_early {st : St} {k : Nat} (hk : k ≤ (rNumber st 64).1.toNat) (h : (itD k (rNumber st 64).2).2.2 ≠ 0) : endD (itD k (rNumber st 64).2) = rVec st := by
  unfold rVec
  have h2 := itD_stays _ k h _ hk
  rw [endD_bad h, endD_bad (by rw [h2]; exact h), h2]
theorem rVec_bad {st : St} (h : st.2 ≠ 0) : rVec st = ([], st) := by
  unfold rVec
  rw [rNumber_bad h]
  exact endD_bad h
theorem rFlag_bad {st : St} (h : st.2 ≠ 0) : (rFlag st).2 = st := by
  unfold rFlag
  rw [if_pos h]
theorem rText_bad {st : St} (h : st.2 ≠ 0) (m : Int) : (rText st m).2 = st := by
  unfold rText
  rw [rNumber_bad h, if_pos h]
theorem rVer_bad {st : St} (h : st.2 ≠ 0) : (rVer st).2 = st := by
  unfold rVer
  dsimp only
  rw [rDot_bad h, rVec_bad h]
  dsimp only
  rw [rFlag_bad h, rText_bad h]
theorem itV_stays (st : St) (k : Nat) (h : (itV k st).2.2 ≠ 0) : ∀ m, k ≤ m → (itV m st).2 = (itV k st).2
  | 0, hm => by rw [show k = 0 by omega]
  | m + 1, hm => by
    by_cases e : k = m + 1
    · rw [e]
    · have ih := itV_stays st k h m (by omega)
      show (rVer (itV m st).2).2 = _
      rw [ih]
      exact rVer_bad h
theorem endV_bad {x : List Vc.V × St} (h : x.2.2 ≠ 0) : endV x = ([], x.2) := by
  unfold endV
  rw [fail_stays _ h, if_pos h]
theorem rLeaf_early {st : St} {k : Nat} (hk : k ≤ (rNumber st 64).1.toNat) (h : (itV k (rNumber st 64).2).2.2 ≠ 0) : endV (itV k (rNumber st 64).2) = rLeaf st := by
  unfold rLeaf
  have h2 := itV_stays _ k h _ hk
  rw [endV_bad h, endV_bad (by rw [h2]; exact h), h2]
theorem rCount (st : St) : (rNumber st 64).1.toNat ≤ 64 := by
  have := rNumber_most st 64 (by omega)
  omega
theorem endD_len (x : List Vc.D × St) : (endD x).1.length ≤ x.1.length := by
  unfold endD
  dsimp only
  split <;> simp
theorem endV_len (x : List Vc.V × St) : (endV x).1.length ≤ x.1.length := by
  unfold endV
  dsimp only
  split <;> simp
theorem rVec_len (st : St) : (rVec st).1.length ≤ 64 := by
  have h1 := endD_len (itD (rNumber st 64).1.toNat (rNumber st 64).2)
  rw [itD_len] at h1
  have h2 := rCount st
  unfold rVec
  omega
theorem rLeaf_len (st : St) : (rLeaf st).1.length ≤ 64 := by
  have h1 := endV_len (itV (rNumber st 64).1.toNat (rNumber st 64).2)
  rw [itV_len] at h1
  have h2 := rCount st
  unfold rLeaf
  omega
theorem rVer_past (st : St) : (rVer st).1.past.length ≤ 64 := rVec_len _
theorem itV_past : ∀ (k : Nat) (st : St), ∀ v ∈ (itV k st).1, v.past.length ≤ 64
  | 0, _, v, h => by cases h
  | k + 1, st, v, h => by
    rcases List.mem_append.1 (show v ∈ (itV k st).1 ++ [(rVer (itV k st).2).1] from h) with h | h
    · exact itV_past k st v h
    · rw [List.mem_singleton.1 h]
      exact rVer_past _
theorem rLeaf_past (st : St) : ∀ v ∈ (rLeaf st).1, v.past.length ≤ 64 := fun v hv => by
  unfold rLeaf endV at hv
  dsimp only at hv
  split at hv
  · cases hv
  · exact itV_past _ _ v hv

theorem rText_len (st : St) (most : Int) : (rText st most).2.1.length ≤ st.1.length := by
  have h := rNumber_len st most
  unfold rText
  split
  · exact h
  · split
    · exact Nat.le_refl _
    · rw [List.length_drop]; omega
theorem rFlag_len (st : St) : (rFlag st).2.1.length ≤ st.1.length := by
  obtain ⟨b, e⟩ := st
  unfold rFlag
  split
  · exact Nat.le_refl _
  · cases b with
    | nil => exact Nat.le_refl _
    | cons x r =>
      dsimp only
      split
      · exact Nat.le_refl _
      · simp
theorem rDot_less (st : St) : (rDot st).2.1.length ≤ st.1.length := by
  have h1 := rNumber_len st 63
  have h2 := rNumber_len (rNumber st 63).2 1048576
  unfold rDot
  dsimp only
  omega
theorem itD_less : ∀ (k : Nat) (st : St), (itD k st).2.1.length ≤ st.1.length
  | 0, _ => Nat.le_refl _
  | k + 1, st => Nat.le_trans (rDot_less _) (itD_less k st)
theorem rVec_less (st : St) : (rVec st).2.1.length ≤ st.1.length := by
  have h1 := itD_less (rNumber st 64).1.toNat (rNumber st 64).2
  have h2 := rNumber_len st 64
  unfold rVec endD
  dsimp only
  rw [fail_len]
  omega
theorem rVer_less (st : St) : (rVer st).2.1.length ≤ st.1.length := by
  have h1 := rDot_less st
  have h2 := rVec_less (rDot st).2
  have h3 := rFlag_len (rVec (rDot st).2).2
  have h4 := rText_len (rFlag (rVec (rDot st).2).2).2 48
  unfold rVer
  dsimp only
  omega
theorem itV_less : ∀ (k : Nat) (st : St), (itV k st).2.1.length ≤ st.1.length
  | 0, _ => Nat.le_refl _
  | k + 1, st => Nat.le_trans (rVer_less _) (itV_less k st)
theorem rLeaf_less (st : St) : (rLeaf st).2.1.length ≤ st.1.length := by
  have h1 := itV_less (rNumber st 64).1.toNat (rNumber st 64).2
  have h2 := rNumber_len st 64
  unfold rLeaf endV
  dsimp only
  rw [fail_len]
  omega
/-- What a text is, as a vector or as a leaf, and what is wrong first. -/
def ofVec (s : List UInt8) : List Vc.D × Int := (if rDone (rVec (s, 0)).2 ≠ 0 then [] else (rVec (s, 0)).1, rDone (rVec (s, 0)).2)
def ofLeaf (s : List UInt8) : List Vc.V × Int := (if rDone (rLeaf (s, 0)).2 ≠ 0 then [] else (rLeaf (s, 0)).1, rDone (rLeaf (s, 0)).2)
end Go.Proofs.Ythecijjmgfempaa

namespace Go.Proofs.Ythecijjmgfempaa
open Go.RowKit

theorem Beside.only {own : Nat → Prop} {B : Nat} {w a w' : World} (h : Beside own w a) (ho : Only B a w') (hB : w.heap.size ≤ B) : Beside own w w' :=
  ⟨ho.os.trans h.os, ho.tape.trans h.tape, ho.output.trans h.output, by rw [ho.size]; exact h.size, fun k hk hk2 => (ho.block k (by omega)).trans (h.block k hk hk2)⟩
theorem Beside.under {own : Nat → Prop} {n : Nat} {w a w' : World} (h : Beside own w a) (hb : Below n a w') (hn : w.heap.size ≤ n) : Beside own w w' :=
  ⟨hb.os.trans h.os, hb.tape.trans h.tape, hb.output.trans h.output, Nat.le_trans h.size hb.size, fun k hk hk2 => (hb.block k (by omega)).trans (h.block k hk hk2)⟩
theorem at_str {b : List UInt8} {k : Nat} (h : k < (str b).size) : b[k]? = some (str b)[k] := by
  have h1 := at_data (str b) k h
  rw [str_data] at h1
  rw [str_size] at h
  rw [List.getElem?_eq_getElem h] at h1 ⊢
  rw [← h1]
  rfl
theorem Doc.only {W W' : World} {q T B : Nat} {st : St} (h : Doc W q T st) (ho : Only B W W') (hne : q ≠ B) : Doc W' q T st := VRow.only h ho hne

end Go.Proofs.Ythecijjmgfempaa

namespace Go.Proofs.Ythecijjmgfempaa
open Go.RowKit

/-- An int of 64 bits. -/
def I64 (n : Int) : Prop := -9223372036854775808 ≤ n ∧ n ≤ 9223372036854775807
/-- The cells of a Writer that has nothing. -/
abbrev zeroW : Array Value := #[.slice none 0 0, .int .i64 0]
/-- What is turned is owned, or new. -/
def Turned (X : World → Addr → St → (Nat → Prop) → Prop) (own : Nat → Prop) (p : Addr) (w : World) (st : St) (v : Value) (e : Ending) (w' : World) : Prop :=
  ∃ own' : Nat → Prop, e = .returned v ∧ X w' p st own' ∧ (∀ g, own' g → own g ∨ w.heap.size ≤ g) ∧ Beside own w w'
def Told (w : World) (v : Value) (e : Ending) (w' : World) : Prop := e = .returned v ∧ Below w.heap.size w w'
theorem below_beside {own : Nat → Prop} {n : Nat} {a w w' : World} (h : Below n a w) (hn : n ≤ a.heap.size) (ho : ∀ g, own g → n ≤ g) (hb : Beside own w w') : Below n a w' := h.trans (hb.below (Nat.le_trans hn h.size) ho)
theorem own_beside {own own' : Nat → Prop} {n : Nat} {a w : World} (h : Below n a w) (hn : n ≤ a.heap.size) (ho : ∀ g, own g → n ≤ g) (hb : ∀ g, own' g → own g ∨ w.heap.size ≤ g) : ∀ g, own' g → n ≤ g := fun g hg => by
  rcases hb g hg with h1 | h1
  · exact ho g h1
  · have := h.size; omega

theorem range_after {W W' : World} {g o : Nat} {cs : List Value} (h : W.rangeAt g o cs) (hg : g < W.heap.size) (hb : Below W.heap.size W W') : W'.rangeAt g o cs := fun j v hv => (hb.cell (p := ⟨g, o + j, none⟩) hg).trans (h j v hv)
theorem VRow.range {W : World} {B T : Nat} {vs : List Value} (h : VRow W B T vs) : W.rangeAt B 0 vs := fun j v hv => by rw [Nat.zero_add]; exact h.cell j v hv
end Go.Proofs.Ythecijjmgfempaa

namespace Go.Proofs.Ythecijjmgfempaa
open Go.RowKit

/-- What a call has come to at the document's writer or reader so far. -/
def DS (q T : Nat) (w : World) (st : St) (wr : World) : Prop := Doc wr q T st ∧ Beside (· = q) w wr
def zero81 : List Value := [.int .i64 0, .int .i64 0]
theorem size81 : (Try.prog.info? 86).map (·.size) = some 2 := by kernel_rfl
section
variable {q T : Nat} {w w1 wr wr' : World} {st st' : St}
theorem DS.start (h : Doc w q T st) : DS q T w st w := ⟨h, Beside.refl _ _⟩
theorem DS.after (h : DS q T w st wr) (hb : Below wr.heap.size wr wr') : DS q T w st wr' :=
  ⟨h.1.after hb, h.2.trans (beside_of hb)⟩
theorem DS.below (h : DS q T w st wr) {B : Nat} (hB : B ≤ w.heap.size) (hq : B ≤ q) : Below B w wr := h.2.below hB fun g (e : g = q) => by subst e; exact hq
theorem DS.row (h : DS q T w st wr) {B U : Nat} {vs : List Value} (hr : VRow w B U vs) (hB : B ≠ q) : VRow wr B U vs := hr.beside h.2 hB
theorem DS.of (hb : Below w.heap.size w w1) (h : DS q T w1 st wr) : DS q T w st wr := ⟨h.1, (beside_of hb).trans h.2⟩
theorem DS.lt (h : DS q T w st wr) : q < wr.heap.size := h.1.lt
/-- What a call does to it, said of what was there ahead. -/
theorem DS.call {f : Nat} {args : Array Value} {v : Value} (h : DS q T w st wr) (K : Doc wr q T st → Calls Try.prog f args wr (DocMade q T wr st' v)) : Calls Try.prog f args wr fun e w' => e = .returned v ∧ DS q T w st' w' :=
  (K h.1).mono fun _ _ hm => ⟨hm.1, hm.2.1, h.2.trans hm.2.2⟩
theorem DS.made (h : DS q T w st wr) (v : Value) : DocMade q T w st v (.returned v) wr := ⟨rfl, h.1, h.2⟩
end

set_option maxRecDepth 100000 in
set_option maxHeartbeats 1000000 in
theorem refPutVec_any {w : World} {q : Nat} {st : St} (h : Doc w q 53 st) (hl : st.1.length ≤ 90000000) (w0 : World) (hb0 : Below w0.heap.size w0 w) (hq0 : w0.heap.size ≤ q)
    (a : Option Addr) (cap : Nat) (ds : List Vc.D) (hd : ds.length ≤ 9223372036854775807) (s : Sl w0 a ds) :
    Calls Try.prog 24 #[.pointer (some ⟨q, 0, none⟩), .slice a ds.length cap] w (DocMade q 53 w (wVec st ds) (.tuple #[])) := by
  have HW := hide (DS.start h)
  have HB0 := hide hb0
  have HQ0 := hide hq0
  have S0 := hide s
  have KC := hide fun W h => refCheck_any a cap ds hd W h
  have HL1 := hide (show (fail st (Vc.check ds)).1.length ≤ 90000000 from by rw [fail_len]; exact hl)
  have HPART := hide fun k => Nat.le_trans (wVec_part st ds k) (by omega : st.1.length + 645 ≤ 90001000)
  have HFULL : Hid (wDots (wNumber (fail st (Vc.check ds)) ds.length) (ds.take ds.length) = wVec st ds) := hide (by rw [List.take_length]; rfl)
  generalize Vc.check ds = C at KC HL1 HPART HFULL
  obtain ⟨F, hF⟩ : ∃ F, fail st C = F := ⟨_, rfl⟩
  rw [hF] at HL1 HPART HFULL
  obtain ⟨S1, hS1⟩ : ∃ S1, wNumber F ds.length = S1 := ⟨_, rfl⟩
  rw [hS1] at HPART HFULL
  clear h s hb0 hq0 hl
  go_enter Try.func24, Try.ntmps24
  go_wp2_with fail
  refine (unhide KC _ ((unhide S0).after (unhide HB0))).mono ?_
  rintro e w1 ⟨rfl, hb1⟩
  have HW1 := hide ((unhide HW).after hb1)
  clear hb1
  go_wp2_with fail
  refine ((unhide HW1).call fun hx => refFailW_any q st C _ hx).mono ?_
  rw [hF]
  rintro e w2 ⟨rfl, hs⟩
  have HS2 := hide hs
  clear hs
  go_wp2_with fail
  refine ((unhide HS2).call fun hx => refNumberW_any q F ds.length (by have := unhide HL1; omega) _ hx).mono ?_
  rw [hS1]
  rintro e w3 ⟨rfl, hs⟩
  have HS3 := hide hs
  clear hs hF hS1
  go_wp2_with fail
  go_loopw [4] (fun i wr => ∃ k : Nat, k ≤ ds.length ∧ i = .int .i64 k ∧ DS q 53 w (wDots S1 (ds.take k)) wr) (fun i _ => ds.length - (intOf i).toNat)
  case atStart => exact ⟨0, Nat.zero_le _, rfl, unhide HS3⟩
  case round =>
    obtain ⟨k, hk, rfl, hs⟩ := hrel
    have HR := hide hs
    clear hs
    by_cases hlt : k < ds.length
    · obtain ⟨d, hx⟩ : ∃ d, ds[k]? = some d := ⟨_, List.getElem?_eq_getElem hlt⟩
      have HSL := hide ((unhide S0).after ((unhide HB0).trans ((unhide HR).below (unhide HB0).size (unhide HQ0))))
      obtain ⟨g, o, rfl, hg, hcell⟩ := unhide HSL (by omega)
      have x0 := (hcell k d hx).1
      have HX := hide hx
      have HST := hide (wDots_snoc S1 ds k d hx)
      clear hcell hx hg
      go_wp2_with fail
      refine ((unhide HR).call fun hx => refNumberW_any q _ d.1 (by have := unhide HPART k; omega) _ hx).mono ?_
      rintro e w4 ⟨rfl, hs⟩
      have HS4 := hide hs
      have x1 : w4.cell? ⟨g, o + k * 2 + 1, none⟩ = some (.int .i64 d.2) := by
        obtain ⟨g', o', e', _, hc'⟩ := (unhide S0).after ((unhide HB0).trans (hs.below (unhide HB0).size (unhide HQ0))) (by omega)
        injection e' with e'
        injection e' with e1 e2
        subst e1
        subst e2
        exact (hc' k d (unhide HX)).2
      clear hs x0
      go_wp2_with fail
      refine ((unhide HS4).call fun hx => refNumberW_any q _ d.2 (by have := unhide HPART k; have := wNumber_len (wDots S1 (ds.take k)) d.1; omega) _ hx).mono ?_
      rintro e w5 ⟨rfl, hs⟩
      have HS5 := hide hs
      clear hs x1
      go_wp2_with fail
      go_roundw
      case rel => exact ⟨k + 1, by omega, by go_num, by rw [unhide HST]; exact unhide HS5⟩
      case measure => simp [intOf]; omega
    · obtain rfl : k = ds.length := by omega
      have HE := unhide HR
      rw [unhide HFULL] at HE
      have HE2 := hide HE
      clear HE
      go_wp2_with fail
      go_end0
      exact (unhide HE2).made _

theorem doc_zero (w : World) : Doc (w.alloc (.cells #[.string ⟨#[]⟩, .int .i64 0] 53)) w.heap.size 53 ([], 0) := VRow.new w 53 [.string ⟨#[]⟩, .int .i64 0]
end Go.Proofs.Ythecijjmgfempaa
