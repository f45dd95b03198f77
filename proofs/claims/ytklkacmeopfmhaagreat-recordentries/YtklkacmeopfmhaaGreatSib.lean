/-
  Plain facts on versions side by side: no program, no world. Conditions: none but those that each theorem names.
-/
import Derived.Test.YtklkacmeopfmhaaGreatMath
namespace Go.Proofs.YtklkacmeopfmhaaGreat.Vc

/-- A version. -/
structure V where
  dot : D
  past : List D
  dead : Bool
  data : ByteArray

def hasV (l : List D) (d : D) : Bool := decide (1 ≤ d.2) && decide (d.2 ≤ get l d.1)
theorem hasV_up {l : List D} (h : Up (-1) l) (d : D) : hasV l d = true ↔ 1 ≤ d.2 ∧ d.2 ≤ look l d.1 := by
  unfold hasV
  rw [get_vec h, Bool.and_eq_true, decide_eq_true_iff, decide_eq_true_iff]
def chkV (v : V) : Int := if dotErr v.dot ≠ 0 then dotErr v.dot else if check v.past ≠ 0 then check v.past else if hasV v.past v.dot = true then 8 else if 48 < v.data.size then 2 else if v.dead = true ∧ 0 < v.data.size then 7 else 0
/-- A version that may be. -/
structure OkV (v : V) : Prop where
  dot : Ok v.dot
  past : Up (-1) v.past
  new : look v.past v.dot.1 < v.dot.2
  data : v.data.size ≤ 48
  dead : ¬ (v.dead = true ∧ 0 < v.data.size)
theorem chkV_zero (v : V) : chkV v = 0 ↔ OkV v := by
  unfold chkV
  by_cases h1 : dotErr v.dot = 0
  · rw [if_neg (by simpa using h1)]
    have hok := (dotErr_zero _).1 h1
    by_cases h2 : check v.past = 0
    · rw [if_neg (by simpa using h2)]
      have hup := (check_zero _).1 h2
      by_cases h3 : hasV v.past v.dot = true
      · rw [if_pos h3]
        constructor
        · intro h; omega
        · intro h; have := (hasV_up hup _).1 h3; have := h.new; omega
      · rw [if_neg h3]
        have hn : look v.past v.dot.1 < v.dot.2 := by
          unfold Ok at hok
          by_cases hl : look v.past v.dot.1 < v.dot.2
          · exact hl
          · exact absurd ((hasV_up hup _).2 ⟨by omega, by omega⟩) h3
        by_cases h4 : 48 < v.data.size
        · rw [if_pos h4]
          constructor
          · intro h; omega
          · intro h; have := h.data; omega
        · rw [if_neg h4]
          by_cases h5 : v.dead = true ∧ 0 < v.data.size
          · rw [if_pos h5]
            constructor
            · intro h; omega
            · intro h; exact absurd h5 h.dead
          · rw [if_neg h5]
            exact ⟨fun _ => ⟨hok, hup, hn, by omega, h5⟩, fun _ => rfl⟩
    · rw [if_pos (by simpa using h2)]
      exact ⟨fun h => absurd h h2, fun h => absurd ((check_zero _).2 h.past) h2⟩
  · rw [if_pos (by simpa using h1)]
    exact ⟨fun h => absurd h h1, fun h => absurd ((dotErr_zero _).2 h.dot) h1⟩

/-- A version covers another one. -/
def covers (a b : V) : Bool := hasV a.past b.dot
theorem covers_ok {a b : V} (h : OkV a) (hb : OkV b) : covers a b = true ↔ b.dot.2 ≤ look a.past b.dot.1 := by
  unfold covers
  rw [hasV_up h.past]
  have := hb.dot
  unfold Ok at this
  exact ⟨fun h => h.2, fun h => ⟨by omega, h⟩⟩
def covered (l : List V) (v : V) : Bool := l.any fun u => covers u v
theorem covered_no (l : List V) (v : V) : covered l v = false ↔ ∀ u ∈ l, covers u v = false := by
  unfold covered
  rw [List.any_eq_false]
  exact ⟨fun h u hu => by simpa using h u hu, fun h u hu => by simp [h u hu]⟩

/-- What is wrong with the versions, behind a peer. -/
def chkL : Int → List V → Int
  | _, [] => 0
  | q, v :: l => if chkV v ≠ 0 then chkV v else if v.dot.1 ≤ q then 8 else chkL v.dot.1 l
def VUp : Int → List V → Prop
  | _, [] => True
  | q, v :: l => OkV v ∧ q < v.dot.1 ∧ VUp v.dot.1 l
theorem chkL_zero : ∀ (l : List V) (q : Int), chkL q l = 0 ↔ VUp q l
  | [], _ => by simp [chkL, VUp]
  | v :: l, q => by
    unfold chkL VUp
    by_cases h : chkV v = 0
    · rw [if_neg (by simpa using h)]
      have hok := (chkV_zero v).1 h
      by_cases h2 : v.dot.1 ≤ q
      · rw [if_pos h2]
        constructor
        · intro h; omega
        · intro h; omega
      · rw [if_neg h2, chkL_zero l]
        exact ⟨fun h => ⟨hok, by omega, h⟩, fun h => h.2.2⟩
    · rw [if_pos (by simpa using h)]
      exact ⟨fun h' => absurd h' h, fun h' => absurd ((chkV_zero v).2 h'.1) h⟩
theorem VUp.weak : ∀ {l : List V} {p q : Int}, VUp p l → q ≤ p → VUp q l
  | [], _, _, _, _ => trivial
  | _ :: _, _, _, h, hq => ⟨h.1, by have := h.2.1; omega, h.2.2⟩
theorem VUp.mem : ∀ {l : List V} {q : Int} {v : V}, VUp q l → v ∈ l → OkV v ∧ q < v.dot.1
  | [], _, _, _, h => by cases h
  | u :: l, q, v, h, hv => by
    rcases List.mem_cons.1 hv with rfl | hv
    · exact ⟨h.1, h.2.1⟩
    · have := VUp.mem h.2.2 hv
      exact ⟨this.1, by have := h.2.1; omega⟩
theorem VUp.one : ∀ {l : List V} {q : Int} {u v : V}, VUp q l → u ∈ l → v ∈ l → u.dot.1 = v.dot.1 → u = v
  | [], _, _, _, _, h, _, _ => by cases h
  | x :: l, q, u, v, h, hu, hv, e => by
    rcases List.mem_cons.1 hu with hu | hu
    · rcases List.mem_cons.1 hv with hv | hv
      · rw [hu, hv]
      · have := (VUp.mem h.2.2 hv).2; subst hu; omega
    · rcases List.mem_cons.1 hv with hv | hv
      · have := (VUp.mem h.2.2 hu).2; subst hv; omega
      · exact VUp.one h.2.2 hu hv e
theorem VUp.ext : ∀ {a b : List V} {p q : Int}, VUp p a → VUp q b → (∀ x, x ∈ a ↔ x ∈ b) → a = b
  | [], [], _, _, _, _, _ => rfl
  | [], e :: b, _, _, _, _, h => by have := (h e).2 (List.mem_cons_self ..); cases this
  | d :: a, [], _, _, _, _, h => by have := (h d).1 (List.mem_cons_self ..); cases this
  | d :: a, e :: b, p, q, ha, hb, h => by
    have hde : d = e := by
      rcases List.mem_cons.1 ((h d).1 (List.mem_cons_self ..)) with rfl | hd
      · rfl
      · rcases List.mem_cons.1 ((h e).2 (List.mem_cons_self ..)) with rfl | he
        · rfl
        · have h1 := (VUp.mem hb.2.2 hd).2
          have h2 := (VUp.mem ha.2.2 he).2
          omega
    subst hde
    rw [VUp.ext ha.2.2 hb.2.2 fun x => ?_]
    constructor
    · intro hx
      rcases List.mem_cons.1 ((h x).1 (List.mem_cons_of_mem _ hx)) with rfl | hx'
      · have := (VUp.mem ha.2.2 hx).2; omega
      · exact hx'
    · intro hx
      rcases List.mem_cons.1 ((h x).2 (List.mem_cons_of_mem _ hx)) with rfl | hx'
      · have := (VUp.mem hb.2.2 hx).2; omega
      · exact hx'
theorem VUp.len : ∀ {l : List V} {q : Int}, VUp q l → -1 ≤ q → (l.length : Int) ≤ 63 - q ∨ l = []
  | [], _, _, _ => .inr rfl
  | v :: l, q, h, hq => by
    have h1 := h.1.dot
    unfold Ok at h1
    rcases VUp.len h.2.2 (by have := h.2.1; omega) with h2 | rfl
    · left; rw [List.length_cons]; have := h.2.1; omega
    · left; have := h.2.1; simp; omega
theorem VUp.snoc : ∀ {l : List V} {q : Int} {v : V}, VUp q l → OkV v → q < v.dot.1 → (∀ u ∈ l, u.dot.1 < v.dot.1) → VUp q (l ++ [v])
  | [], _, _, _, h, h', _ => ⟨h, h', trivial⟩
  | u :: _, _, _, h, hv, _, hl => ⟨h.1, h.2.1, VUp.snoc h.2.2 hv (hl u (List.mem_cons_self ..)) fun x hx => hl x (List.mem_cons_of_mem _ hx)⟩

def checkLeaf (l : List V) : Int := if 64 < l.length then 2 else if chkL (-1) l ≠ 0 then chkL (-1) l else if (l.any fun v => covered l v) = true then 7 else 0
/-- A leaf that may be. -/
structure LeafOk (l : List V) : Prop where
  up : VUp (-1) l
  free : ∀ u ∈ l, ∀ v ∈ l, covers u v = false
theorem LeafOk.len {l : List V} (h : LeafOk l) : l.length ≤ 64 := by
  rcases h.up.len (by omega) with h | rfl
  · omega
  · simp
theorem checkLeaf_zero (l : List V) : checkLeaf l = 0 ↔ LeafOk l := by
  unfold checkLeaf
  by_cases h1 : 64 < l.length
  · rw [if_pos h1]
    constructor
    · intro h; omega
    · intro h; have := h.len; omega
  · rw [if_neg h1]
    by_cases h2 : chkL (-1) l = 0
    · rw [if_neg (by simpa using h2)]
      have hup := (chkL_zero l _).1 h2
      by_cases h3 : (l.any fun v => covered l v) = true
      · rw [if_pos h3]
        constructor
        · intro h; omega
        · intro h
          obtain ⟨v, hv, hc⟩ := List.any_eq_true.1 h3
          rw [(covered_no l v).2 fun u hu => h.free u hu v hv] at hc
          cases hc
      · rw [if_neg h3]
        refine ⟨fun _ => ⟨hup, fun u hu v hv => ?_⟩, fun _ => rfl⟩
        have h4 : covered l v = false := by
          cases hcv : covered l v with
          | false => rfl
          | true => exact absurd (List.any_eq_true.2 ⟨v, hv, hcv⟩) h3
        exact (covered_no l v).1 h4 u hu
    · rw [if_pos (by simpa using h2)]
      exact ⟨fun h => absurd h h2, fun h => absurd ((chkL_zero l _).2 h.up) h2⟩
theorem leaf_nil : LeafOk [] := ⟨trivial, fun _ h => by cases h⟩

/-- What all dots and all pasts come to together. -/
def cov1 (c : List D) (v : V) : List D := joins (joins c v.past) [v.dot]
def coverF (l : List V) : List D := l.foldl cov1 []
def coverL (l : List V) : List D := if checkLeaf l = 0 then coverF l else []
def reach (v : V) (p : Int) : Int := max (look v.past p) (if v.dot.1 = p then v.dot.2 else 0)
def top : List V → Int → Int
  | [], _ => 0
  | v :: l, p => max (reach v p) (top l p)
theorem one_up {d : D} (h : Ok d) : Up (-1) [d] := ⟨h, by unfold Ok at h; omega, trivial⟩
theorem one_look (d : D) (p : Int) : look [d] p = if d.1 = p then d.2 else 0 := rfl
theorem joins_vec {a b : List D} (ha : Up (-1) a) (hb : Up (-1) b) : joins a b = join a b := by unfold joins; rw [if_pos ⟨(check_zero a).2 ha, (check_zero b).2 hb⟩]
theorem cov1_up {c : List D} {v : V} (hc : Up (-1) c) (hv : OkV v) : Up (-1) (cov1 c v) ∧ ∀ p, look (cov1 c v) p = max (look c p) (reach v p) := by
  unfold cov1
  rw [joins_vec hc hv.past, joins_vec (join_up hc hv.past) (one_up hv.dot)]
  refine ⟨join_up (join_up hc hv.past) (one_up hv.dot), fun p => ?_⟩
  rw [join_look (join_up hc hv.past) (one_up hv.dot), join_look hc hv.past, one_look]
  unfold reach
  omega
theorem fold_up : ∀ {l : List V} {q : Int} {c : List D}, VUp q l → Up (-1) c → Up (-1) (l.foldl cov1 c) ∧ ∀ p, look (l.foldl cov1 c) p = max (look c p) (top l p)
  | [], _, c, _, hc => ⟨hc, fun p => by have := look_bd p hc; show look c p = max (look c p) 0; omega⟩
  | v :: l, q, c, h, hc => by
    obtain ⟨h1, h2⟩ := cov1_up hc h.1
    obtain ⟨h3, h4⟩ := fold_up h.2.2 h1
    refine ⟨h3, fun p => ?_⟩
    show look (l.foldl cov1 (cov1 c v)) p = max (look c p) (max (reach v p) (top l p))
    rw [h4 p, h2 p]
    omega
theorem top_zero : ∀ (l : List V) (p : Int), 0 ≤ top l p
  | [], _ => Int.le_refl _
  | v :: l, p => by have := top_zero l p; show 0 ≤ max (reach v p) (top l p); omega
theorem coverF_up {l : List V} {q : Int} (h : VUp q l) : Up (-1) (coverF l) ∧ ∀ p, look (coverF l) p = top l p := by
  obtain ⟨h1, h2⟩ := fold_up h (c := []) trivial
  refine ⟨h1, fun p => ?_⟩
  unfold coverF
  rw [h2 p]
  have := top_zero l p
  show max 0 (top l p) = top l p
  omega
theorem coverL_leaf {l : List V} (h : LeafOk l) : coverL l = coverF l := by unfold coverL; rw [if_pos ((checkLeaf_zero l).2 h)]
theorem coverL_up (l : List V) : Up (-1) (coverL l) := by
  unfold coverL
  split
  · rename_i h; exact (coverF_up ((checkLeaf_zero l).1 h).up).1
  · trivial
theorem top_le : ∀ {l : List V} {p k : Int}, 0 ≤ k → (∀ v ∈ l, reach v p ≤ k) → top l p ≤ k
  | [], _, _, h, _ => h
  | v :: l, p, k, h, hl => by
    have h1 := hl v (List.mem_cons_self ..)
    have h2 := top_le h fun x hx => hl x (List.mem_cons_of_mem _ hx)
    show max (reach v p) (top l p) ≤ k
    omega
theorem le_top : ∀ {l : List V} {v : V} (p : Int), v ∈ l → reach v p ≤ top l p
  | [], _, _, h => by cases h
  | u :: l, v, p, h => by
    show reach v p ≤ max (reach u p) (top l p)
    rcases List.mem_cons.1 h with rfl | h
    · omega
    · have := le_top p h; omega

/-- What is left of two leaves. -/
def Free (a b : List V) (x : V) : Prop := (∀ u ∈ a, covers u x = false) ∧ ∀ u ∈ b, covers u x = false
def Best (a b : List V) (x : V) : Prop :=
  (x ∈ a ∧ Free a b x ∧ ∀ y ∈ b, y.dot.1 = x.dot.1 → Free a b y → y.dot.2 ≤ x.dot.2) ∨ (x ∈ b ∧ Free a b x ∧ ∀ y ∈ a, y.dot.1 = x.dot.1 → Free a b y → y.dot.2 < x.dot.2)
structure IsSync (a b s : List V) : Prop where
  up : VUp (-1) s
  mem : ∀ x, x ∈ s ↔ Best a b x
theorem IsSync.ext {a b s t : List V} (h : IsSync a b s) (h' : IsSync a b t) : s = t := VUp.ext h.up h'.up fun x => (h.mem x).trans (h'.mem x).symm
theorem Best.of {a b : List V} {x : V} (h : Best a b x) : (x ∈ a ∨ x ∈ b) ∧ Free a b x := by
  rcases h with h | h
  · exact ⟨.inl h.1, h.2.1⟩
  · exact ⟨.inr h.1, h.2.1⟩
theorem IsSync.leaf {a b s : List V} (h : IsSync a b s) : LeafOk s := ⟨h.up, fun u hu v hv => by
  obtain ⟨h1, _⟩ := ((h.mem u).1 hu).of
  obtain ⟨_, h2⟩ := ((h.mem v).1 hv).of
  rcases h1 with h1 | h1
  · exact h2.1 u h1
  · exact h2.2 u h1⟩
/-- What is live, what is written, what is deleted. -/
def live (l : List V) : List V := l.filter fun v => !v.dead
def overF (l : List V) (d : D) (dead : Bool) (data : ByteArray) : List V × Int := if hasV (coverL l) d = true then ([], 8) else ([⟨d, coverL l, dead, data⟩], 0)
def writeF (l : List V) (d : D) (data : ByteArray) : List V × Int := if checkLeaf l ≠ 0 then ([], checkLeaf l) else if dotErr d ≠ 0 then ([], dotErr d) else if 48 < data.size then ([], 2) else overF l d false data
def eraseF (l : List V) (d : D) : List V × Int := if checkLeaf l ≠ 0 then ([], checkLeaf l) else if dotErr d ≠ 0 then ([], dotErr d) else if (live l).length = 0 then ([], 3) else overF l d true ⟨#[]⟩
theorem coverL_len (l : List V) : (coverL l).length ≤ 64 := vec_len (coverL_up l)
theorem coverF_snoc (l : List V) (v : V) : coverF (l ++ [v]) = cov1 (coverF l) v := by unfold coverF; rw [List.foldl_append]; rfl
end Go.Proofs.YtklkacmeopfmhaaGreat.Vc
