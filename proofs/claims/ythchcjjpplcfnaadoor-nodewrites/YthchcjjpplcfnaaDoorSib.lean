/-
  Plain facts on versions side by side: no program, no world. Conditions: none but those that each theorem names.
-/
import Derived.Test.YthchcjjpplcfnaaDoorCMath
import Derived.Test.YthchcjjpplcfnaaDoorRow
import Derived.Lib.QuietBelow
namespace Go.Proofs.YthchcjjpplcfnaaDoor.Vc

/-- A version. -/
structure V where
  dot : D
  past : List D
  dead : Bool
  data : ByteArray

def hasV (l : List D) (d : D) : Bool := decide (1 ≤ d.2) && decide (d.2 ≤ get l d.1)
theorem hasV_up {l : List D} (h : Up (-1) l) (d : D) : hasV l d = true ↔ 1 ≤ d.2 ∧ d.2 ≤ look l d.1 := by
  unfold hasV
  rw [get_vec h, Bool.and_eq_true, decide_eq_true_iff, decide_eq_true_iff]
def chkV (v : V) : Int := if dotErr v.dot ≠ 0 then dotErr v.dot else if check v.past ≠ 0 then check v.past else if hasV v.past v.dot = true then 8 else if 48 < v.data.size then 2 else if v.dead = true ∧ 0 < v.data.size then 7 else 0
/-- A version that may be. -/
structure OkV (v : V) : Prop where
  dot : Ok v.dot
  past : Up (-1) v.past
  new : look v.past v.dot.1 < v.dot.2
  data : v.data.size ≤ 48
  dead : ¬ (v.dead = true ∧ 0 < v.data.size)
theorem chkV_zero (v : V) : chkV v = 0 ↔ OkV v := by
  unfold chkV
  by_cases h1 : dotErr v.dot = 0
  · rw [if_neg (by simpa using h1)]
    have hok := (dotErr_zero _).1 h1
    by_cases h2 : check v.past = 0
    · rw [if_neg (by simpa using h2)]
      have hup := (check_zero _).1 h2
      by_cases h3 : hasV v.past v.dot = true
      · rw [if_pos h3]
        constructor
        · intro h; omega
        · intro h; have := (hasV_up hup _).1 h3; have := h.new; omega
      · rw [if_neg h3]
        have hn : look v.past v.dot.1 < v.dot.2 := by
          unfold Ok at hok
          by_cases hl : look v.past v.dot.1 < v.dot.2
          · exact hl
          · exact absurd ((hasV_up hup _).2 ⟨by omega, by omega⟩) h3
        by_cases h4 : 48 < v.data.size
        · rw [if_pos h4]
          constructor
          · intro h; omega
          · intro h; have := h.data; omega
        · rw [if_neg h4]
          by_cases h5 : v.dead = true ∧ 0 < v.data.size
          · rw [if_pos h5]
            constructor
            · intro h; omega
            · intro h; exact absurd h5 h.dead
          · rw [if_neg h5]
            exact ⟨fun _ => ⟨hok, hup, hn, by omega, h5⟩, fun _ => rfl⟩
    · rw [if_pos (by simpa using h2)]
      exact ⟨fun h => absurd h h2, fun h => absurd ((check_zero _).2 h.past) h2⟩
  · rw [if_pos (by simpa using h1)]
    exact ⟨fun h => absurd h h1, fun h => absurd ((dotErr_zero _).2 h.dot) h1⟩

/-- A version covers another one. -/
def covers (a b : V) : Bool := hasV a.past b.dot
theorem covers_ok {a b : V} (h : OkV a) (hb : OkV b) : covers a b = true ↔ b.dot.2 ≤ look a.past b.dot.1 := by
  unfold covers
  rw [hasV_up h.past]
  have := hb.dot
  unfold Ok at this
  exact ⟨fun h => h.2, fun h => ⟨by omega, h⟩⟩
def covered (l : List V) (v : V) : Bool := l.any fun u => covers u v
theorem covered_no (l : List V) (v : V) : covered l v = false ↔ ∀ u ∈ l, covers u v = false := by
  unfold covered
  rw [List.any_eq_false]
  exact ⟨fun h u hu => by simpa using h u hu, fun h u hu => by simp [h u hu]⟩

/-- What is wrong with the versions, behind a peer. -/
def chkL : Int → List V → Int
  | _, [] => 0
  | q, v :: l => if chkV v ≠ 0 then chkV v else if v.dot.1 ≤ q then 8 else chkL v.dot.1 l
def VUp : Int → List V → Prop
  | _, [] => True
  | q, v :: l => OkV v ∧ q < v.dot.1 ∧ VUp v.dot.1 l
theorem chkL_zero : ∀ (l : List V) (q : Int), chkL q l = 0 ↔ VUp q l
  | [], _ => by simp [chkL, VUp]
  | v :: l, q => by
    unfold chkL VUp
    by_cases h : chkV v = 0
    · rw [if_neg (by simpa using h)]
      have hok := (chkV_zero v).1 h
      by_cases h2 : v.dot.1 ≤ q
      · rw [if_pos h2]
        constructor
        · intro h; omega
        · intro h; omega
      · rw [if_neg h2, chkL_zero l]
        exact ⟨fun h => ⟨hok, by omega, h⟩, fun h => h.2.2⟩
    · rw [if_pos (by simpa using h)]
      exact ⟨fun h' => absurd h' h, fun h' => absurd ((chkV_zero v).2 h'.1) h⟩
theorem VUp.weak : ∀ {l : List V} {p q : Int}, VUp p l → q ≤ p → VUp q l
  | [], _, _, _, _ => trivial
  | _ :: _, _, _, h, hq => ⟨h.1, by have := h.2.1; omega, h.2.2⟩
theorem VUp.mem : ∀ {l : List V} {q : Int} {v : V}, VUp q l → v ∈ l → OkV v ∧ q < v.dot.1
  | [], _, _, _, h => by cases h
  | u :: l, q, v, h, hv => by
    rcases List.mem_cons.1 hv with rfl | hv
    · exact ⟨h.1, h.2.1⟩
    · have := VUp.mem h.2.2 hv
      exact ⟨this.1, by have := h.2.1; omega⟩
theorem VUp.one : ∀ {l : List V} {q : Int} {u v : V}, VUp q l → u ∈ l → v ∈ l → u.dot.1 = v.dot.1 → u = v
  | [], _, _, _, _, h, _, _ => by cases h
  | x :: l, q, u, v, h, hu, hv, e => by
    rcases List.mem_cons.1 hu with hu | hu
    · rcases List.mem_cons.1 hv with hv | hv
      · rw [hu, hv]
      · have := (VUp.mem h.2.2 hv).2; subst hu; omega
    · rcases List.mem_cons.1 hv with hv | hv
      · have := (VUp.mem h.2.2 hu).2; subst hv; omega
      · exact VUp.one h.2.2 hu hv e
theorem VUp.ext : ∀ {a b : List V} {p q : Int}, VUp p a → VUp q b → (∀ x, x ∈ a ↔ x ∈ b) → a = b
  | [], [], _, _, _, _, _ => rfl
  | [], e :: b, _, _, _, _, h => by have := (h e).2 (List.mem_cons_self ..); cases this
  | d :: a, [], _, _, _, _, h => by have := (h d).1 (List.mem_cons_self ..); cases this
  | d :: a, e :: b, p, q, ha, hb, h => by
    have hde : d = e := by
      rcases List.mem_cons.1 ((h d).1 (List.mem_cons_self ..)) with rfl | hd
      · rfl
      · rcases List.mem_cons.1 ((h e).2 (List.mem_cons_self ..)) with rfl | he
        · rfl
        · have h1 := (VUp.mem hb.2.2 hd).2
          have h2 := (VUp.mem ha.2.2 he).2
          omega
    subst hde
    rw [VUp.ext ha.2.2 hb.2.2 fun x => ?_]
    constructor
    · intro hx
      rcases List.mem_cons.1 ((h x).1 (List.mem_cons_of_mem _ hx)) with rfl | hx'
      · have := (VUp.mem ha.2.2 hx).2; omega
      · exact hx'
    · intro hx
      rcases List.mem_cons.1 ((h x).2 (List.mem_cons_of_mem _ hx)) with rfl | hx'
      · have := (VUp.mem hb.2.2 hx).2; omega
      · exact hx'
theorem VUp.len : ∀ {l : List V} {q : Int}, VUp q l → -1 ≤ q → (l.length : Int) ≤ 63 - q ∨ l = []
  | [], _, _, _ => .inr rfl
  | v :: l, q, h, hq => by
    have h1 := h.1.dot
    unfold Ok at h1
    rcases VUp.len h.2.2 (by have := h.2.1; omega) with h2 | rfl
    · left; rw [List.length_cons]; have := h.2.1; omega
    · left; have := h.2.1; simp; omega
theorem VUp.snoc : ∀ {l : List V} {q : Int} {v : V}, VUp q l → OkV v → q < v.dot.1 → (∀ u ∈ l, u.dot.1 < v.dot.1) → VUp q (l ++ [v])
  | [], _, _, _, h, h', _ => ⟨h, h', trivial⟩
  | u :: _, _, _, h, hv, _, hl => ⟨h.1, h.2.1, VUp.snoc h.2.2 hv (hl u (List.mem_cons_self ..)) fun x hx => hl x (List.mem_cons_of_mem _ hx)⟩

def checkLeaf (l : List V) : Int := if 64 < l.length then 2 else if chkL (-1) l ≠ 0 then chkL (-1) l else if (l.any fun v => covered l v) = true then 7 else 0
/-- A leaf that may be. -/
structure LeafOk (l : List V) : Prop where
  up : VUp (-1) l
  free : ∀ u ∈ l, ∀ v ∈ l, covers u v = false
theorem LeafOk.len {l : List V} (h : LeafOk l) : l.length ≤ 64 := by
  rcases h.up.len (by omega) with h | rfl
  · omega
  · simp
theorem checkLeaf_zero (l : List V) : checkLeaf l = 0 ↔ LeafOk l := by
  unfold checkLeaf
  by_cases h1 : 64 < l.length
  · rw [if_pos h1]
    constructor
    · intro h; omega
    · intro h; have := h.len; omega
  · rw [if_neg h1]
    by_cases h2 : chkL (-1) l = 0
    · rw [if_neg (by simpa using h2)]
      have hup := (chkL_zero l _).1 h2
      by_cases h3 : (l.any fun v => covered l v) = true
      · rw [if_pos h3]
        constructor
        · intro h; omega
        · intro h
          obtain ⟨v, hv, hc⟩ := List.any_eq_true.1 h3
          rw [(covered_no l v).2 fun u hu => h.free u hu v hv] at hc
          cases hc
      · rw [if_neg h3]
        refine ⟨fun _ => ⟨hup, fun u hu v hv => ?_⟩, fun _ => rfl⟩
        have h4 : covered l v = false := by
          cases hcv : covered l v with
          | false => rfl
          | true => exact absurd (List.any_eq_true.2 ⟨v, hv, hcv⟩) h3
        exact (covered_no l v).1 h4 u hu
    · rw [if_pos (by simpa using h2)]
      exact ⟨fun h => absurd h h2, fun h => absurd ((chkL_zero l _).2 h.up) h2⟩
theorem leaf_nil : LeafOk [] := ⟨trivial, fun _ h => by cases h⟩

/-- What all dots and all pasts come to together. -/
def cov1 (c : List D) (v : V) : List D := joins (joins c v.past) [v.dot]
def coverF (l : List V) : List D := l.foldl cov1 []
def coverL (l : List V) : List D := if checkLeaf l = 0 then coverF l else []
def reach (v : V) (p : Int) : Int := max (look v.past p) (if v.dot.1 = p then v.dot.2 else 0)
def top : List V → Int → Int
  | [], _ => 0
  | v :: l, p => max (reach v p) (top l p)
theorem one_up {d : D} (h : Ok d) : Up (-1) [d] := ⟨h, by unfold Ok at h; omega, trivial⟩
theorem one_look (d : D) (p : Int) : look [d] p = if d.1 = p then d.2 else 0 := rfl
theorem joins_vec {a b : List D} (ha : Up (-1) a) (hb : Up (-1) b) : joins a b = join a b := by unfold joins; rw [if_pos ⟨(check_zero a).2 ha, (check_zero b).2 hb⟩]
theorem cov1_up {c : List D} {v : V} (hc : Up (-1) c) (hv : OkV v) : Up (-1) (cov1 c v) ∧ ∀ p, look (cov1 c v) p = max (look c p) (reach v p) := by
  unfold cov1
  rw [joins_vec hc hv.past, joins_vec (join_up hc hv.past) (one_up hv.dot)]
  refine ⟨join_up (join_up hc hv.past) (one_up hv.dot), fun p => ?_⟩
  rw [join_look (join_up hc hv.past) (one_up hv.dot), join_look hc hv.past, one_look]
  unfold reach
  omega
theorem fold_up : ∀ {l : List V} {q : Int} {c : List D}, VUp q l → Up (-1) c → Up (-1) (l.foldl cov1 c) ∧ ∀ p, look (l.foldl cov1 c) p = max (look c p) (top l p)
  | [], _, c, _, hc => ⟨hc, fun p => by have := look_bd p hc; show look c p = max (look c p) 0; omega⟩
  | v :: l, q, c, h, hc => by
    obtain ⟨h1, h2⟩ := cov1_up hc h.1
    obtain ⟨h3, h4⟩ := fold_up h.2.2 h1
    refine ⟨h3, fun p => ?_⟩
    show look (l.foldl cov1 (cov1 c v)) p = max (look c p) (max (reach v p) (top l p))
    rw [h4 p, h2 p]
    omega
theorem top_zero : ∀ (l : List V) (p : Int), 0 ≤ top l p
  | [], _ => Int.le_refl _
  | v :: l, p => by have := top_zero l p; show 0 ≤ max (reach v p) (top l p); omega
theorem coverF_up {l : List V} {q : Int} (h : VUp q l) : Up (-1) (coverF l) ∧ ∀ p, look (coverF l) p = top l p := by
  obtain ⟨h1, h2⟩ := fold_up h (c := []) trivial
  refine ⟨h1, fun p => ?_⟩
  unfold coverF
  rw [h2 p]
  have := top_zero l p
  show max 0 (top l p) = top l p
  omega
theorem coverL_leaf {l : List V} (h : LeafOk l) : coverL l = coverF l := by unfold coverL; rw [if_pos ((checkLeaf_zero l).2 h)]
theorem coverL_up (l : List V) : Up (-1) (coverL l) := by
  unfold coverL
  split
  · rename_i h; exact (coverF_up ((checkLeaf_zero l).1 h).up).1
  · trivial
theorem top_le : ∀ {l : List V} {p k : Int}, 0 ≤ k → (∀ v ∈ l, reach v p ≤ k) → top l p ≤ k
  | [], _, _, h, _ => h
  | v :: l, p, k, h, hl => by
    have h1 := hl v (List.mem_cons_self ..)
    have h2 := top_le h fun x hx => hl x (List.mem_cons_of_mem _ hx)
    show max (reach v p) (top l p) ≤ k
    omega
theorem le_top : ∀ {l : List V} {v : V} (p : Int), v ∈ l → reach v p ≤ top l p
  | [], _, _, h => by cases h
  | u :: l, v, p, h => by
    show reach v p ≤ max (reach u p) (top l p)
    rcases List.mem_cons.1 h with rfl | h
    · omega
    · have := le_top p h; omega

/-- What is left of two leaves. -/
def Free (a b : List V) (x : V) : Prop := (∀ u ∈ a, covers u x = false) ∧ ∀ u ∈ b, covers u x = false
def Best (a b : List V) (x : V) : Prop :=
  (x ∈ a ∧ Free a b x ∧ ∀ y ∈ b, y.dot.1 = x.dot.1 → Free a b y → y.dot.2 ≤ x.dot.2) ∨ (x ∈ b ∧ Free a b x ∧ ∀ y ∈ a, y.dot.1 = x.dot.1 → Free a b y → y.dot.2 < x.dot.2)
structure IsSync (a b s : List V) : Prop where
  up : VUp (-1) s
  mem : ∀ x, x ∈ s ↔ Best a b x
theorem IsSync.ext {a b s t : List V} (h : IsSync a b s) (h' : IsSync a b t) : s = t := VUp.ext h.up h'.up fun x => (h.mem x).trans (h'.mem x).symm
theorem Best.of {a b : List V} {x : V} (h : Best a b x) : (x ∈ a ∨ x ∈ b) ∧ Free a b x := by
  rcases h with h | h
  · exact ⟨.inl h.1, h.2.1⟩
  · exact ⟨.inr h.1, h.2.1⟩
theorem IsSync.leaf {a b s : List V} (h : IsSync a b s) : LeafOk s := ⟨h.up, fun u hu v hv => by
  obtain ⟨h1, _⟩ := ((h.mem u).1 hu).of
  obtain ⟨_, h2⟩ := ((h.mem v).1 hv).of
  rcases h1 with h1 | h1
  · exact h2.1 u h1
  · exact h2.2 u h1⟩
/-- What is live, what is written, what is deleted. -/
def live (l : List V) : List V := l.filter fun v => !v.dead
def overF (l : List V) (d : D) (dead : Bool) (data : ByteArray) : List V × Int := if hasV (coverL l) d = true then ([], 8) else ([⟨d, coverL l, dead, data⟩], 0)
def writeF (l : List V) (d : D) (data : ByteArray) : List V × Int := if checkLeaf l ≠ 0 then ([], checkLeaf l) else if dotErr d ≠ 0 then ([], dotErr d) else if 48 < data.size then ([], 2) else overF l d false data
def eraseF (l : List V) (d : D) : List V × Int := if checkLeaf l ≠ 0 then ([], checkLeaf l) else if dotErr d ≠ 0 then ([], dotErr d) else if (live l).length = 0 then ([], 3) else overF l d true ⟨#[]⟩
theorem coverL_len (l : List V) : (coverL l).length ≤ 64 := vec_len (coverL_up l)
theorem coverF_snoc (l : List V) (v : V) : coverF (l ++ [v]) = cov1 (coverF l) v := by unfold coverF; rw [List.foldl_append]; rfl
end Go.Proofs.YthchcjjpplcfnaaDoor.Vc

namespace Go.Proofs.YthchcjjpplcfnaaDoor
open Go.RowKit

end Go.Proofs.YthchcjjpplcfnaaDoor

namespace Go.Proofs.YthchcjjpplcfnaaDoor
open Go.RowKit

def has (ds : List Vc.D) (d : Vc.D) : Bool := decide (1 ≤ d.2) && decide (d.2 ≤ Vc.get ds d.1)

set_option maxRecDepth 100000 in
set_option maxHeartbeats 1000000 in
theorem has_any (a : Option Addr) (cap : Nat) (ds : List Vc.D) (hl : ds.length ≤ 9223372036854775807) (p c : Int) (w : World) (h : Sl w a ds) :
    Calls Tryd.prog 66 #[.slice a ds.length cap, .agg #[.int .i64 p, .int .i64 c]] w fun e w' => e = .returned (.bool (has ds (p, c))) ∧ Below w.heap.size w w' := by
  have HB1 := hide ((Below.refl w.heap.size w).alloc (Nat.le_refl _) (.cells #[.int .i64 p, .int .i64 c] 61))
  have HS1 := hide (h.after (unhide HB1))
  have n0 := new0 w (.int .i64 p) (.int .i64 c) 61
  have n1 := new1 w (.int .i64 p) (.int .i64 c) 61
  have KG := hide fun w' (h' : Sl w' a ds) => get_any a cap ds hl p w' h'
  obtain ⟨R, hR⟩ : ∃ R, has ds (p, c) = R := ⟨_, rfl⟩
  rw [hR]
  unfold has at hR
  dsimp only at hR
  have hbd := Vc.get_bd ds p
  generalize Vc.get ds p = G at hR KG hbd
  clear h
  go_enter Tryd.func66, Tryd.ntmps66
  go_wp2_with fail
  generalize w.alloc (.cells #[.int .i64 p, .int .i64 c] 61) = w1 at HB1 HS1 n0 n1 ⊢
  have c0 := cell_regrown n0
  have c1 := cell_regrown n1
  by_cases hc : 1 ≤ c
  · have hd : decide (1 ≤ c) = true := decide_eq_true hc
    rw [hd, Bool.true_and] at hR
    refine wp_region_quiet_below (by kernel_rfl) (by kernel_rfl) ?_
    repeat (quiet_step (first | (go_at_call 81; exact Calls.regrown_of (unhide KG _ ((unhide HS1).after (below_regrown _ _ _))))))
    refine wpQuiet_nil ?_
    intro _ hw'
    obtain ⟨⟨dq, osq⟩, hw''⟩ := hw'
    subst hw''
    go_wp2_with fail
    go_ret
    exact ⟨by first | rfl | exact ret_bool hR, (unhide HB1).trans ((below_regrown w1 dq osq).mono (unhide HB1).size)⟩
  · have hd : decide (1 ≤ c) = false := decide_eq_false hc
    rw [hd, Bool.false_and] at hR
    subst hR
    refine wp_region_quiet_below (by kernel_rfl) (by kernel_rfl) ?_
    repeat (quiet_step (fail))
    refine wpQuiet_nil ?_
    intro _ hw'
    obtain ⟨⟨dq, osq⟩, hw''⟩ := hw'
    subst hw''
    go_wp2_with fail
    go_ret
    exact ⟨by first | rfl | exact ret_bool hR, (unhide HB1).trans ((below_regrown w1 dq osq).mono (unhide HB1).size)⟩

set_option maxRecDepth 100000 in
set_option maxHeartbeats 1000000 in
theorem refHas_any (a : Option Addr) (cap : Nat) (ds : List Vc.D) (hl : ds.length ≤ 9223372036854775807) (p c : Int) (w : World) (h : Sl w a ds) :
    Calls Tryd.prog 72 #[.slice a ds.length cap, .agg #[.int .i64 p, .int .i64 c]] w fun e w' => e = .returned (.bool (has ds (p, c))) ∧ Below w.heap.size w w' := by
  have HB1 := hide ((Below.refl w.heap.size w).alloc (Nat.le_refl _) (.cells #[.int .i64 p, .int .i64 c] 61))
  have HS1 := hide (h.after (unhide HB1))
  have n0 := new0 w (.int .i64 p) (.int .i64 c) 61
  have n1 := new1 w (.int .i64 p) (.int .i64 c) 61
  have KG := hide fun w' (h' : Sl w' a ds) => refGet_any a cap ds hl p w' h'
  obtain ⟨R, hR⟩ : ∃ R, has ds (p, c) = R := ⟨_, rfl⟩
  rw [hR]
  unfold has at hR
  dsimp only at hR
  have hbd := Vc.get_bd ds p
  generalize Vc.get ds p = G at hR KG hbd
  clear h
  go_enter Tryd.func72, Tryd.ntmps72
  go_wp2_with fail
  generalize w.alloc (.cells #[.int .i64 p, .int .i64 c] 61) = w1 at HB1 HS1 n0 n1 ⊢
  have c0 := cell_regrown n0
  have c1 := cell_regrown n1
  by_cases hc : 1 ≤ c
  · have hd : decide (1 ≤ c) = true := decide_eq_true hc
    rw [hd, Bool.true_and] at hR
    refine wp_region_quiet_below (by kernel_rfl) (by kernel_rfl) ?_
    repeat (quiet_step (first | (go_at_call 84; exact Calls.regrown_of (unhide KG _ ((unhide HS1).after (below_regrown _ _ _))))))
    refine wpQuiet_nil ?_
    intro _ hw'
    obtain ⟨⟨dq, osq⟩, hw''⟩ := hw'
    subst hw''
    go_wp2_with fail
    go_ret
    exact ⟨by first | rfl | exact ret_bool hR, (unhide HB1).trans ((below_regrown w1 dq osq).mono (unhide HB1).size)⟩
  · have hd : decide (1 ≤ c) = false := decide_eq_false hc
    rw [hd, Bool.false_and] at hR
    subst hR
    refine wp_region_quiet_below (by kernel_rfl) (by kernel_rfl) ?_
    repeat (quiet_step (fail))
    refine wpQuiet_nil ?_
    intro _ hw'
    obtain ⟨⟨dq, osq⟩, hw''⟩ := hw'
    subst hw''
    go_wp2_with fail
    go_ret
    exact ⟨by first | rfl | exact ret_bool hR, (unhide HB1).trans ((below_regrown w1 dq osq).mono (unhide HB1).size)⟩
end Go.Proofs.YthchcjjpplcfnaaDoor

namespace Go.Proofs.YthchcjjpplcfnaaDoor
open Go.RowKit

/-- A version as a value, and its cells. -/
def verL (v : Vc.V) (r : Option Addr) (c : Nat) : List Value := [.int .i64 v.dot.1, .int .i64 v.dot.2, .slice r v.past.length c, .bool v.dead, .string v.data]
/-- A version at a place of memory, its past wherever it lies. -/
def VAt (W : World) (g o : Nat) (v : Vc.V) : Prop :=
  ∃ r c, W.cell? ⟨g, o, none⟩ = some (.int .i64 v.dot.1) ∧ W.cell? ⟨g, o + 1, none⟩ = some (.int .i64 v.dot.2) ∧ W.cell? ⟨g, o + 2, none⟩ = some (.slice r v.past.length c) ∧ W.cell? ⟨g, o + 3, none⟩ = some (.bool v.dead) ∧ W.cell? ⟨g, o + 4, none⟩ = some (.string v.data) ∧ v.past.length ≤ c ∧ Sl W r v.past
theorem VAt.after {W W' : World} {g o : Nat} {v : Vc.V} (h : VAt W g o v) (hg : g < W.heap.size) (hb : Below W.heap.size W W') : VAt W' g o v := by
  obtain ⟨r, c, h0, h1, h2, h3, h4, h5, h6⟩ := h
  refine ⟨r, c, ?_, ?_, ?_, ?_, ?_, h5, h6.after hb⟩
  all_goals rw [hb.cell (by exact hg)]
  all_goals assumption
/-- A slice of versions, wherever it lies; nothing is asked of one that has none. -/
def SV (W : World) (a : Option Addr) (vs : List Vc.V) : Prop :=
  0 < vs.length → ∃ g o, a = some ⟨g, o, none⟩ ∧ g < W.heap.size ∧ ∀ (j : Nat) (v : Vc.V), vs[j]? = some v → VAt W g (o + j * 5) v
theorem SV.after {W W' : World} {a : Option Addr} {vs : List Vc.V} (h : SV W a vs) (hb : Below W.heap.size W W') : SV W' a vs := fun h0 => by
  obtain ⟨g, o, e, hg, hc⟩ := h h0
  exact ⟨g, o, e, Nat.lt_of_lt_of_le hg hb.size, fun j v hj => (hc j v hj).after hg hb⟩
theorem SV.none (W : World) (a : Option Addr) : SV W a [] := fun h => absurd h (Nat.lt_irrefl _)
theorem SV.drewN {W : World} {a : Option Addr} {vs : List Vc.V} (h : SV W a vs) (n : Nat) : SV (W.drewN n) a vs := h
/-- Few enough to be gone through. -/
def Few (vs : List Vc.V) : Prop := vs.length ≤ 100000 ∧ ∀ v ∈ vs, v.past.length ≤ 9223372036854775807
theorem Few.at {vs : List Vc.V} (h : Few vs) {j : Nat} {v : Vc.V} (hj : vs[j]? = some v) : v.past.length ≤ 9223372036854775807 := h.2 v (List.mem_of_getElem? hj)
theorem below_alloc1 {w : World} (o : Obj) : Below w.heap.size w (w.alloc o) := (Below.refl _ _).alloc (Nat.le_refl _) o

set_option maxRecDepth 100000 in
set_option maxHeartbeats 400000 in
theorem refCovers_any (v u : Vc.V) (r q : Option Addr) (c d : Nat) (hl : v.past.length ≤ 9223372036854775807) (w : World) (s : Sl w r v.past) :
    Calls Tryd.prog 73 #[.agg (verL v r c).toArray, .agg (verL u q d).toArray] w fun e w' => e = .returned (.bool (Vc.covers v u)) ∧ Below w.heap.size w w' := by
  have HB := hide ((below_alloc1 (w := w) (.cells (verL v r c).toArray 64)).alloc (by simp) (.cells (verL u q d).toArray 64))
  have RS := (VRow.new w 64 (verL v r c)).alloc (.cells (verL u q d).toArray 64)
  have RT := VRow.newAt (W := w.alloc (.cells (verL v r c).toArray 64)) (T := 64) (n := w.heap.size + 1) (vs := verL u q d) (by simp)
  have K := hide fun W h => refHas_any r c v.past hl u.dot.1 u.dot.2 W h
  have S := hide (s.after (unhide HB))
  have a2 := RS.cell 2 _ rfl
  have b0 := RT.cell 0 _ rfl
  have b1 := RT.cell 1 _ rfl
  rw [show has v.past (u.dot.1, u.dot.2) = Vc.covers v u from rfl] at K
  generalize Vc.covers v u = X at K ⊢
  clear s RS RT
  unfold verL at *
  go_enter Tryd.func73, Tryd.ntmps73
  go_wp2_with fail
  refine (unhide K _ (unhide S)).mono ?_
  rintro e w1 ⟨rfl, hb⟩
  have HB1 := hide (below_grow (unhide HB) (Nat.le_refl _) hb)
  clear hb
  go_wp2_with fail
  go_ret
  exact ⟨rfl, unhide HB1⟩

set_option maxRecDepth 100000 in
set_option maxHeartbeats 1000000 in
theorem refCheckV_any (v : Vc.V) (r : Option Addr) (c : Nat) (hl : v.past.length ≤ 9223372036854775807) (w : World) (s : Sl w r v.past) :
    Calls Tryd.prog 52 #[.agg (verL v r c).toArray] w fun e w' => e = .returned (.int .i64 (Vc.chkV v)) ∧ Below w.heap.size w w' := by
  have HB := hide (below_alloc1 (w := w) (.cells (verL v r c).toArray 64))
  have RS := hide (VRow.new w 64 (verL v r c))
  have KD := hide fun W => refDot_any v.dot.1 v.dot.2 W
  have KC := hide fun W h => refCheck_any r c v.past hl W h
  have KH := hide fun W h => refHas_any r c v.past hl v.dot.1 v.dot.2 W h
  have S := hide (s.after (unhide HB))
  rw [show Vc.dotErr (v.dot.1, v.dot.2) = Vc.dotErr v.dot from rfl] at KD
  rw [show has v.past (v.dot.1, v.dot.2) = Vc.hasV v.past v.dot from rfl] at KH
  obtain ⟨R, hR⟩ : ∃ R, Vc.chkV v = R := ⟨_, rfl⟩
  rw [hR]
  unfold Vc.chkV at hR
  have a0 := (unhide RS).cell 0 _ rfl
  have a1 := (unhide RS).cell 1 _ rfl
  generalize Vc.dotErr v.dot = X at KD hR
  generalize Vc.check v.past = Y at KC hR
  generalize Vc.hasV v.past v.dot = Z at KH hR
  clear s
  unfold verL at *
  go_enter Tryd.func52, Tryd.ntmps52
  go_wp2_with fail
  generalize w.alloc (.cells _ 64) = w0 at HB RS S a0 a1 ⊢
  refine (unhide KD _).mono ?_
  rintro e w1 ⟨rfl, hb⟩
  replace HB := hide (below_grow (unhide HB) (Nat.le_refl _) hb)
  replace RS := hide ((unhide RS).after hb)
  replace S := hide ((unhide S).after hb)
  clear hb a0 a1
  by_cases hX : X = 0
  · subst hX
    rw [if_neg (by simp)] at hR
    have a2 := (unhide RS).cell 2 _ rfl
    go_wp2_with fail
    refine (unhide KC _ (unhide S)).mono ?_
    rintro e w2 ⟨rfl, hb⟩
    replace HB := hide (below_grow (unhide HB) (Nat.le_refl _) hb)
    replace RS := hide ((unhide RS).after hb)
    replace S := hide ((unhide S).after hb)
    clear hb a2
    by_cases hY : Y = 0
    · subst hY
      rw [if_neg (by simp)] at hR
      have a0 := (unhide RS).cell 0 _ rfl
      have a1 := (unhide RS).cell 1 _ rfl
      have a2 := (unhide RS).cell 2 _ rfl
      go_wp2_with fail
      refine (unhide KH _ (unhide S)).mono ?_
      rintro e w3 ⟨rfl, hb⟩
      replace HB := hide (below_grow (unhide HB) (Nat.le_refl _) hb)
      replace RS := hide ((unhide RS).after hb)
      clear hb a0 a1 a2 S
      have a3 := (unhide RS).cell 3 _ rfl
      have a4 := (unhide RS).cell 4 _ rfl
      cases Z with
      | true =>
        rw [if_pos rfl] at hR
        subst hR
        go_wp2_with fail
        go_ret
        exact ⟨rfl, unhide HB⟩
      | false =>
        rw [if_neg (by simp)] at hR
        obtain ⟨n, hn⟩ : ∃ n, v.data.size = n := ⟨_, rfl⟩
        rw [hn] at hR
        by_cases h48 : 48 < n
        · have hd : decide ((48 : Int) < (n : Int)) = true := decide_eq_true (by omega)
          rw [if_pos h48] at hR
          subst hR
          go_wp2_with fail
          go_ret
          exact ⟨rfl, unhide HB⟩
        · have hd : decide ((48 : Int) < (n : Int)) = false := decide_eq_false (by omega)
          rw [if_neg h48] at hR
          generalize v.dead = Q at *
          cases Q with
          | true =>
            by_cases h0 : 0 < n
            · have hd2 : decide ((0 : Int) < (n : Int)) = true := decide_eq_true (by omega)
              rw [if_pos ⟨rfl, h0⟩] at hR
              subst hR
              go_wp2_with fail
              go_ret
              exact ⟨rfl, unhide HB⟩
            · have hd2 : decide ((0 : Int) < (n : Int)) = false := decide_eq_false (by omega)
              rw [if_neg (fun h => h0 h.2)] at hR
              subst hR
              go_wp2_with fail
              go_ret
              exact ⟨rfl, unhide HB⟩
          | false =>
            rw [if_neg (fun h => by cases h.1)] at hR
            subst hR
            go_wp2_with fail
            go_ret
            exact ⟨rfl, unhide HB⟩
    · rw [if_pos hY] at hR
      subst hR
      have hYb : (Y != 0) = true := bne_iff_ne.2 hY
      go_wp2_with fail
      go_ret
      exact ⟨rfl, unhide HB⟩
  · rw [if_pos hX] at hR
    subst hR
    have hXb : (X != 0) = true := bne_iff_ne.2 hX
    have hXc : (X == 0) = false := by simpa using hX
    go_wp2_with fail
    go_ret
    exact ⟨rfl, unhide HB⟩
end Go.Proofs.YthchcjjpplcfnaaDoor

namespace Go.Proofs.YthchcjjpplcfnaaDoor
open Go.RowKit

theorem covered_snoc {vs : List Vc.V} {k : Nat} {u : Vc.V} (h : vs[k]? = some u) {v : Vc.V} (hall : ∀ x ∈ vs.take k, Vc.covers x v = false) (hu : Vc.covers u v = false) : ∀ x ∈ vs.take (k + 1), Vc.covers x v = false := fun x hx => by
  rw [take_snocA h] at hx
  rcases List.mem_append.1 hx with hx | hx
  · exact hall x hx
  · rw [List.mem_singleton.1 hx]; exact hu

set_option maxRecDepth 100000 in
set_option maxHeartbeats 1000000 in
theorem refCovered_any (a : Option Addr) (cap : Nat) (vs : List Vc.V) (hf : Few vs) (v : Vc.V) (r : Option Addr) (c : Nat) (w : World) (h : SV w a vs) :
    Calls Tryd.prog 53 #[.slice a vs.length cap, .agg (verL v r c).toArray] w fun e w' => e = .returned (.bool (Vc.covered vs v)) ∧ Below w.heap.size w w' := by
  have HB := hide (below_alloc' (w := w) (.cells (verL v r c).toArray 64))
  have RS := hide (VRow.new w 64 (verL v r c))
  have S := hide (h.after (unhide HB))
  have HF := hide hf
  have hl := hf.1
  obtain ⟨R, hR⟩ : ∃ R, Vc.covered vs v = R := ⟨_, rfl⟩
  rw [hR]
  have HR := hide hR
  clear h hf hR
  unfold verL at RS ⊢
  go_enter Tryd.func53, Tryd.ntmps53
  go_wp2_with fail
  unfold verL at *
  generalize w.alloc (.cells _ 64) = w0 at HB RS S ⊢
  go_loopw [5] (fun i wr => ∃ k : Nat, k ≤ vs.length ∧ i = .int .i64 k ∧ (∀ x ∈ vs.take k, Vc.covers x v = false) ∧ Below w0.heap.size w0 wr) (fun i _ => vs.length - (intOf i).toNat)
  case atStart => exact ⟨0, Nat.zero_le _, rfl, fun x hx => (by simp at hx), Below.refl _ _⟩
  case round =>
    obtain ⟨k, hk, rfl, hall, hb⟩ := hrel
    have HALL := hide hall
    have HB2 := hide (below_grow (unhide HB) (Nat.le_refl _) hb)
    have RS2 := (unhide RS).after hb
    have S2 := (unhide S).after hb
    have HBL := hide hb
    have b0 := cell_regrown (RS2.cell 0 _ rfl)
    have b1 := cell_regrown (RS2.cell 1 _ rfl)
    have b2 := cell_regrown (RS2.cell 2 _ rfl)
    have b3 := cell_regrown (RS2.cell 3 _ rfl)
    have b4 := cell_regrown (RS2.cell 4 _ rfl)
    clear hall hb RS2
    by_cases hlt : k < vs.length
    · obtain ⟨u, hx⟩ : ∃ d, vs[k]? = some d := ⟨_, List.getElem?_eq_getElem hlt⟩
      obtain ⟨g, o, rfl, hg, hcell⟩ := S2 (by omega)
      obtain ⟨q, d, h0, h1, h2, h3, h4, h5, h6⟩ := hcell k u hx
      have x0 := cell_regrown h0
      have x1 := cell_regrown h1
      have x2 := cell_regrown h2
      have x3 := cell_regrown h3
      have x4 := cell_regrown h4
      have H6 := hide h6
      have K := hide fun W h => refCovers_any u v q r d c ((unhide HF).at hx) W h
      unfold verL at K
      by_cases hc : Vc.covers u v = true
      · have HT : R = true := by
          rw [← unhide HR]
          exact List.any_eq_true.2 ⟨u, List.mem_of_getElem? hx, hc⟩
        subst HT
        rw [hc] at K
        clear hcell hx hc h0 h1 h2 h3 h4 h5 h6 HR
        go_wp2_with fail
        refine wp_region_quiet_below (by kernel_rfl) (by kernel_rfl) ?_
        repeat (quiet_step (first | (go_at_call 73; exact Calls.regrown_of (unhide K _ ((unhide H6).after (below_regrown _ _ _))))))
        refine wpQuiet_nil ?_
        intro _ hw'
        obtain ⟨⟨dq, osq⟩, hw''⟩ := hw'
        subst hw''
        go_wp2_with fail
        go_ret
        exact ⟨rfl, below_grow (unhide HB2) (Nat.le_refl _) (below_regrown _ _ _)⟩
      · rw [Bool.not_eq_true] at hc
        rw [hc] at K
        have HALL2 := hide (covered_snoc hx (unhide HALL) hc)
        clear hcell hx hc h0 h1 h2 h3 h4 h5 h6
        go_wp2_with fail
        refine wp_region_quiet_below (by kernel_rfl) (by kernel_rfl) ?_
        repeat (quiet_step (first | (go_at_call 73; exact Calls.regrown_of (unhide K _ ((unhide H6).after (below_regrown _ _ _))))))
        refine wpQuiet_nil ?_
        intro _ hw'
        obtain ⟨⟨dq, osq⟩, hw''⟩ := hw'
        subst hw''
        go_wp2_with fail
        go_roundw
        case rel => exact ⟨k + 1, by omega, by go_num, unhide HALL2, below_grow (unhide HBL) (Nat.le_refl _) (below_regrown _ _ _)⟩
        case measure => simp [intOf]; omega
    · obtain rfl : k = vs.length := by omega
      have HT : R = false := by
        rw [← unhide HR]
        exact (Vc.covered_no vs v).2 fun x hx => unhide HALL x (by rw [List.take_length]; exact hx)
      subst HT
      go_wp2_with fail
      go_ret
      exact ⟨rfl, unhide HB2⟩
end Go.Proofs.YthchcjjpplcfnaaDoor

namespace Go.Proofs.YthchcjjpplcfnaaDoor
open Go.RowKit

def prevQ (vs : List Vc.V) : Nat → Int
  | 0 => -1
  | k + 1 => ((vs[k]?).map fun v => v.dot.1).getD (-1)
theorem prevQ_at (vs : List Vc.V) (k : Nat) (v : Vc.V) (h : vs[k]? = some v) : prevQ vs (k + 1) = v.dot.1 := by simp [prevQ, h]
theorem chkL_step (vs : List Vc.V) (k : Nat) (v : Vc.V) (h : vs[k]? = some v) : Vc.chkL (prevQ vs k) (vs.drop k) = if Vc.chkV v ≠ 0 then Vc.chkV v else if v.dot.1 ≤ prevQ vs k then 8 else Vc.chkL (prevQ vs (k + 1)) (vs.drop (k + 1)) := by
  have hk := (List.getElem?_eq_some_iff.1 h).1
  rw [prevQ_at vs k v h, List.drop_eq_getElem_cons hk, (List.getElem?_eq_some_iff.1 h).2]
  rfl
theorem chkL_end (vs : List Vc.V) (q : Int) : Vc.chkL q (vs.drop vs.length) = 0 := by rw [List.drop_length]; rfl
theorem leaf_long {vs : List Vc.V} (h : 64 < vs.length) : Vc.checkLeaf vs = 2 := if_pos h
theorem leaf_bad {vs : List Vc.V} (h : ¬ 64 < vs.length) (h2 : Vc.chkL (-1) vs ≠ 0) : Vc.checkLeaf vs = Vc.chkL (-1) vs := by unfold Vc.checkLeaf; rw [if_neg h, if_pos h2]
theorem leaf_cov {vs : List Vc.V} (h : ¬ 64 < vs.length) (h2 : Vc.chkL (-1) vs = 0) {v : Vc.V} (hv : v ∈ vs) (hc : Vc.covered vs v = true) : Vc.checkLeaf vs = 7 := by
  unfold Vc.checkLeaf
  rw [if_neg h, if_neg (by simpa using h2), if_pos (List.any_eq_true.2 ⟨v, hv, hc⟩)]
theorem leaf_fine {vs : List Vc.V} (h : ¬ 64 < vs.length) (h2 : Vc.chkL (-1) vs = 0) (hc : ∀ v ∈ vs, Vc.covered vs v = false) : Vc.checkLeaf vs = 0 := by
  unfold Vc.checkLeaf
  rw [if_neg h, if_neg (by simpa using h2), if_neg]
  intro ha
  obtain ⟨v, hv, h3⟩ := List.any_eq_true.1 ha
  rw [hc v hv] at h3
  cases h3
theorem free_snoc {vs : List Vc.V} {k : Nat} {u : Vc.V} (h : vs[k]? = some u) (hall : ∀ x ∈ vs.take k, Vc.covered vs x = false) (hu : Vc.covered vs u = false) : ∀ x ∈ vs.take (k + 1), Vc.covered vs x = false := fun x hx => by
  rw [take_snocA h] at hx
  rcases List.mem_append.1 hx with hx | hx
  · exact hall x hx
  · rw [List.mem_singleton.1 hx]; exact hu

set_option maxRecDepth 100000 in
set_option maxHeartbeats 2000000 in
theorem refCheckLeaf_any (a : Option Addr) (cap : Nat) (vs : List Vc.V) (hf : Few vs) (w : World) (h : SV w a vs) :
    Calls Tryd.prog 32 #[.slice a vs.length cap] w fun e w' => e = .returned (.int .i64 (Vc.checkLeaf vs)) ∧ Below w.heap.size w w' := by
  have HS := hide h
  have HF := hide hf
  have hl := hf.1
  clear h hf
  by_cases h64 : 64 < vs.length
  · rw [leaf_long h64]
    have hd : decide ((64 : Int) < (vs.length : Int)) = true := decide_eq_true (by omega)
    go_enter Tryd.func32, Tryd.ntmps32
    go_wp2_with fail
    go_ret
    exact ⟨rfl, Below.refl _ _⟩
  · have hd : decide ((64 : Int) < (vs.length : Int)) = false := decide_eq_false (by omega)
    have HBAD := hide fun h2 => leaf_bad h64 h2
    have HCOV := hide fun h2 v hv hc => leaf_cov h64 h2 (v := v) hv hc
    have HFINE := hide fun h2 hc => leaf_fine h64 h2 hc
    have HC := hide (show Vc.chkL (-1) vs = Vc.chkL (prevQ vs 0) (vs.drop 0) from rfl)
    obtain ⟨C, hC⟩ : ∃ C, Vc.chkL (-1) vs = C := ⟨_, rfl⟩
    obtain ⟨R, hR⟩ : ∃ R, Vc.checkLeaf vs = R := ⟨_, rfl⟩
    rw [hC] at HC HBAD HCOV HFINE
    rw [hR] at HBAD HCOV HFINE ⊢
    have KC := hide fun v r c W h => refCovered_any a cap vs (unhide HF) v r c W h
    clear hC hR
    go_enter Tryd.func32, Tryd.ntmps32
    go_wp2_with fail
    go_loopw [3] (fun i wr => ∃ k : Nat, k ≤ vs.length ∧ i = .int .i64 k ∧ C = Vc.chkL (prevQ vs k) (vs.drop k) ∧ Below w.heap.size w wr) (fun i _ => vs.length - (intOf i).toNat)
    case atStart => exact ⟨0, Nat.zero_le _, rfl, unhide HC, Below.refl _ _⟩
    case round =>
      obtain ⟨k, hk, rfl, hc, hb⟩ := hrel
      have HC1 := hide hc
      have HB := hide hb
      have S := hide ((unhide HS).after hb)
      clear hc hb HC
      by_cases hlt : k < vs.length
      · obtain ⟨v, hx⟩ : ∃ d, vs[k]? = some d := ⟨_, List.getElem?_eq_getElem hlt⟩
        obtain ⟨g, o, rfl, hg, hcell⟩ := unhide S (by omega)
        obtain ⟨q, d, x0, x1, x2, x3, x4, h5, h6⟩ := hcell k v hx
        have HG := hide hg
        have HCell := hide hcell
        have HX := hide hx
        have KV := hide fun W h => refCheckV_any v q d ((unhide HF).at hx) W h
        have HST := hide (chkL_step vs k v hx)
        have H6 := hide h6
        unfold verL at KV
        clear hx hg hcell h5 h6
        by_cases he : Vc.chkV v = 0
        · have hok := ((Vc.chkV_zero v).1 he).dot
          rw [he] at KV
          rw [if_neg (by simpa using he)] at HST
          have hp0 : 0 ≤ v.dot.1 := hok.1
          clear he hok
          by_cases hk0 : 0 < k
          · obtain ⟨m, hm⟩ : ∃ m, k = m + 1 := ⟨k - 1, by omega⟩
            obtain ⟨u, hu⟩ : ∃ d, vs[m]? = some d := ⟨_, List.getElem?_eq_getElem (by omega)⟩
            have e' : prevQ vs k = u.dot.1 := by rw [hm]; exact prevQ_at vs m _ hu
            rw [e'] at HST HC1
            obtain ⟨q', d', y0, _, _, _, _, _, _⟩ := unhide HCell m u hu
            have HM := hide y0
            have HK := hide x0
            have hmi : (k : Int) - 1 = (m : Int) := by omega
            have hmw : IntKind.i64.wrap ((k : Int) - 1) = (m : Int) := by rw [hmi]; exact wrap_small (by omega) (by omega)
            have hml : m < vs.length := by omega
            have hgi : (0 : Int) < (k : Int) := by omega
            have HMK : Hid (k = m + 1) := hm
            clear hu hm e' y0
            generalize u.dot.1 = p' at HST HC1 HM
            generalize hvp : v.dot.1 = p at *
            clear hvp
            by_cases hle : p ≤ p'
            · have HNX : Hid (R = 8) := by
                have h := unhide HST
                rw [if_pos hle] at h
                have h8 : C = 8 := (unhide HC1).trans h
                exact hide ((unhide HBAD (by rw [h8]; decide)).trans h8)
              go_wp2_with (go_at_call 52; refine (unhide KV _ (unhide H6)).mono ?_; rintro e w2 ⟨rfl, hb2⟩; have HB2 := hide (below_grow (unhide HB) (Nat.le_refl _) hb2); have c2 := (hb2.cell (p := ⟨g, o + k * 5, none⟩) (unhide HG)).trans (unhide HK); have c3 := (hb2.cell (p := ⟨g, o + m * 5, none⟩) (unhide HG)).trans (unhide HM); clear hb2 x0 x1 x2 x3 x4)
              go_quiet (fail)
              go_wp2_with fail
              go_ret
              exact ⟨ret_int (unhide HNX).symm, below_drewN (unhide HB2) _⟩
            · have HNX : Hid (C = Vc.chkL (prevQ vs (k + 1)) (vs.drop (k + 1))) := by
                have h := unhide HST
                rw [if_neg hle] at h
                exact hide ((unhide HC1).trans h)
              go_wp2_with (go_at_call 52; refine (unhide KV _ (unhide H6)).mono ?_; rintro e w2 ⟨rfl, hb2⟩; have HB2 := hide (below_grow (unhide HB) (Nat.le_refl _) hb2); have c2 := (hb2.cell (p := ⟨g, o + k * 5, none⟩) (unhide HG)).trans (unhide HK); have c3 := (hb2.cell (p := ⟨g, o + m * 5, none⟩) (unhide HG)).trans (unhide HM); clear hb2 x0 x1 x2 x3 x4)
              go_quiet (fail)
              go_wp2_with fail
              go_roundw
              case rel => exact ⟨k + 1, by omega, by go_num, unhide HNX, below_drewN (unhide HB2) _⟩
              case measure => simp [intOf]; omega
          · have HNX : Hid (C = Vc.chkL (prevQ vs (k + 1)) (vs.drop (k + 1))) := by
              have h := unhide HST
              have e : prevQ vs k = -1 := by rw [show k = 0 by omega]; rfl
              rw [e, if_neg (show ¬ v.dot.1 ≤ -1 by omega)] at h
              rw [unhide HC1, e]
              exact h
            have hgd : decide (0 < (k : Int)) = false := decide_eq_false (by omega)
            go_wp2_with (go_at_call 52; refine (unhide KV _ (unhide H6)).mono ?_; rintro e w2 ⟨rfl, hb2⟩; have HB2 := hide (below_grow (unhide HB) (Nat.le_refl _) hb2); clear hb2 x0 x1 x2 x3 x4)
            go_quiet (fail)
            go_wp2_with fail
            go_roundw
            case rel => exact ⟨k + 1, by omega, by go_num, unhide HNX, below_drewN (unhide HB2) _⟩
            case measure => simp [intOf]; omega
        · have HNX : Hid (R = Vc.chkV v) := by
            have h := unhide HST
            rw [if_pos (by simpa using he)] at h
            have h8 : C = Vc.chkV v := (unhide HC1).trans h
            exact hide ((unhide HBAD (by rw [h8]; exact he)).trans h8)
          have heb : (Vc.chkV v != 0) = true := bne_iff_ne.2 he
          clear HST
          generalize Vc.chkV v = X at KV HNX heb he
          clear he
          go_wp2_with (go_at_call 52; refine (unhide KV _ (unhide H6)).mono ?_; rintro e w2 ⟨rfl, hb2⟩; have HB2 := hide (below_grow (unhide HB) (Nat.le_refl _) hb2); clear hb2 x0 x1 x2 x3 x4)
          go_ret
          exact ⟨ret_int (unhide HNX).symm, unhide HB2⟩
      · obtain rfl : k = vs.length := by omega
        have hC0 : C = 0 := (unhide HC1).trans (chkL_end vs _)
        subst hC0
        have HCOV2 := hide fun v hv hc => unhide HCOV rfl v hv hc
        have HFINE2 := hide fun hc => unhide HFINE rfl hc
        clear HC1 HBAD HCOV HFINE
        generalize wr = wa at HB S ⊢
        go_wp2_with fail
        go_loopw [5] (fun i wr => ∃ k : Nat, k ≤ vs.length ∧ i = .int .i64 k ∧ (∀ x ∈ vs.take k, Vc.covered vs x = false) ∧ Below w.heap.size w wr) (fun i _ => vs.length - (intOf i).toNat)
        case atStart => exact ⟨0, Nat.zero_le _, rfl, fun x hx => (by simp at hx), unhide HB⟩
        case round =>
          obtain ⟨k, hk, rfl, hall, hb⟩ := hrel
          have HALL := hide hall
          have HB2 := hide hb
          have S2 := hide ((unhide HS).after hb)
          clear hall hb HB S
          by_cases hlt : k < vs.length
          · obtain ⟨v, hx⟩ : ∃ d, vs[k]? = some d := ⟨_, List.getElem?_eq_getElem hlt⟩
            obtain ⟨g, o, rfl, hg, hcell⟩ := id (unhide S2) (by omega)
            obtain ⟨q, d, x0, x1, x2, x3, x4, h5, h6⟩ := hcell k v hx
            have K := hide fun W h => unhide KC v q d W h
            unfold verL at K
            by_cases hc : Vc.covered vs v = true
            · have HT : R = 7 := unhide HCOV2 v (List.mem_of_getElem? hx) hc
              subst HT
              rw [hc] at K
              clear hcell hx hc h5 h6 hg
              go_wp2_with (go_at_call 53; refine (unhide K _ (unhide S2)).mono ?_; rintro e w2 ⟨rfl, hb2⟩; replace HB2 := hide (below_grow (unhide HB2) (Nat.le_refl _) hb2); clear hb2 x0 x1 x2 x3 x4)
              go_ret
              exact ⟨rfl, unhide HB2⟩
            · rw [Bool.not_eq_true] at hc
              have HALL2 := hide (free_snoc hx (unhide HALL) hc)
              rw [hc] at K
              clear hcell hx hc h5 h6 hg
              go_wp2_with (go_at_call 53; refine (unhide K _ (unhide S2)).mono ?_; rintro e w2 ⟨rfl, hb2⟩; replace HB2 := hide (below_grow (unhide HB2) (Nat.le_refl _) hb2); clear hb2 x0 x1 x2 x3 x4)
              go_roundw
              case rel => exact ⟨k + 1, by omega, by go_num, unhide HALL2, unhide HB2⟩
              case measure => simp [intOf]; omega
          · obtain rfl : k = vs.length := by omega
            have HT : R = 0 := unhide HFINE2 fun x hx => unhide HALL x (by rw [List.take_length]; exact hx)
            subst HT
            go_wp2_with fail
            go_ret
            exact ⟨rfl, unhide HB2⟩
end Go.Proofs.YthchcjjpplcfnaaDoor
