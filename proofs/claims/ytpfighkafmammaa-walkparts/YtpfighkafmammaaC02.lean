/-
  Plain facts: a tree's entries, set one behind the other from any of them on, come to the same tree. Conditions: those that each theorem names.
-/
import Derived.Test.YtpfighkafmammaaB03
import Derived.Test.YtpfighkafmammaaB06
import Derived.Test.YtpfighkafmammaaB05
import Derived.Test.YtpfighkafmammaaC01
namespace Go.Proofs.Ytpfighkafmammaa
open Go.RowKit

def rotT (t : List En) (c : Nat) : Nat → List En
  | 0 => []
  | i + 1 => match t[(c + i) % t.length]? with
    | some x => putT x.1 x.2 (rotT t c i)
    | none => rotT t c i
theorem rot_step {t : List En} {c i : Nat} {x : En} (h : t[(c + i) % t.length]? = some x) : rotT t c (i + 1) = putT x.1 x.2 (rotT t c i) := by
  show (match t[(c + i) % t.length]? with | some x => putT x.1 x.2 (rotT t c i) | none => rotT t c i) = _
  rw [h]
theorem rot_mem {t : List En} (ht : Tr t) (c : Nat) : ∀ i, i ≤ t.length → Srt (rotT t c i) ∧ (∀ y, y ∈ rotT t c i ↔ ∃ j, j < i ∧ t[(c + j) % t.length]? = some y) ∧ (rotT t c i).length ≤ i
  | 0, _ => ⟨List.Pairwise.nil, fun y => ⟨fun h => (by cases h), fun ⟨j, hj, _⟩ => absurd hj (Nat.not_lt_zero _)⟩, Nat.le_refl _⟩
  | i + 1, hi => by
    obtain ⟨h1, h2, h3⟩ := rot_mem ht c i (by omega)
    obtain ⟨x, hx⟩ : ∃ x, t[(c + i) % t.length]? = some x := ⟨_, List.getElem?_eq_getElem (Nat.mod_lt _ (by omega))⟩
    have hxm := List.mem_of_getElem? hx
    rw [rot_step hx]
    refine ⟨srt_put _ _ h1, fun y => ?_, by have := len_put x.1 x.2 h1; omega⟩
    rw [mem_put h1]
    constructor
    · rintro (⟨rfl, _⟩ | ⟨hy, _⟩)
      · exact ⟨i, Nat.lt_succ_self _, hx⟩
      · obtain ⟨j, hj, h⟩ := (h2 y).1 hy
        exact ⟨j, by omega, h⟩
    · rintro ⟨j, hj, h⟩
      by_cases e : y.1 = x.1
      · have : y = x := ht.srt.one y (List.mem_of_getElem? h) x hxm e
        exact .inl ⟨this, (ht.leaf x hxm).1⟩
      · have hji : j ≠ i := fun e2 => by
          subst e2
          rw [hx] at h
          injection h with h
          exact e (by rw [h])
        exact .inr ⟨(h2 y).2 ⟨j, by omega, h⟩, e⟩
theorem rot_set {t : List En} (ht : Tr t) (c : Nat) {i : Nat} (hi : i < t.length) {x : En} (hx : t[(c + i) % t.length]? = some x) : setT (rotT t c i) x.1 x.2 = (rotT t c (i + 1), 0) := by
  obtain ⟨h1, _, h3⟩ := rot_mem ht c i (by omega)
  have hxm := List.mem_of_getElem? hx
  have hf := ht.few
  rw [rot_step hx]
  exact setT_fine (setE_fine (ht.path x hxm) (ht.leaf x hxm).2) (by have := len_put x.1 x.2 h1; omega)
theorem rot_all {t : List En} (ht : Tr t) (c : Nat) : rotT t c t.length = t := by
  obtain ⟨h1, h2, _⟩ := rot_mem ht c t.length (Nat.le_refl _)
  refine h1.ext ht.srt fun y => ?_
  rw [h2]
  constructor
  · rintro ⟨j, _, h⟩
    exact List.mem_of_getElem? h
  · intro hy
    obtain ⟨m, hm, rfl⟩ := List.getElem_of_mem hy
    have hn : 0 < t.length := by omega
    refine ⟨(m + (t.length - c % t.length)) % t.length, Nat.mod_lt _ hn, ?_⟩
    have e : (c + (m + (t.length - c % t.length)) % t.length) % t.length = m := by
      have h4 := Nat.div_add_mod c t.length
      have h5 := Nat.mod_lt c hn
      rw [Nat.add_mod_mod]
      have h6 : c + (m + (t.length - c % t.length)) = m + t.length * (c / t.length + 1) := by
        rw [Nat.mul_add, Nat.mul_one]
        omega
      rw [h6, Nat.add_mul_mod_self_left, Nat.mod_eq_of_lt hm]
    rw [e, List.getElem?_eq_getElem hm]
/-- A path that a tree hasn't, set and taken away again. -/
theorem set_take {t : List En} (ht : Tr t) {p : ByteArray} {l : List Vc.V} (hp : getT t p = []) (h : (setT t p l).2 = 0) : setT (setT t p l).1 p [] = (t, 0) := by
  obtain ⟨h1, h2, h3⟩ := setT_zero h
  have hn : ∀ x ∈ t, x.1 ≠ p := fun x hx e => by
    have := getT_mem ht.srt hx
    rw [e, hp] at this
    exact (ht.leaf x hx).1 (by rw [← this]; rfl)
  have h4 := put_take (l := l) ht.srt hn
  rw [h3]
  have hf := ht.few
  have := setT_fine (t := putT p l t) (p := p) (l := []) (setE_fine (setE_zero h1).1 ((Vc.checkLeaf_zero _).2 Vc.leaf_nil)) (by rw [h4]; exact hf)
  rw [h4] at this
  exact this
end Go.Proofs.Ytpfighkafmammaa

/-
  Plain facts: what stands below a directory and behind a text, in a tree's order. Conditions: those that each theorem names.
-/

namespace Go.Proofs.Ytpfighkafmammaa
open Go.RowKit

def listP (d a : ByteArray) (x : En) : Bool := underE x.1 d && decide (0 < cmpE x.1 a)
def listStep (d a : ByteArray) (m : Int) (out : List En) (x : En) : List En := if listP d a x = true ∧ (out.length : Int) < m then out ++ [x] else out
def listT (t : List En) (d a : ByteArray) (m : Int) : List En := t.foldl (listStep d a m) []
theorem list_snoc (t : List En) (d a : ByteArray) (m : Int) (j : Nat) (x : En) (h : t[j]? = some x) : listT (t.take (j + 1)) d a m = listStep d a m (listT (t.take j) d a m) x := by
  unfold listT
  rw [List.take_add_one, h]
  simp
theorem list_from (d a : ByteArray) (m : Int) : ∀ (t out : List En), t.foldl (listStep d a m) out = out ++ (t.filter (listP d a)).take (m.toNat - out.length)
  | [], out => by simp
  | x :: t, out => by
    show t.foldl (listStep d a m) (listStep d a m out x) = _
    rw [list_from d a m t]
    unfold listStep
    by_cases hp : listP d a x = true
    · by_cases hm : (out.length : Int) < m
      · rw [if_pos ⟨hp, hm⟩, List.filter_cons_of_pos hp, List.length_append, List.append_assoc]
        obtain ⟨k, hk⟩ : ∃ k, m.toNat - out.length = k + 1 := ⟨m.toNat - out.length - 1, by omega⟩
        rw [hk, show m.toNat - (out.length + [x].length) = k by simp; omega]
        rfl
      · rw [if_neg (fun h => hm h.2), show m.toNat - out.length = 0 by omega]
        simp
    · rw [if_neg (fun h => hp h.1), List.filter_cons_of_neg hp]
theorem list_eq (t : List En) (d a : ByteArray) (m : Int) : listT t d a m = (t.filter (listP d a)).take m.toNat := by
  have h := list_from d a m t []
  rw [List.nil_append, List.length_nil, Nat.sub_zero] at h
  exact h
theorem list_len (t : List En) (d a : ByteArray) (m : Int) : (listT t d a m).length ≤ t.length := by
  rw [list_eq, List.length_take]
  have := List.length_filter_le (listP d a) t
  omega
theorem list_mem {t : List En} {d a : ByteArray} {m : Int} : ∀ x ∈ listT t d a m, x ∈ t := fun x hx => by
  rw [list_eq] at hx
  exact (List.mem_filter.1 (List.mem_of_mem_take hx)).1
def belowAll (t : List En) (d : ByteArray) : List En := listT t d ⟨#[]⟩ t.length
def countT (t : List En) (d : ByteArray) : Nat := (belowAll t d).length + (t.filter fun x => decide (x.1 = d)).length
def depthT (t : List En) : Nat := t.foldl (fun n x => max n (partsE x.1).length) 0
theorem depth_snoc (t : List En) (j : Nat) (x : En) (h : t[j]? = some x) : depthT (t.take (j + 1)) = max (depthT (t.take j)) (partsE x.1).length := by
  unfold depthT
  rw [List.take_add_one, h]
  simp
def dirsStep (d : ByteArray) (out : List ByteArray) (x : En) : List ByteArray := if (partsE d).length + 1 < (partsE x.1).length ∧ out.getLast? ≠ some (nm x.1 d) then out ++ [nm x.1 d] else out
def dirsT (t : List En) (d : ByteArray) : List ByteArray := (belowAll t d).foldl (dirsStep d) []
theorem at_snoc (t : List En) (d : ByteArray) (j : Nat) (x : En) (h : t[j]? = some x) : ((t.take (j + 1)).filter fun x => decide (x.1 = d)).length = ((t.take j).filter fun x => decide (x.1 = d)).length + if x.1 = d then 1 else 0 := by
  rw [List.take_add_one, h, List.filter_append, List.length_append]
  by_cases e : x.1 = d <;> simp [e]
end Go.Proofs.Ytpfighkafmammaa

/-
  Plain facts: a tree's paths below a directory, listed again and again. Conditions: those that each theorem names.
-/

namespace Go.Proofs.Ytpfighkafmammaa
open Go.RowKit

theorem path_behind {p : ByteArray} (h : Pth.Pt.isPath p.data.toList = true) : 0 < cmpE p ⟨#[]⟩ := by
  have hp := ((Pth.Pt.isPath_iff _).1 h).2
  show 0 < Pth.Pt.cmpP (Pth.Pt.pieces p.data.toList) [[]]
  cases hc : Pth.Pt.pieces p.data.toList with
  | nil =>
    exfalso
    cases hd : p.data.toList with
    | nil => rw [hd] at hc; cases hc
    | cons b l =>
      rw [hd] at hc
      unfold Pth.Pt.pieces at hc
      split at hc
      · cases hc
      · split at hc <;> cases hc
  | cons n r =>
    rw [hc] at hp
    have hn := hp n (List.mem_cons_self ..)
    cases n with
    | nil => exact absurd hn (by decide)
    | cons b l =>
      rw [Pth.Pt.cmpP_cons]
      have e : Pth.Pt.cmpB (b :: l) [] = 1 := rfl
      rw [e, if_neg (by decide)]
      decide
theorem below_eq {t : List En} (h : Tr t) (d : ByteArray) : belowAll t d = t.filter fun x => underE x.1 d := by
  unfold belowAll
  rw [list_eq, List.filter_congr (q := fun x => underE x.1 d) (fun x hx => by unfold listP; rw [decide_eq_true (path_behind (h.path x hx)), Bool.and_true])]
  exact List.take_of_length_le (by have := List.length_filter_le (fun x : En => underE x.1 d) t; omega)
theorem list_below {t : List En} (h : Tr t) (d a : ByteArray) (m : Int) : listT t d a m = ((belowAll t d).filter fun x => decide (0 < cmpE x.1 a)).take m.toNat := by
  rw [list_eq, below_eq h, List.filter_filter]
  congr 1
  exact List.filter_congr fun x _ => by unfold listP; exact Bool.and_comm _ _
theorem srt_below {t : List En} (h : Tr t) (d : ByteArray) : Srt (belowAll t d) := by
  rw [below_eq h]
  exact h.srt.filter _
theorem filter_behind : ∀ {u : List En}, Srt u → ∀ {n : Nat} {x : En}, u[n]? = some x → u.filter (fun y => decide (0 < cmpE y.1 x.1)) = u.drop (n + 1)
  | [], _, n, x, hx => by simp at hx
  | y :: v, hu, 0, x, hx => by
    simp at hx
    subst hx
    rw [List.filter_cons_of_neg (by rw [cmpE_self]; decide)]
    show v.filter _ = v
    exact List.filter_eq_self.2 fun z hz => decide_eq_true (by have h1 := hu.head z hz; have h2 := cmpE_anti y.1 z.1; omega)
  | y :: v, hu, n + 1, x, hx => by
    have hx' : v[n]? = some x := hx
    have h1 := hu.head x (List.mem_of_getElem? hx')
    rw [List.filter_cons_of_neg (by simp; omega)]
    exact filter_behind hu.tail hx'
/-- The path that the n-th listing starts behind. -/
def behindT (u : List En) : Nat → ByteArray
  | 0 => ⟨#[]⟩
  | n + 1 => match u[n]? with | some x => x.1 | none => ⟨#[]⟩
theorem list_next {t : List En} (h : Tr t) (d : ByteArray) {n : Nat} (hn : n ≤ (belowAll t d).length) (m : Int) : listT t d (behindT (belowAll t d) n) m = ((belowAll t d).drop n).take m.toNat := by
  rw [list_below h]
  congr 1
  cases n with
  | zero =>
    rw [List.drop_zero]
    exact List.filter_eq_self.2 fun x hx => decide_eq_true (path_behind (h.path x (list_mem x hx)))
  | succ n =>
    obtain ⟨x, hx⟩ : ∃ x, (belowAll t d)[n]? = some x := ⟨_, List.getElem?_eq_getElem (by omega)⟩
    have e : behindT (belowAll t d) (n + 1) = x.1 := by
      show (match (belowAll t d)[n]? with | some x => x.1 | none => ⟨#[]⟩) = _
      rw [hx]
    rw [e]
    exact filter_behind (srt_below h d) hx
end Go.Proofs.Ytpfighkafmammaa

/-
  Whether two lists of texts are the same, and what Parts answers: a path's names.
-/

namespace Go.Proofs.Ytpfighkafmammaa.Pth
open Go.RowKit

theorem data_inj (a b : ByteArray) (h : a.data.toList = b.data.toList) : a = b := ByteArray.ext (Array.toList_inj.1 h)
theorem lists_inj : ∀ bs cs : List ByteArray, lists bs = lists cs → bs = cs
  | [], [], _ => rfl
  | [], _ :: _, h => by cases h
  | _ :: _, [], h => by cases h
  | b :: bs, c :: cs, h => by
    have h' : b.data.toList :: lists bs = c.data.toList :: lists cs := h
    rw [List.cons.injEq] at h'
    rw [data_inj b c h'.1, lists_inj bs cs h'.2]

theorem toList_eq (a b : ByteArray) : (a.toList == b.toList) = decide (a = b) := by
  rw [Bool.eq_iff_iff, beq_iff_eq, decide_eq_true_eq, Lib.toList_data, Lib.toList_data]
  exact ⟨data_inj a b, fun h => by rw [h]⟩

end Go.Proofs.Ytpfighkafmammaa.Pth

/-
  What the document's Up, Last and Under answer.
-/

namespace Go.Proofs.Ytpfighkafmammaa.Pth
open Go.RowKit

theorem lists_at (bs : List ByteArray) (k : Nat) : (lists bs)[k]? = bs[k]?.map (·.data.toList) := by simp [lists]

set_option maxRecDepth 100000 in
set_option maxHeartbeats 1000000 in
theorem refUnder_any (s d : ByteArray) (hs : s.size ≤ 1000) (hd : d.size ≤ 1000) (w : World) :
    Calls Try.prog 33 #[.string s, .string d] w fun e w' => e = .returned (.bool (Pt.under s.data.toList d.data.toList)) ∧ Below w.heap.size w w' := by
  have K1 := hide (refParts_any s hs)
  have K2 := hide (refParts_any d hd)
  have HI := hide (Pt.under_names s.data.toList d.data.toList)
  have hP4 := Pt.parts_le s.data.toList
  have hQ4 := Pt.parts_le d.data.toList
  have HPP := hide (Pt.parts_pos s.data.toList)
  have HPQ := hide (Pt.parts_pos d.data.toList)
  have HE := hide (empty_iff d)
  generalize Pt.under s.data.toList d.data.toList = B at *
  generalize Pt.parts s.data.toList = PS at *
  generalize Pt.parts d.data.toList = PD at *
  have no : (¬ (B = true)) → B = false := fun h => by cases B with | false => rfl | true => exact absurd rfl h
  have NO := hide no
  clear no
  go_enter Try.func33, Try.ntmps33
  go_wp2_with fail
  refine (unhide K1 _).mono ?_
  rintro e w1 ⟨a1, c1, bs, rfl, hl1, _, hs1, hb1⟩
  go_wp2_with fail
  refine (unhide K2 _).mono ?_
  rintro e w2 ⟨a2, c2, cs, rfl, hl2, _, hs2, hb2⟩
  have hbl : PS.length = bs.length := by rw [← hl1, size_lists]
  have hcl : PD.length = cs.length := by rw [← hl2, size_lists]
  rw [hbl] at hP4
  rw [hcl] at hQ4
  have HL1 := hide hl1
  have HL2 := hide hl2
  have HS1 := hide (hs1.after hb2)
  have HS2 := hide hs2
  have HB2 := hide (below_grow hb1 (Nat.le_refl _) hb2)
  rw [hbl] at HPP HI
  rw [hcl] at HPQ HI
  clear hl1 hl2 hs1 hs2 hb1 hb2 hbl hcl K1 K2
  by_cases h0 : bs.length = 0
  · obtain rfl := unhide NO fun h => by have := ((unhide HI).1 h).2.2.1; omega
    obtain rfl : bs = [] := List.length_eq_zero_iff.1 h0
    clear h0
    go_wp2_with fail
    go_ret
    exact ⟨rfl, unhide HB2⟩
  · have h0b : ((bs.length : Int) == 0) = false := by
      cases h : ((bs.length : Int) == 0) with
      | false => rfl
      | true => rw [beq_iff_eq] at h; omega
    have hpath : Hid (Pt.isPath s.data.toList = true) := hide (by rw [← unhide HPP]; exact decide_eq_true (by omega))
    have h1 : 1 ≤ bs.length := by omega
    clear h0
    by_cases hdd : d.toList.isEmpty = false ∧ cs.length = 0
    · obtain ⟨hde, hcz⟩ := hdd
      obtain rfl := unhide NO fun h => by
        rcases ((unhide HI).1 h).2.1 with h | h
        · rw [(unhide HE).2 h] at hde; cases hde
        · rw [← unhide HPQ, decide_eq_true_eq] at h; omega
      obtain rfl : cs = [] := List.length_eq_zero_iff.1 hcz
      clear hcz
      go_wp2_with fail
      go_ret
      exact ⟨rfl, unhide HB2⟩
    · have hdir : Hid (d.data.toList = [] ∨ Pt.isPath d.data.toList = true) := by
        cases hde : d.toList.isEmpty with
        | true => exact .inl ((unhide HE).1 hde)
        | false => refine .inr ?_; rw [← unhide HPQ]; exact decide_eq_true (Nat.pos_of_ne_zero fun h => hdd ⟨hde, h⟩)
      by_cases hge : bs.length ≤ cs.length
      · obtain rfl := unhide NO fun h => by have := ((unhide HI).1 h).2.2.1; omega
        cases hde : d.toList.isEmpty with
        | true =>
          clear hdd
          go_wp2_with fail
          go_ret
          exact ⟨rfl, unhide HB2⟩
        | false =>
          have hcb : ((cs.length : Int) == 0) = false := by
            cases h : ((cs.length : Int) == 0) with
            | false => rfl
            | true => rw [beq_iff_eq] at h; omega
          clear hdd
          go_wp2_with fail
          go_ret
          exact ⟨rfl, unhide HB2⟩
      · have hcond : d.toList.isEmpty = true ∨ (d.toList.isEmpty = false ∧ ((cs.length : Int) == 0) = false) := by
          cases hde : d.toList.isEmpty with
          | true => exact .inl rfl
          | false =>
            refine .inr ⟨rfl, ?_⟩
            cases h : ((cs.length : Int) == 0) with
            | false => rfl
            | true => rw [beq_iff_eq] at h; exact absurd ⟨hde, by omega⟩ hdd
        clear hdd
        rcases hcond with hde | ⟨hde, hcb⟩
        all_goals
          go_wp2_with fail
          go_loopw [7] (fun i wr => ∃ k q : Nat, k ≤ cs.length ∧ i = .int .i64 k ∧ (∀ j : Nat, j < k → bs[j]? = cs[j]?) ∧ wr = w2.drewN q) (fun i _ => cs.length - (intOf i).toNat)
          case atStart => exact ⟨0, 0, Nat.zero_le _, rfl, fun j hj => absurd hj (Nat.not_lt_zero _), rfl⟩
          case round =>
            obtain ⟨k, q, hk, rfl, hall, rfl⟩ := hrel
            have HALL := hide hall
            clear hall
            by_cases hlt : k < cs.length
            · obtain ⟨x, hx⟩ : ∃ x, bs[k]? = some x := ⟨_, List.getElem?_eq_getElem (by omega)⟩
              obtain ⟨y, hy⟩ : ∃ y, cs[k]? = some y := ⟨_, List.getElem?_eq_getElem hlt⟩
              obtain ⟨g1, o1, rfl, _, hc1⟩ := unhide HS1 (by omega)
              obtain ⟨g2, o2, rfl, _, hc2⟩ := unhide HS2 (by omega)
              have e1 : w2.cell? ⟨g1, o1 + k, none⟩ = some (.string x) := hc1 k x hx
              have e2 : w2.cell? ⟨g2, o2 + k, none⟩ = some (.string y) := hc2 k y hy
              have ht := toList_eq x y
              by_cases hxy : x = y
              · have HALL2 : Hid (∀ j : Nat, j < k + 1 → bs[j]? = cs[j]?) := by
                  intro j hj
                  by_cases e : j = k
                  · subst e; rw [hx, hy, hxy]
                  · exact unhide HALL j (by omega)
                have ht' : (x.toList == y.toList) = true := by rw [ht]; exact decide_eq_true hxy
                clear ht hxy hc1 hc2 hx hy
                go_wp2_with fail
                go_quiet (fail)
                go_wp2_with fail
                go_roundw
                case rel => exact ⟨k + 1, _, by omega, by go_num, unhide HALL2, rfl⟩
                case measure => simp [intOf]; omega
              · obtain rfl := unhide NO fun h => by
                  have := ((unhide HI).1 h).2.2.2 k (by omega)
                  rw [← unhide HL1, ← unhide HL2, lists_at, lists_at, hx, hy] at this
                  exact hxy (data_inj _ _ (Option.some.inj this))
                have ht' : (x.toList == y.toList) = false := by rw [ht]; exact decide_eq_false hxy
                clear ht hxy hc1 hc2 hx hy
                go_wp2_with fail
                go_quiet (fail)
                go_wp2_with fail
                go_ret
                exact ⟨rfl, below_drewN (below_drewN (unhide HB2) _) _⟩
            · obtain rfl : B = true := (unhide HI).2 ⟨unhide hpath, unhide hdir, by omega, fun i hi => by
                rw [← unhide HL1, ← unhide HL2, lists_at, lists_at, unhide HALL i (by omega)]⟩
              go_wp2_with fail
              go_ret
              exact ⟨rfl, below_drewN (unhide HB2) _⟩
end Go.Proofs.Ytpfighkafmammaa.Pth

/-
  A row of texts of the call's own; the document's names below a directory. Conditions: those that each theorem names.
-/

namespace Go.Proofs.Ytpfighkafmammaa
open Go.RowKit

/-- A row of texts of the call's own. -/
def OT (W : World) (base : Nat) (v : Value) (bs : List ByteArray) : Prop := W.ownsRow base 9 1 v bs.length (bs.map Value.string)
theorem OT.nil (W : World) (base : Nat) : OT W base (.slice none 0 0) [] := World.ownsRow_nil _ _ _ _
theorem OT.after {W W' : World} {base : Nat} {v : Value} {bs : List ByteArray} (h : OT W base v bs) (hb : Below W.heap.size W W') : OT W' base v bs := by
  refine ⟨h.1, ?_⟩
  rcases h.2 with h2 | ⟨g, cap, cur, e1, e2, e3, e4⟩
  · exact .inl h2
  · exact .inr ⟨g, cap, cur, e1, e2, (hb.block g (Array.getElem?_eq_some_iff.1 e3).1).trans e3, e4⟩
theorem OT.sl {W : World} {base : Nat} {v : Value} {bs : List ByteArray} (h : OT W base v bs) : ∃ a cap, v = .slice a bs.length cap ∧ bs.length ≤ cap ∧ Pth.Sl W a bs ∧ ∀ g o, a = some ⟨g, o, none⟩ → base ≤ g := by
  rcases h.2 with ⟨rfl, h0⟩ | ⟨g, cap, cur, rfl, hg, hh, c1, c2, c3, c4⟩
  · have : bs = [] := List.eq_nil_of_length_eq_zero h0
    subst this
    exact ⟨none, 0, rfl, Nat.le_refl _, Pth.Sl.none _ _, fun _ _ e => by cases e⟩
  · refine ⟨_, cap, rfl, c1, fun _ => ⟨g, 0, rfl, (Array.getElem?_eq_some_iff.1 hh).1, fun j b hj => ?_⟩, fun g' o' e => by injection e with e; injection e with e; omega⟩
    have hjl : j < bs.length := (List.getElem?_eq_some_iff.1 hj).1
    rw [cell_of_row W g _ cur 9 (0, 0) hh]
    have h5 : (cur.toList.take (bs.length * 1))[j]? = (bs.map Value.string)[j]? := by rw [c4]
    rw [List.getElem?_take_of_lt (by omega), List.getElem?_map, hj] at h5
    rw [Nat.zero_add]
    simpa using h5
theorem addr_add (g o j : Nat) : (⟨g, o, none⟩ : Addr).add j = ⟨g, o + j, none⟩ := by unfold Addr.add; split <;> simp_all
set_option maxRecDepth 100000 in
theorem append_txt {w : World} {ops : Array Oper} {rest : List Oper} {o : Oper} {a : Act} {Q : Exit → Act → World → Prop} (hgd : o.guard = none) (s x : Operand)
    (ho : o.op = .call { callee := .builtin .append, args := #[s, x], argTypes := #[46, 46] }) (base : Nat) (v : Value) (bs : List ByteArray) (hs : a.eval s = v) (hown : OT w base v bs)
    (ad : Option Addr) (n c : Nat) (ys : List ByteArray) (hn' : ys.length = n) (hx : a.eval x = .slice ad n c) (hD : Pth.Sl w ad ys) (hn : bs.length + ys.length ≤ 1000000) (hbase : base ≤ w.heap.size)
    (h : ∀ v' w', OT w' base v' (bs ++ ys) → Below base w w' → w.grownBy w' v.ownBlock → (v'.ownBlock = v.ownBlock ∨ v'.ownBlock = some w.heap.size) → wpList Try.prog ops Q rest (a.put o.dst v') w') : wpList Try.prog ops Q (o :: rest) a w := by
  subst hn'
  obtain ⟨i0, hi, hz0, hz1, hz2⟩ := info_parts Pth.info9
  have hone : ∀ v ∈ (ys.map Value.string), v.oneCell' = true := fun v hv => by
    obtain ⟨b, _, rfl⟩ := List.mem_map.1 hv
    rfl
  cases ad with
  | none =>
    have hxs : ys = [] := by
      cases ys with
      | nil => rfl
      | cons d l => obtain ⟨g, o, e, _⟩ := hD (by simp); cases e
    subst hxs
    refine wpList_plain hgd fun K hK => ?_
    have hrun := run_append_noneV (w := w) base 46 o.type 9 i0 1 Try.underlying46 hi v bs.length _ hown c
    unfold Oper.wp
    simp only [List.length_nil] at hx
    simp [execOp, ho, resolve, invoke, builtin, hs, hx, hrun, Result.andThen]
    refine hK _ _ (h v w ?_ (Below.refl _ _) ⟨rfl, rfl, rfl, Nat.le_refl _, fun _ _ _ => rfl⟩ (.inl rfl))
    rw [List.append_nil]
    exact hown
  | some ad =>
    have hps : ∀ j u, (ys.map Value.string)[j]? = some u → w.cell? (ad.add j) = some u := by
      intro j u hu
      rw [List.getElem?_map] at hu
      obtain ⟨b, hb, rfl⟩ := Option.map_eq_some_iff.1 hu
      obtain ⟨g, o, e, hg, hc⟩ := hD (by have := (List.getElem?_eq_some_iff.1 hb).1; omega)
      injection e with e
      subst e
      rw [addr_add]
      exact hc j b hb
    refine wpList_append_own_at w hgd s x 46 ho base 9 i0 _ 1 16 Try.underlying46 hi hz0 hz1 hz2 rfl (by decide) v bs.length (bs.map Value.string) hs hown ad ys.length c (ys.map Value.string) hx (by simp) hps hone (by unfold maxLen; omega) (by omega) hbase ?_
    intro v' w' g1 g2 _ g4
    refine h v' w' ?_ (grown_below hown g2 hbase) g2 g4
    unfold OT
    rw [List.length_append, List.map_append]
    exact g1
theorem one_txt {W : World} {D T : Nat} {b : ByteArray} (h : VRow W D T [.string b]) : Pth.Sl W (some ⟨D, 0, none⟩) [b] := fun _ => ⟨D, 0, rfl, h.lt, fun j x hj => by
  have hj0 : j = 0 := by have := (List.getElem?_eq_some_iff.1 hj).1; simp at this; omega
  subst hj0
  simp at hj
  subst hj
  exact h.cell 0 _ rfl⟩
def MadeT (w : World) (bs : List ByteArray) (e : Ending) (w' : World) : Prop := ∃ a cap, e = .returned (.slice a bs.length cap) ∧ bs.length ≤ cap ∧ Pth.Sl w' a bs ∧ (∀ g o, a = some ⟨g, o, none⟩ → w.heap.size ≤ g) ∧ Below w.heap.size w w'
theorem nm_at {p d : ByteArray} (h : underE p d = true) {bs cs : List ByteArray} (hb : Pth.lists bs = Pth.Pt.parts p.data.toList) (hc : Pth.lists cs = Pth.Pt.parts d.data.toList) : bs[cs.length]? = some (nm p d) := by
  obtain ⟨h1, _, r, h3⟩ := under_split h
  have e1 : (Pth.lists bs)[cs.length]? = some (nm p d).data.toList := by
    have e2 : cs.length = (partsE d).length := by unfold partsE; rw [← hc, Pth.size_lists]
    rw [hb, Pth.Pt.parts_path _ h1, h3, e2, List.getElem?_append_right (Nat.le_refl _), Nat.sub_self]
    rfl
  rw [Pth.lists_at] at e1
  obtain ⟨b, hb2, hb3⟩ := Option.map_eq_some_iff.1 e1
  rw [hb2, Pth.data_inj _ _ hb3]

end Go.Proofs.Ytpfighkafmammaa

/-
  What the document's List, Under, Count and Depth answer. Conditions: those that each theorem names.
-/

namespace Go.Proofs.Ytpfighkafmammaa
open Go.RowKit

set_option maxRecDepth 100000 in
set_option maxHeartbeats 1000000 in
theorem refList_any (a : Option Addr) (cap : Nat) (t : List En) (ht : Eok t) (d s : ByteArray) (hd : d.size ≤ 1000) (hs : s.size ≤ 1000) (m : Int) (w : World) (h : EL w a t) :
    Calls Try.prog 15 #[.slice a t.length cap, .string d, .string s, .int .i64 m] w (MadeE w (listT t d s m)) := by
  have KU := hide fun x (hx : x.size ≤ 1000) W => Pth.refUnder_any x d hx hd W
  have KC := hide fun x (hx : x.size ≤ 1000) W => Pth.refCompare_any x s hx hs W
  have HU : Hid (∀ q, Pth.Pt.under q.data.toList d.data.toList = underE q d) := hide fun _ => rfl
  have HCE : Hid (∀ q, Pth.Pt.cmpT q.data.toList s.data.toList = cmpE q s) := hide fun _ => rfl
  have HT := hide ht
  have HS := hide h
  have hl := ht.len
  clear h ht
  go_enter Try.func15, Try.ntmps15
  go_wp2_with fail
  go_loopw [9, 10] (fun o i wr => ∃ (k : Nat), k ≤ t.length ∧ i = .int .i64 k ∧ OE wr w.heap.size o (listT (t.take k) d s m) ∧ Below w.heap.size w wr) (fun _ i _ => t.length - (intOf i).toNat)
  case atStart => exact ⟨0, Nat.zero_le _, rfl, OE.nil _ _, Below.refl _ _⟩
  case round =>
    obtain ⟨k, hk, rfl, hoe, hb⟩ := hrel
    have HO := hide hoe
    have HB := hide hb
    have hsz := hb.size
    have hll := list_len (t.take k) d s m
    rw [List.length_take] at hll
    by_cases hlt : k < t.length
    · obtain ⟨x, hx⟩ : ∃ d, t[k]? = some d := ⟨_, List.getElem?_eq_getElem hlt⟩
      obtain ⟨g0, o0, e0, hg0, hcell0⟩ := unhide HS (by omega)
      subst e0
      obtain ⟨q, c, y0, y1, h5, h6⟩ := hcell0 k x hx
      have HY0 := hide y0
      have HY1 := hide y1
      have H6 := hide h6
      have x0 := (hb.cell (p := ⟨g0, o0 + k * 2, none⟩) hg0).trans y0
      have HG0 := hide hg0
      have HSN := hide (list_snoc t d s m k x hx)
      have HPX := hide ((unhide HT).path x (List.mem_of_getElem? hx))
      have KUx := hide (unhide KU x.1 (unhide HPX))
      have KCx := hide (unhide KC x.1 (unhide HPX))
      rw [unhide HU x.1] at KUx
      rw [unhide HCE x.1] at KCx
      generalize listT (t.take k) d s m = L at HO HSN hll
      have HPD : Hid (listP d s x = (underE x.1 d && decide (0 < cmpE x.1 s))) := hide rfl
      generalize underE x.1 d = UD at KUx HPD
      generalize cmpE x.1 s = CD at KCx HPD
      clear hcell0 hx hg0 h6 y0 y1 hoe hb
      go_wp2_with fail
      refine (unhide KUx _).mono ?_
      rintro e w3 ⟨rfl, hb⟩
      have HB3 := hide (below_grow (unhide HB) (Nat.le_refl _) hb)
      have HO3 := hide ((unhide HO).after hb)
      have x0 := ((unhide HB3).cell (p := ⟨g0, o0 + k * 2, none⟩) (unhide HG0)).trans (unhide HY0)
      clear hb HB HO KUx
      cases UD with
      | false =>
        have HX : Hid (listT (t.take (k + 1)) d s m = L) := hide (by rw [unhide HSN]; unfold listStep; rw [unhide HPD, if_neg (by simp)])
        go_wp2_with fail
        go_roundw
        case rel => exact ⟨k + 1, by omega, by go_num, by rw [unhide HX]; exact unhide HO3, unhide HB3⟩
        case measure => simp [intOf]; omega
      | true =>
        go_wp2_with fail
        refine (unhide KCx _).mono ?_
        rintro e w4 ⟨rfl, hb⟩
        have HB4 := hide (below_grow (unhide HB3) (Nat.le_refl _) hb)
        have HO4 := hide ((unhide HO3).after hb)
        have hz4 := (unhide HB4).size
        have x0 := ((unhide HB4).cell (p := ⟨g0, o0 + k * 2, none⟩) (unhide HG0)).trans (unhide HY0)
        have x1 := ((unhide HB4).cell (p := ⟨g0, o0 + k * 2 + 1, none⟩) (unhide HG0)).trans (unhide HY1)
        clear hb HB3 HO3 KCx
        by_cases hc : 0 < CD
        · have hcd : decide (0 < CD) = true := decide_eq_true hc
          obtain ⟨r9, c9, rfl, hc9, _⟩ := (unhide HO4).el
          by_cases hm : (L.length : Int) < m
          · have hmd : decide ((L.length : Int) < m) = true := decide_eq_true hm
            have HX : Hid (listT (t.take (k + 1)) d s m = L ++ [x]) := hide (by rw [unhide HSN]; unfold listStep; rw [unhide HPD, if_pos ⟨by simp [hc], hm⟩])
            have HV9 := hide (VRow.new w4 44 [.string x.1, .slice q x.2.length c])
            have HA9 := hide (below_alloc' (w := w4) (.cells #[.string x.1, .slice q x.2.length c] 44))
            have HF9 := hide ((unhide H6).off (row := _) (fun g e => ((unhide HO4).lt g e).1) (below_grow (unhide HB4) (Nat.le_refl _) (unhide HA9)))
            clear hc hm
            go_wp2_with (first
              | (refine load_ent (by rfl) _ (by rfl) g0 (o0 + k * 2) (by rfl) x q c (ent_range x0 x1) ?_)
              | (at_builtin; refine append_ent (by rfl) _ _ (by rfl) w.heap.size _ L (by rfl) ((unhide HO4).after (unhide HA9)) w4.heap.size x q c (by rfl) (ent_row (unhide HV9)) h5 (unhide HF9).1 (unhide HF9).2 (by omega) (Nat.le_trans hz4 (unhide HA9).size) ?_; intro v9 w9 hoe9 hb9 _; have HO9 := hide hoe9; have HB9 := hide (((unhide HB4).trans ((unhide HA9).mono hz4)).trans hb9); clear hoe9 hb9))
            go_roundw
            case rel => exact ⟨k + 1, by omega, by go_num, by rw [unhide HX]; exact unhide HO9, unhide HB9⟩
            case measure => simp [intOf]; omega
          · have hmd : decide ((L.length : Int) < m) = false := decide_eq_false hm
            have HX : Hid (listT (t.take (k + 1)) d s m = L) := hide (by rw [unhide HSN]; unfold listStep; rw [if_neg (fun h => hm h.2)])
            clear hc hm
            go_wp2_with fail
            go_roundw
            case rel => exact ⟨k + 1, by omega, by go_num, by rw [unhide HX]; exact unhide HO4, unhide HB4⟩
            case measure => simp [intOf]; omega
        · have hcd : decide (0 < CD) = false := decide_eq_false hc
          have HX : Hid (listT (t.take (k + 1)) d s m = L) := hide (by rw [unhide HSN]; unfold listStep; rw [unhide HPD, if_neg (by simp [hc])])
          clear hc
          go_wp2_with fail
          go_roundw
          case rel => exact ⟨k + 1, by omega, by go_num, by rw [unhide HX]; exact unhide HO4, unhide HB4⟩
          case measure => simp [intOf]; omega
    · obtain rfl : k = t.length := by omega
      rw [List.take_length] at HO
      clear hoe
      obtain ⟨r, c, rfl, hc, hs2⟩ := (unhide HO).el
      have HS2 := hide hs2
      clear hs2
      go_wp2_with fail
      go_ret
      exact ⟨r, c, rfl, hc, unhide HS2, unhide HB⟩

set_option maxRecDepth 100000 in
set_option maxHeartbeats 400000 in
theorem refBelow_any (a : Option Addr) (cap : Nat) (t : List En) (ht : Eok t) (d : ByteArray) (hd : d.size ≤ 1000) (w : World) (h : EL w a t) :
    Calls Try.prog 13 #[.slice a t.length cap, .string d] w (MadeE w (belowAll t d)) := by
  have K := hide (refList_any a cap t ht d ⟨#[]⟩ hd (by decide) t.length w h)
  have HL : Hid (listT t d ⟨#[]⟩ t.length = belowAll t d) := hide rfl
  rw [unhide HL] at K
  clear ht h HL
  go_enter Try.func13, Try.ntmps13
  go_wp2_with fail
  refine (unhide K).mono ?_
  rintro e w1 ⟨r, c, rfl, hc, hel, hb⟩
  have HE := hide hel
  have HB := hide hb
  clear hel hb K
  go_wp2_with fail
  go_ret
  exact ⟨r, c, rfl, hc, unhide HE, unhide HB⟩

set_option maxRecDepth 100000 in
set_option maxHeartbeats 1000000 in
theorem refCount_any (a : Option Addr) (cap : Nat) (t : List En) (ht : Eok t) (d : ByteArray) (hd : d.size ≤ 1000) (w : World) (h : EL w a t) :
    Calls Try.prog 17 #[.slice a t.length cap, .string d] w fun e w' => e = .returned (.int .i64 (countT t d : Nat)) ∧ Below w.heap.size w w' := by
  have K := hide (refBelow_any a cap t ht d hd w h)
  have HS := hide h
  have hl := ht.len
  have hbl : (belowAll t d).length ≤ t.length := list_len t d ⟨#[]⟩ t.length
  have HCT : Hid (countT t d = (belowAll t d).length + (t.filter fun x => decide (x.1 = d)).length) := hide rfl
  generalize countT t d = CT at HCT ⊢
  generalize belowAll t d = L at K HCT hbl
  clear ht h
  go_enter Try.func17, Try.ntmps17
  go_wp2_with fail
  refine (unhide K).mono ?_
  rintro e w1 ⟨r, c, rfl, hc, _, hb⟩
  have HB1 := hide hb
  clear hb K
  go_wp2_with fail
  go_loopw [5, 6] (fun v i wr => ∃ k : Nat, k ≤ t.length ∧ i = .int .i64 k ∧ v = .int .i64 (L.length + ((t.take k).filter fun x => decide (x.1 = d)).length : Nat) ∧ wr = w1) (fun _ i _ => t.length - (intOf i).toNat)
  case atStart => exact ⟨0, Nat.zero_le _, rfl, rfl, rfl⟩
  case round =>
    obtain ⟨k, hk, rfl, rfl, rfl⟩ := hrel
    by_cases hlt : k < t.length
    · obtain ⟨x, hx⟩ : ∃ d, t[k]? = some d := ⟨_, List.getElem?_eq_getElem hlt⟩
      obtain ⟨g0, o0, e0, hg0, hcell0⟩ := unhide HS (by omega)
      subst e0
      obtain ⟨q, c, y0, y1, h5, h6⟩ := hcell0 k x hx
      have x0 := ((unhide HB1).cell (p := ⟨g0, o0 + k * 2, none⟩) hg0).trans y0
      have HSN := hide (at_snoc t d k x hx)
      have hfl := List.length_filter_le (fun x : En => decide (x.1 = d)) (t.take k)
      rw [List.length_take] at hfl
      generalize ((t.take k).filter fun x => decide (x.1 = d)).length = N at HSN hfl
      have hst := same_text x.1 d
      clear hcell0 hx y0 y1 h5 h6 hg0
      by_cases he : x.1 = d
      · rw [decide_eq_true he] at hst
        have HX := hide (unhide HSN)
        rw [if_pos he] at HX
        clear he HSN
        go_wp2_with fail
        go_roundw
        case rel => exact ⟨k + 1, by omega, by go_num, by rw [unhide HX]; go_num, by first | trivial | rfl⟩
        case measure => simp [intOf]; omega
      · rw [decide_eq_false he] at hst
        have HX := hide (unhide HSN)
        rw [if_neg he] at HX
        clear he HSN
        go_wp2_with fail
        go_roundw
        case rel => exact ⟨k + 1, by omega, by go_num, by rw [unhide HX]; rfl, by first | trivial | rfl⟩
        case measure => simp [intOf]; omega
    · obtain rfl : k = t.length := by omega
      rw [List.take_length, ← unhide HCT]
      go_wp2_with fail
      go_ret
      exact ⟨rfl, unhide HB1⟩

set_option maxRecDepth 100000 in
set_option maxHeartbeats 1000000 in
theorem refDepth_any (a : Option Addr) (cap : Nat) (t : List En) (ht : Eok t) (w : World) (h : EL w a t) :
    Calls Try.prog 23 #[.slice a t.length cap] w fun e w' => e = .returned (.int .i64 (depthT t : Nat)) ∧ Below w.heap.size w w' := by
  have KP := hide fun x (hx : x.size ≤ 1000) W => Pth.refParts_any x hx W
  have HT := hide ht
  have HS := hide h
  have hl := ht.len
  clear h ht
  go_enter Try.func23, Try.ntmps23
  go_wp2_with fail
  go_loopw [3, 4] (fun v i wr => ∃ k : Nat, k ≤ t.length ∧ i = .int .i64 k ∧ v = .int .i64 (depthT (t.take k) : Nat) ∧ Below w.heap.size w wr) (fun _ i _ => t.length - (intOf i).toNat)
  case atStart => exact ⟨0, Nat.zero_le _, rfl, rfl, Below.refl _ _⟩
  case round =>
    obtain ⟨k, hk, rfl, rfl, hb⟩ := hrel
    have HB := hide hb
    by_cases hlt : k < t.length
    · obtain ⟨x, hx⟩ : ∃ d, t[k]? = some d := ⟨_, List.getElem?_eq_getElem hlt⟩
      obtain ⟨g0, o0, e0, hg0, hcell0⟩ := unhide HS (by omega)
      subst e0
      obtain ⟨q, c, y0, y1, h5, h6⟩ := hcell0 k x hx
      have x0 := (hb.cell (p := ⟨g0, o0 + k * 2, none⟩) hg0).trans y0
      have HSN := hide (depth_snoc t k x hx)
      have HPX := hide ((unhide HT).path x (List.mem_of_getElem? hx))
      have KPx := hide (unhide KP x.1 (unhide HPX))
      have HPE : Hid (partsE x.1 = Pth.Pt.parts x.1.data.toList) := hide rfl
      generalize depthT (t.take k) = N at HSN
      clear hcell0 hx y0 y1 h5 h6 hg0 hb
      go_wp2_with fail
      refine (unhide KPx _).mono ?_
      rintro e w3 ⟨a3, c3, bs, rfl, hbs, hc3, _, hb⟩
      have HB3 := hide (below_grow (unhide HB) (Nat.le_refl _) hb)
      have HBS : Hid (bs.length = (partsE x.1).length) := hide (by rw [unhide HPE, ← hbs, Pth.size_lists])
      have HMX : Hid ((if N < bs.length then ((bs.length : Nat) : Int) else ((N : Nat) : Int)) = ((max N bs.length : Nat) : Int)) := hide (by split <;> omega)
      clear hb hbs KPx
      go_wp2_with fail
      go_roundw
      case rel => exact ⟨k + 1, by omega, by go_num, (by rw [unhide HSN, ← unhide HBS]; first | exact congrArg (Value.int IntKind.i64) (unhide HMX) | (congr 1; omega)), unhide HB3⟩
      case measure => simp [intOf]; omega
    · obtain rfl : k = t.length := by omega
      rw [List.take_length]
      clear hb
      go_wp2_with fail
      go_ret
      exact ⟨rfl, unhide HB⟩
end Go.Proofs.Ytpfighkafmammaa
