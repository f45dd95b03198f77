/-
  Plain facts on the bytes of a number (seven bits a byte, the lowest first) and on the number that a row of bytes begins with: no Go, no world.
-/
import Derived.Test.YtpfighkafmammaaRows
import Derived.WalkKit
import Derived.WalkSpells
import Derived.WalkLawsBesides
import Derived.BigQuiet
import Derived.Outline
import Derived.RangeFuncNested
import Derived.RangeFuncBound
import Derived.RangeFuncCalls
import Derived.RangeFuncLeaves
import Derived.RangeFuncBox
import Derived.Shelf.Abstract
import Derived.Shelf.RegionOpen
import Derived.OwnWalkIn
import Derived.TacticsInMore
import Derived.LoopNIn
import Derived.LoopIn
import Derived.Maps.AppendAt
import Derived.Deep.RegionWith
import Derived.Deep.QuietTactic
import Derived.Deep.MidRow
import Derived.Deep.WholeRow
import Derived.RegionTactic
import Derived.BigRegion
import Derived.OwnWalk
import Derived.Laws.ResultCell
import Derived.BigRegionIn

namespace Go.Proofs.Ytpfighkafmammaa.Cnt

def encK : Nat → Nat → List UInt8
  | 0, _ => []
  | k + 1, n => if n < 128 then [UInt8.ofNat n] else UInt8.ofNat (n % 128 + 128) :: encK k (n / 128)

def putL (n : Int) : List UInt8 := if 0 ≤ n ∧ n ≤ 1073741824 then encK 5 n.toNat else []

def num : List UInt8 → Nat
  | [] => 0
  | b :: r => b.toNat % 128 + 128 * num r

def fx (l : List UInt8) : Nat := l.findIdx fun b => decide (b.toNat < 128)

def takeF (l : List UInt8) : Int × Int × Int :=
  if fx l < 5 then
    if fx l < l.length then
      if 0 < fx l ∧ (l[fx l]?.getD 0).toNat = 0 then (0, 0, 7)
      else if 1073741824 < num (l.take (fx l + 1)) then (0, 0, 2)
      else ((num (l.take (fx l + 1)) : Nat), (fx l + 1 : Nat), 0)
    else (0, 0, 5)
  else (0, 0, 2)

theorem fx_le (l : List UInt8) : fx l ≤ l.length := List.findIdx_le_length

theorem fx_before (l : List UInt8) (j : Nat) (h : j < fx l) : 128 ≤ (l[j]?.getD 0).toNat := by
  have hl : j < l.length := Nat.lt_of_lt_of_le h (fx_le l)
  have := List.not_of_lt_findIdx (p := fun b : UInt8 => decide (b.toNat < 128)) (xs := l) h
  rw [List.getElem?_eq_getElem hl]
  simp at this ⊢
  omega

theorem fx_at (l : List UInt8) (h : fx l < l.length) : (l[fx l]?.getD 0).toNat < 128 := by
  have := List.findIdx_getElem (p := fun b : UInt8 => decide (b.toNat < 128)) (xs := l) (w := h)
  rw [List.getElem?_eq_getElem h, Option.getD_some]
  exact of_decide_eq_true this

/-- What fixes fx. -/
theorem fx_eq (l : List UInt8) (k : Nat) (hk : k < l.length) (h1 : ∀ j, j < k → 128 ≤ (l[j]?.getD 0).toNat) (h2 : (l[k]?.getD 0).toNat < 128) : fx l = k := by
  rcases Nat.lt_trichotomy (fx l) k with h | h | h
  · have := h1 _ h; have := fx_at l (by omega); omega
  · exact h
  · have := fx_before l k h; omega

theorem num_lt (l : List UInt8) : num l < 128 ^ l.length := by
  induction l with
  | nil => simp [num]
  | cons b r ih => simp only [num, List.length_cons, Nat.pow_succ]; omega

theorem num_append (l : List UInt8) (b : UInt8) : num (l ++ [b]) = num l + b.toNat % 128 * 128 ^ l.length := by
  induction l with
  | nil => simp [num]
  | cons c r ih =>
    simp only [List.cons_append, num, ih, List.length_cons, Nat.pow_succ, Nat.mul_add]
    rw [← Nat.add_assoc, Nat.mul_left_comm, Nat.mul_comm (128 ^ r.length) 128]

theorem num_take (l : List UInt8) (i : Nat) (h : i < l.length) : num (l.take (i + 1)) = num (l.take i) + (l[i]?.getD 0).toNat % 128 * 128 ^ i := by
  rw [List.take_succ_eq_append_getElem h, num_append, List.getElem?_eq_getElem h]
  simp [Nat.min_eq_left (Nat.le_of_lt h)]

theorem num_drop (l : List UInt8) (i : Nat) (h : i < l.length) : num (l.drop i) = (l[i]?.getD 0).toNat % 128 + 128 * num (l.drop (i + 1)) := by
  rw [List.drop_eq_getElem_cons h, num, List.getElem?_eq_getElem h]
  simp

theorem pow_le5 (i : Nat) (h : i ≤ 5) : 128 ^ i ≤ 34359738368 := by
  have : 128 ^ i ≤ 128 ^ 5 := Nat.pow_le_pow_right (by decide) h
  simpa using this

theorem num_le5 (l : List UInt8) (h : l.length ≤ 5) : num l < 34359738368 :=
  Nat.lt_of_lt_of_le (num_lt l) (pow_le5 _ h)

/-! ### the bytes of a number -/
theorem u8_lt {n : Nat} (h : n < 256) : (UInt8.ofNat n).toNat = n := by simp; omega

theorem encK_ne (k n : Nat) : encK (k + 1) n ≠ [] := by unfold encK; split <;> simp

theorem encK_len (k n : Nat) : (encK k n).length ≤ k := by
  induction k generalizing n with
  | zero => simp [encK]
  | succ k ih => unfold encK; split; · simp
                 · have := ih (n / 128); simp; omega

theorem encK_num (k n : Nat) (h : n < 128 ^ k) : num (encK k n) = n := by
  induction k generalizing n with
  | zero => simp at h; subst h; rfl
  | succ k ih =>
    unfold encK
    split
    · rename_i hn; simp only [num]; rw [u8_lt (by omega)]; omega
    · rename_i hn
      have hd : n / 128 < 128 ^ k := by rw [Nat.div_lt_iff_lt_mul (by decide)]; rw [Nat.pow_succ] at h; exact h
      simp only [num]; rw [u8_lt (by omega), ih _ hd]; omega

/-- All but the last are 128 at least, the last is less; and it is not nought if it is not the first. -/
theorem encK_fx (k n : Nat) (h : n < 128 ^ k) (hk : 0 < k) (b : List UInt8) : fx (encK k n ++ b) + 1 = (encK k n).length := by
  induction k generalizing n with
  | zero => omega
  | succ k ih =>
    unfold encK
    split
    · rename_i hn
      have : fx ([UInt8.ofNat n] ++ b) = 0 := fx_eq _ 0 (by simp) (by intro j hj; omega) (by simp; omega)
      rw [this]; simp
    · rename_i hn
      have hd : n / 128 < 128 ^ k := by rw [Nat.div_lt_iff_lt_mul (by decide)]; rw [Nat.pow_succ] at h; exact h
      have hk0 : 0 < k := by
        rcases Nat.eq_zero_or_pos k with h0 | h0
        · subst h0; simp at hd; omega
        · exact h0
      have := ih (n / 128) hd hk0
      have e : fx (UInt8.ofNat (n % 128 + 128) :: encK k (n / 128) ++ b) = fx (encK k (n / 128) ++ b) + 1 := by
        unfold fx
        rw [List.cons_append, List.findIdx_cons, u8_lt (by omega), show decide (n % 128 + 128 < 128) = false from by simp]
        rfl
      rw [e, this]; simp

theorem encK_last (k n : Nat) (h : n < 128 ^ k) (hn : 128 ≤ n) : ((encK k n).getLast?.getD 1).toNat ≠ 0 := by
  induction k generalizing n with
  | zero => simp at h; omega
  | succ k ih =>
    unfold encK
    rw [if_neg (by omega)]
    have hd : n / 128 < 128 ^ k := by rw [Nat.div_lt_iff_lt_mul (by decide)]; rw [Nat.pow_succ] at h; exact h
    cases k with
    | zero => simp at hd; omega
    | succ k =>
      rw [List.getLast?_cons_of_ne_nil (encK_ne k _)]
      by_cases hs : n / 128 < 128
      · unfold encK; rw [if_pos hs]; simp; omega
      · exact ih _ hd (by omega)

theorem encK_one (k n : Nat) (h : n < 128) : encK (k + 1) n = [UInt8.ofNat n] := by unfold encK; rw [if_pos h]

/-- What was taken is what is put. -/
theorem encK_back (k : Nat) (l : List UInt8) (hl : l.length ≤ k) (h0 : fx l + 1 = l.length) (hz : 0 < fx l → (l[fx l]?.getD 0).toNat ≠ 0) : encK k (num l) = l := by
  induction k generalizing l with
  | zero => omega
  | succ k ih =>
    cases l with
    | nil => simp at h0
    | cons b r =>
      by_cases hb : b.toNat < 128
      · have e : fx (b :: r) = 0 := fx_eq _ 0 (by simp) (by intro j hj; omega) (by simpa using hb)
        rw [e] at h0
        have : r = [] := by simpa using h0
        subst this
        simp only [num]
        rw [show b.toNat % 128 + 128 * 0 = b.toNat from by omega, encK_one _ _ hb]
        simp
      · have e : fx (b :: r) = fx r + 1 := by unfold fx; rw [List.findIdx_cons]; simp [hb]
        rw [e] at h0 hz
        have hr : fx r + 1 = r.length := by simpa using h0
        have hz' := hz (by omega)
        rw [List.getElem?_cons_succ] at hz'
        have ih' := ih r (by simpa using hl) hr (fun _ => hz')
        have hnr : num r ≠ 0 := by
          intro h
          rw [h] at ih'
          cases k with
          | zero => simp [encK] at ih'; subst ih'; simp at hr
          | succ k =>
            rw [encK_one _ _ (by omega)] at ih'
            subst ih'
            have : fx [UInt8.ofNat 0] = 0 := by decide
            rw [this] at hz'
            simp at hz'
        have hb2 : b.toNat < 256 := b.toNat_lt
        simp only [num]
        unfold encK
        rw [if_neg (by omega), show (b.toNat % 128 + 128 * num r) % 128 + 128 = b.toNat from by omega, show (b.toNat % 128 + 128 * num r) / 128 = num r from by omega, ih']
        simp

theorem encK_mono (k a b : Nat) (h : a ≤ b) : (encK k a).length ≤ (encK k b).length := by
  induction k generalizing a b with
  | zero => simp [encK]
  | succ k ih =>
    unfold encK
    by_cases hb : b < 128
    · rw [if_pos hb, if_pos (by omega)]; simp
    · by_cases ha : a < 128
      · rw [if_pos ha, if_neg hb]; simp
      · rw [if_neg ha, if_neg hb]; have := ih (a / 128) (b / 128) (Nat.div_le_div_right h); simpa using this

theorem encK_pos (k n : Nat) : 1 ≤ (encK (k + 1) n).length := by
  have := encK_ne k n
  cases h : encK (k + 1) n with
  | nil => exact (this h).elim
  | cons => simp

/-! ### put, take -/
theorem putL_no (n : Int) (h : n < 0 ∨ 1073741824 < n) : putL n = [] := by unfold putL; rw [if_neg (by omega)]
theorem putL_yes (n : Int) (h0 : 0 ≤ n) (h1 : n ≤ 1073741824) : putL n = encK 5 n.toNat := by unfold putL; rw [if_pos ⟨h0, h1⟩]
theorem putL_len (n : Int) : (putL n).length ≤ 5 := by unfold putL; split; · exact encK_len _ _
                                                       · simp

theorem putL_small (n : Int) (h0 : 0 ≤ n) (h1 : n < 128) : putL n = [UInt8.ofNat n.toNat] := by
  rw [putL_yes n h0 (by omega), encK_one _ _ (by omega)]

theorem encK_more (k n : Nat) (h : n < 128 ^ k) : encK (k + 1) n = encK k n ∨ (k = 0) := by
  induction k generalizing n with
  | zero => exact .inr rfl
  | succ k ih =>
    refine .inl ?_
    by_cases hn : n < 128
    · rw [encK_one _ _ hn, encK_one _ _ hn]
    · have e1 : encK (k + 1 + 1) n = UInt8.ofNat (n % 128 + 128) :: encK (k + 1) (n / 128) := by conv => lhs; unfold encK
                                                                                                 rw [if_neg hn]
      have e2 : encK (k + 1) n = UInt8.ofNat (n % 128 + 128) :: encK k (n / 128) := by conv => lhs; unfold encK
                                                                                       rw [if_neg hn]
      rw [e1, e2]
      have hd : n / 128 < 128 ^ k := by rw [Nat.div_lt_iff_lt_mul (by decide)]; rw [Nat.pow_succ] at h; exact h
      rcases ih (n / 128) hd with e | e
      · rw [e]
      · subst e; simp at hd; omega

theorem putL_big (n : Int) (h0 : 128 ≤ n) (h1 : n ≤ 1073741824) : putL n = UInt8.ofNat (n.toNat % 128 + 128) :: putL (n / 128) := by
  rw [putL_yes n (by omega) h1, putL_yes (n / 128) (by omega) (by omega), encK, if_neg (by omega)]
  have : (n / 128).toNat = n.toNat / 128 := by omega
  rw [this]
  rcases encK_more 4 (n.toNat / 128) (by omega) with e | e
  · rw [e]
  · omega

theorem takeF_put (n : Int) (h0 : 0 ≤ n) (h1 : n ≤ 1073741824) (b : List UInt8) : takeF (putL n ++ b) = (n, ((putL n).length : Int), 0) := by
  rw [putL_yes n h0 h1]
  have hlt : n.toNat < 128 ^ 5 := by omega
  have hf := encK_fx 5 n.toNat hlt (by decide) b
  have hn := encK_num 5 n.toNat hlt
  have hl := encK_len 5 n.toNat
  unfold takeF
  rw [if_pos (by omega), if_pos (by simp; omega)]
  have ht : (encK 5 n.toNat ++ b).take (fx (encK 5 n.toNat ++ b) + 1) = encK 5 n.toNat := by rw [hf]; simp
  have hlast : ¬ (0 < fx (encK 5 n.toNat ++ b) ∧ ((encK 5 n.toNat ++ b)[fx (encK 5 n.toNat ++ b)]?.getD 0).toNat = 0) := by
    rintro ⟨hp, hz⟩
    have hbig : 128 ≤ n.toNat := by
      rcases Nat.lt_or_ge n.toNat 128 with h | h
      · have h1' : (encK 5 n.toNat).length = 1 := by rw [encK_one 4 _ h]; rfl
        omega
      · exact h
    have := encK_last 5 n.toNat hlt hbig
    rw [List.getElem?_append_left (by omega)] at hz
    rw [List.getLast?_eq_getElem?, show (encK 5 n.toNat).length - 1 = fx (encK 5 n.toNat ++ b) from by omega] at this
    rw [List.getElem?_eq_getElem (by omega)] at hz this
    simp at hz this
    exact this hz
  rw [if_neg hlast, ht, hn, if_neg (by omega)]
  refine Prod.ext ?_ (Prod.ext ?_ rfl)
  · show ((n.toNat : Nat) : Int) = n; omega
  · show ((fx (encK 5 n.toNat ++ b) + 1 : Nat) : Int) = _; rw [hf]

theorem takeF_err (l : List UInt8) (h : (takeF l).2.2 ≠ 0) : (takeF l).1 = 0 ∧ (takeF l).2.1 = 0 := by
  unfold takeF at h ⊢
  split
  · split
    · split
      · exact ⟨rfl, rfl⟩
      · split
        · exact ⟨rfl, rfl⟩
        · rename_i a b c d
          rw [if_pos a, if_pos b, if_neg c, if_neg d] at h
          exact (h rfl).elim
    · exact ⟨rfl, rfl⟩
  · exact ⟨rfl, rfl⟩

/-- What a taken number is put as. -/
theorem takeF_ok (l : List UInt8) (h : (takeF l).2.2 = 0) : 1 ≤ (takeF l).2.1 ∧ (takeF l).2.1 ≤ l.length ∧ putL (takeF l).1 = l.take (takeF l).2.1.toNat := by
  by_cases h5 : fx l < 5
  · by_cases hl : fx l < l.length
    · by_cases hz : 0 < fx l ∧ (l[fx l]?.getD 0).toNat = 0
      · simp only [takeF, if_pos h5, if_pos hl, if_pos hz] at h; simp at h
      · by_cases hm : 1073741824 < num (l.take (fx l + 1))
        · simp only [takeF, if_pos h5, if_pos hl, if_neg hz, if_pos hm] at h; simp at h
        · simp only [takeF, if_pos h5, if_pos hl, if_neg hz, if_neg hm]
          refine ⟨by omega, by omega, ?_⟩
          rw [putL_yes _ (by omega) (by omega)]
          simp only [Int.toNat_natCast]
          have hlen : (l.take (fx l + 1)).length = fx l + 1 := by simp; omega
          have hg : ∀ j, j ≤ fx l → (l.take (fx l + 1))[j]? = l[j]? := by
            intro j hj; rw [List.getElem?_take]; rw [if_pos (by omega)]
          have hfx : fx (l.take (fx l + 1)) = fx l := by
            refine fx_eq _ _ (by omega) (fun j hj => ?_) ?_
            · rw [hg j (by omega)]; exact fx_before l j hj
            · rw [hg _ (Nat.le_refl _)]; exact fx_at l hl
          refine encK_back 5 _ (by omega) (by omega) ?_
          rw [hfx, hg _ (Nat.le_refl _)]
          intro hp hz'
          exact hz ⟨hp, hz'⟩
    · simp [takeF, h5, hl] at h
  · simp [takeF, h5] at h

theorem putL_mono (a b : Int) (ha : 0 ≤ a) (hab : a ≤ b) (hb : b ≤ 1073741824) : (putL a).length ≤ (putL b).length ∧ 1 ≤ (putL a).length := by
  rw [putL_yes a ha (by omega), putL_yes b (by omega) hb]
  exact ⟨encK_mono _ _ _ (by omega), encK_pos _ _⟩

end Go.Proofs.Ytpfighkafmammaa.Cnt

/-
  Plain facts on lists of dots, vectors among them, joined and met: no program, no world. Conditions: none but those that each theorem names.
-/


namespace Go.Proofs.Ytpfighkafmammaa.Vc

/-- A dot: its peer, its count. -/
abbrev D := Int × Int

def dotErr (d : D) : Int := if d.1 < 0 ∨ 63 < d.1 then 11 else if d.2 < 1 ∨ 1048576 < d.2 then 12 else 0
def Ok (d : D) : Prop := 0 ≤ d.1 ∧ d.1 ≤ 63 ∧ 1 ≤ d.2 ∧ d.2 ≤ 1048576

theorem dotErr_zero (d : D) : dotErr d = 0 ↔ Ok d := by
  unfold dotErr Ok
  split
  · constructor <;> intro h <;> omega
  · split
    · constructor <;> intro h <;> omega
    · constructor
      · intro _; omega
      · intro _; rfl

/-- What is wrong with a list, behind a peer. -/
def chk : Int → List D → Int
  | _, [] => 0
  | p, d :: l => if dotErr d ≠ 0 then dotErr d else if d.1 ≤ p then 8 else chk d.1 l
def check (l : List D) : Int := chk (-1) l

/-- A vector, behind a peer. -/
def Up : Int → List D → Prop
  | _, [] => True
  | p, d :: l => Ok d ∧ p < d.1 ∧ Up d.1 l

theorem chk_zero : ∀ (l : List D) (p : Int), chk p l = 0 ↔ Up p l
  | [], p => by simp [chk, Up]
  | d :: l, p => by
    unfold chk Up
    by_cases h : dotErr d = 0
    · rw [if_neg (by simpa using h)]
      have hok := (dotErr_zero d).1 h
      by_cases h2 : d.1 ≤ p
      · rw [if_pos h2]
        constructor
        · intro h; omega
        · intro h; omega
      · rw [if_neg h2, chk_zero l d.1]
        constructor
        · intro h; exact ⟨hok, by omega, h⟩
        · intro h; exact h.2.2
    · rw [if_pos (by simpa using h)]
      constructor
      · intro h'; exact absurd h' h
      · intro h'; exact absurd ((dotErr_zero d).2 h'.1) h

theorem check_zero (l : List D) : check l = 0 ↔ Up (-1) l := chk_zero l (-1)

theorem Up.weak : ∀ {l : List D} {p q : Int}, Up p l → q ≤ p → Up q l
  | [], _, _, _, _ => trivial
  | _ :: _, _, _, h, hq => ⟨h.1, by have := h.2.1; omega, h.2.2⟩

def look : List D → Int → Int
  | [], _ => 0
  | d :: l, p => if d.1 = p then d.2 else look l p
def get (l : List D) (p : Int) : Int := if check l = 0 then look l p else 0

theorem get_vec {l : List D} (h : Up (-1) l) (p : Int) : get l p = look l p := by
  unfold get; rw [if_pos ((check_zero l).2 h)]
theorem get_none {l : List D} (h : ¬ check l = 0) (p : Int) : get l p = 0 := by
  unfold get; rw [if_neg h]

theorem look_low : ∀ {l : List D} {q p : Int}, Up q l → p ≤ q → look l p = 0
  | [], _, _, _, _ => rfl
  | d :: l, q, p, h, hp => by
    unfold look
    rw [if_neg (by have := h.2.1; omega)]
    exact look_low h.2.2 (by have := h.2.1; omega)

theorem look_bd : ∀ {l : List D} {q : Int} (p : Int), Up q l → 0 ≤ look l p ∧ look l p ≤ 1048576
  | [], _, _, _ => by simp [look]
  | d :: l, q, p, h => by
    unfold look
    split
    · have := h.1; unfold Ok at this; omega
    · exact look_bd p h.2.2

theorem look_out : ∀ {l : List D} {q : Int} (p : Int), Up q l → (p < 0 ∨ 63 < p) → look l p = 0
  | [], _, _, _, _ => rfl
  | d :: l, q, p, h, hp => by
    unfold look
    have h1 := h.1
    unfold Ok at h1
    rw [if_neg (by omega)]
    exact look_out p h.2.2 hp

theorem look_mem : ∀ {l : List D} {q : Int} {d : D}, Up q l → d ∈ l → look l d.1 = d.2 ∧ q < d.1
  | [], _, _, _, hd => by cases hd
  | e :: l, q, d, h, hd => by
    rcases List.mem_cons.1 hd with rfl | hd
    · exact ⟨by unfold look; rw [if_pos rfl], h.2.1⟩
    · have ih := look_mem h.2.2 hd
      refine ⟨?_, by have := h.2.1; omega⟩
      unfold look
      rw [if_neg (by omega)]
      exact ih.1

theorem look_pos : ∀ {l : List D} {p : Int}, look l p ≠ 0 → (p, look l p) ∈ l
  | [], _, h => absurd rfl h
  | d :: l, p, h => by
    unfold look at h ⊢
    split at h
    · rename_i e
      rw [if_pos e]
      subst e
      exact List.mem_cons_self ..
    · rename_i e
      rw [if_neg e]
      exact List.mem_cons_of_mem _ (look_pos h)

theorem mem_ok : ∀ {l : List D} {q : Int} {d : D}, Up q l → d ∈ l → Ok d
  | [], _, _, _, hd => by cases hd
  | e :: l, q, d, h, hd => by
    rcases List.mem_cons.1 hd with rfl | hd
    · exact h.1
    · exact mem_ok h.2.2 hd

theorem vec_ext : ∀ {a b : List D} {q r : Int}, Up q a → Up r b → (∀ p, look a p = look b p) → a = b
  | [], [], _, _, _, _, _ => rfl
  | [], e :: b, _, _, _, hb, h => by
    have := h e.1
    have h1 := hb.1
    unfold Ok at h1
    rw [show look (e :: b) e.1 = e.2 by unfold look; rw [if_pos rfl]] at this
    simp [look] at this
    omega
  | d :: a, [], _, _, ha, _, h => by
    have := h d.1
    have h1 := ha.1
    unfold Ok at h1
    rw [show look (d :: a) d.1 = d.2 by unfold look; rw [if_pos rfl]] at this
    simp [look] at this
    omega
  | d :: a, e :: b, q, r, ha, hb, h => by
    have d1 := ha.1
    have e1 := hb.1
    unfold Ok at d1 e1
    have hd := h d.1
    have he := h e.1
    have ld : look (d :: a) d.1 = d.2 := by unfold look; rw [if_pos rfl]
    have le : look (e :: b) e.1 = e.2 := by unfold look; rw [if_pos rfl]
    rw [ld] at hd
    rw [le] at he
    have h1 : d.1 = e.1 := by
      rcases Int.lt_trichotomy d.1 e.1 with hl | hl | hl
      · exfalso
        unfold look at hd
        rw [if_neg (by omega), look_low hb.2.2 (by omega)] at hd
        omega
      · exact hl
      · exfalso
        unfold look at he
        rw [if_neg (by omega), look_low ha.2.2 (by omega)] at he
        omega
    have h2 : d.2 = e.2 := by
      rw [h1, le] at hd
      exact hd
    have hde : d = e := Prod.ext h1 h2
    subst hde
    rw [vec_ext ha.2.2 hb.2.2 fun p => ?_]
    by_cases hp : d.1 = p
    · rw [look_low ha.2.2 (by omega), look_low hb.2.2 (by omega)]
    · have := h p
      unfold look at this
      rwa [if_neg hp, if_neg hp] at this

/-- Both side by side: each peer of either, with its count here and there. -/
def sides : List D → List D → List (D × D)
  | [], [] => []
  | x :: a, [] => (x, (x.1, 0)) :: sides a []
  | [], y :: b => ((y.1, 0), y) :: sides [] b
  | x :: a, y :: b => if x.1 < y.1 then (x, (x.1, 0)) :: sides a (y :: b) else if y.1 < x.1 then ((y.1, 0), y) :: sides (x :: a) b else (x, y) :: sides a b
termination_by a b => a.length + b.length

def first : List D → Int
  | [] => 64
  | d :: _ => d.1

/-- What may stand in it, behind a peer. -/
def SUp : Int → List (D × D) → Prop
  | _, [] => True
  | p, s :: l => p < s.1.1 ∧ 0 ≤ s.1.1 ∧ s.1.1 ≤ 63 ∧ s.2.1 = s.1.1 ∧ 0 ≤ s.1.2 ∧ s.1.2 ≤ 1048576 ∧ 0 ≤ s.2.2 ∧ s.2.2 ≤ 1048576 ∧ (1 ≤ s.1.2 ∨ 1 ≤ s.2.2) ∧ SUp s.1.1 l

theorem sides_up (a b : List D) (q : Int) (ha : Up q a) (hb : Up q b) : SUp q (sides a b) := by
  induction a, b using sides.induct generalizing q with
  | case1 => rw [sides]; trivial
  | case2 x a ih =>
    rw [sides]
    have h1 := ha.1
    unfold Ok at h1
    exact ⟨ha.2.1, by dsimp only; omega, by dsimp only; omega, rfl, by dsimp only; omega, by dsimp only; omega, Int.le_refl _, by simp, .inl (by dsimp only; omega), ih _ ha.2.2 trivial⟩
  | case3 y b ih =>
    rw [sides]
    have h1 := hb.1
    unfold Ok at h1
    exact ⟨hb.2.1, by dsimp only; omega, by dsimp only; omega, rfl, Int.le_refl _, by simp, by dsimp only; omega, by dsimp only; omega, .inr (by dsimp only; omega), ih _ trivial hb.2.2⟩
  | case4 x a y b h ih =>
    rw [sides, if_pos h]
    have h1 := ha.1
    unfold Ok at h1
    exact ⟨ha.2.1, by dsimp only; omega, by dsimp only; omega, rfl, by dsimp only; omega, by dsimp only; omega, Int.le_refl _, by simp, .inl (by dsimp only; omega), ih _ ha.2.2 ⟨hb.1, h, hb.2.2⟩⟩
  | case5 x a y b h h' ih =>
    rw [sides, if_neg h, if_pos h']
    have h1 := hb.1
    unfold Ok at h1
    exact ⟨hb.2.1, by dsimp only; omega, by dsimp only; omega, rfl, Int.le_refl _, by simp, by dsimp only; omega, by dsimp only; omega, .inr (by dsimp only; omega), ih _ ⟨ha.1, h', ha.2.2⟩ hb.2.2⟩
  | case6 x a y b h h' ih =>
    rw [sides, if_neg h, if_neg h']
    have h1 := ha.1
    have h2 := hb.1
    unfold Ok at h1 h2
    have e : y.1 = x.1 := by omega
    refine ⟨ha.2.1, by dsimp only; omega, by dsimp only; omega, e, by dsimp only; omega, by dsimp only; omega, by dsimp only; omega, by dsimp only; omega, .inl (by dsimp only; omega), ih _ ha.2.2 ?_⟩
    have := hb.2.2
    rwa [e] at this

theorem sides_fst (a b : List D) (q : Int) (ha : Up q a) (hb : Up q b) (p : Int) : look ((sides a b).map (·.1)) p = look a p := by
  induction a, b using sides.induct generalizing q with
  | case1 => rw [sides]; rfl
  | case2 x a ih =>
    rw [sides, List.map_cons]
    unfold look
    rw [ih _ ha.2.2 trivial]
  | case3 y b ih =>
    rw [sides, List.map_cons]
    unfold look
    have := ih _ trivial hb.2.2
    rw [this]
    simp [look]
  | case4 x a y b h ih =>
    rw [sides, if_pos h, List.map_cons]
    unfold look
    rw [ih _ ha.2.2 ⟨hb.1, h, hb.2.2⟩]
  | case5 x a y b h h' ih =>
    rw [sides, if_neg h, if_pos h', List.map_cons]
    have := ih _ ⟨ha.1, h', ha.2.2⟩ hb.2.2
    have e : ∀ l, look ((y.1, (0 : Int)) :: l) p = if y.1 = p then 0 else look l p := fun l => rfl
    rw [e, this]
    split
    · exact (look_low (q := y.1) (l := x :: a) ⟨ha.1, h', ha.2.2⟩ (by omega)).symm
    · rfl
  | case6 x a y b h h' ih =>
    rw [sides, if_neg h, if_neg h', List.map_cons]
    have e : y.1 = x.1 := by omega
    unfold look
    rw [ih _ ha.2.2 (by have := hb.2.2; rwa [e] at this)]

theorem sides_snd (a b : List D) (q : Int) (ha : Up q a) (hb : Up q b) (p : Int) : look ((sides a b).map (·.2)) p = look b p := by
  induction a, b using sides.induct generalizing q with
  | case1 => rw [sides]; rfl
  | case2 x a ih =>
    rw [sides, List.map_cons]
    have := ih _ ha.2.2 trivial
    have e : ∀ l, look ((x.1, (0 : Int)) :: l) p = if x.1 = p then 0 else look l p := fun l => rfl
    rw [e, this]
    simp [look]
  | case3 y b ih =>
    rw [sides, List.map_cons]
    unfold look
    rw [ih _ trivial hb.2.2]
  | case4 x a y b h ih =>
    rw [sides, if_pos h, List.map_cons]
    have := ih _ ha.2.2 ⟨hb.1, h, hb.2.2⟩
    have e : ∀ l, look ((x.1, (0 : Int)) :: l) p = if x.1 = p then 0 else look l p := fun l => rfl
    rw [e, this]
    split
    · exact (look_low (q := x.1) (l := y :: b) ⟨hb.1, h, hb.2.2⟩ (by omega)).symm
    · rfl
  | case5 x a y b h h' ih =>
    rw [sides, if_neg h, if_pos h', List.map_cons]
    unfold look
    rw [ih _ ⟨ha.1, h', ha.2.2⟩ hb.2.2]
  | case6 x a y b h h' ih =>
    rw [sides, if_neg h, if_neg h', List.map_cons]
    have e : y.1 = x.1 := by omega
    unfold look
    rw [ih _ ha.2.2 (by have := hb.2.2; rwa [e] at this)]

theorem sides_len (a b : List D) : (sides a b).length ≤ a.length + b.length := by
  induction a, b using sides.induct with
  | case1 => rw [sides]; simp
  | case2 x a ih => rw [sides]; simp at ih ⊢; omega
  | case3 y b ih => rw [sides]; simp at ih ⊢; omega
  | case4 x a y b h ih => rw [sides, if_pos h]; simp at ih ⊢; omega
  | case5 x a y b h h' ih => rw [sides, if_neg h, if_pos h']; simp at ih ⊢; omega
  | case6 x a y b h h' ih => rw [sides, if_neg h, if_neg h']; simp at ih ⊢; omega

def jn (s : D × D) : D := (s.1.1, max s.1.2 s.2.2)
def mt (s : D × D) : List D := if 0 < min s.1.2 s.2.2 then [(s.1.1, min s.1.2 s.2.2)] else []
def join (a b : List D) : List D := (sides a b).map jn
def meet (a b : List D) : List D := (sides a b).flatMap mt

theorem jn_up : ∀ (l : List (D × D)) (q : Int), SUp q l → Up q (l.map jn)
  | [], _, _ => trivial
  | s :: l, q, h => by
    obtain ⟨h1, h2, h3, h4, h5, h6, h7, h8, h9, h10⟩ := h
    refine ⟨?_, h1, jn_up l _ h10⟩
    show 0 ≤ s.1.1 ∧ s.1.1 ≤ 63 ∧ 1 ≤ max s.1.2 s.2.2 ∧ max s.1.2 s.2.2 ≤ 1048576
    omega
theorem jn_look : ∀ (l : List (D × D)) (q : Int) (p : Int), SUp q l → look (l.map jn) p = max (look (l.map (·.1)) p) (look (l.map (·.2)) p)
  | [], _, _, _ => by simp [look]
  | s :: l, q, p, h => by
    obtain ⟨h1, h2, h3, h4, h5, h6, h7, h8, h9, h10⟩ := h
    have ih := jn_look l _ p h10
    simp only [List.map_cons]
    have e1 : ∀ m, look (jn s :: m) p = if s.1.1 = p then max s.1.2 s.2.2 else look m p := fun m => rfl
    have e2 : ∀ m, look (s.1 :: m) p = if s.1.1 = p then s.1.2 else look m p := fun m => rfl
    have e3 : ∀ m, look (s.2 :: m) p = if s.2.1 = p then s.2.2 else look m p := fun m => rfl
    rw [e1, e2, e3, h4]
    split
    · rfl
    · exact ih

theorem fst_low : ∀ (l : List (D × D)) (q p : Int), SUp q l → p ≤ q → look (l.map (·.1)) p = 0
  | [], _, _, _, _ => rfl
  | s :: l, q, p, h, hp => by
    obtain ⟨h1, h2, h3, h4, h5, h6, h7, h8, h9, h10⟩ := h
    have e2 : ∀ m, look (s.1 :: m) p = if s.1.1 = p then s.1.2 else look m p := fun m => rfl
    rw [List.map_cons, e2, if_neg (by omega)]
    exact fst_low l _ p h10 (by omega)
theorem snd_low : ∀ (l : List (D × D)) (q p : Int), SUp q l → p ≤ q → look (l.map (·.2)) p = 0
  | [], _, _, _, _ => rfl
  | s :: l, q, p, h, hp => by
    obtain ⟨h1, h2, h3, h4, h5, h6, h7, h8, h9, h10⟩ := h
    have e2 : ∀ m, look (s.2 :: m) p = if s.2.1 = p then s.2.2 else look m p := fun m => rfl
    rw [List.map_cons, e2, if_neg (by omega)]
    exact snd_low l _ p h10 (by omega)

theorem mt_up : ∀ (l : List (D × D)) (q : Int), SUp q l → Up q (l.flatMap mt)
  | [], _, _ => trivial
  | s :: l, q, h => by
    obtain ⟨h1, h2, h3, h4, h5, h6, h7, h8, h9, h10⟩ := h
    rw [List.flatMap_cons]
    unfold mt
    split
    · refine ⟨?_, h1, mt_up l _ h10⟩
      show 0 ≤ s.1.1 ∧ s.1.1 ≤ 63 ∧ 1 ≤ min s.1.2 s.2.2 ∧ min s.1.2 s.2.2 ≤ 1048576
      omega
    · exact (mt_up l _ h10).weak (by omega)
theorem mt_look : ∀ (l : List (D × D)) (q : Int) (p : Int), SUp q l → look (l.flatMap mt) p = min (look (l.map (·.1)) p) (look (l.map (·.2)) p)
  | [], _, _, _ => by simp [look]
  | s :: l, q, p, h => by
    obtain ⟨h1, h2, h3, h4, h5, h6, h7, h8, h9, h10⟩ := h
    have ih := mt_look l _ p h10
    rw [List.flatMap_cons]
    simp only [List.map_cons]
    have e1 : ∀ (n : Int) m, look ((s.1.1, n) :: m) p = if s.1.1 = p then n else look m p := fun n m => rfl
    have e2 : ∀ m, look (s.1 :: m) p = if s.1.1 = p then s.1.2 else look m p := fun m => rfl
    have e3 : ∀ m, look (s.2 :: m) p = if s.2.1 = p then s.2.2 else look m p := fun m => rfl
    rw [e2, e3, h4]
    by_cases hp : s.1.1 = p
    · rw [if_pos hp, if_pos hp]
      unfold mt
      split
      · rw [List.singleton_append, e1, if_pos hp]
      · rw [List.nil_append]
        show look (l.flatMap mt) p = _
        rw [look_low (mt_up l _ h10) (by omega)]
        omega
    · rw [if_neg hp, if_neg hp, ← ih]
      unfold mt
      split
      · rw [List.singleton_append, e1, if_neg hp]
      · rw [List.nil_append]

theorem join_up {a b : List D} (ha : Up (-1) a) (hb : Up (-1) b) : Up (-1) (join a b) := jn_up _ _ (sides_up a b _ ha hb)
theorem join_look {a b : List D} (ha : Up (-1) a) (hb : Up (-1) b) (p : Int) : look (join a b) p = max (look a p) (look b p) := by
  unfold join
  rw [jn_look _ _ p (sides_up a b _ ha hb), sides_fst a b _ ha hb, sides_snd a b _ ha hb]
theorem meet_up {a b : List D} (ha : Up (-1) a) (hb : Up (-1) b) : Up (-1) (meet a b) := mt_up _ _ (sides_up a b _ ha hb)
theorem meet_look {a b : List D} (ha : Up (-1) a) (hb : Up (-1) b) (p : Int) : look (meet a b) p = min (look a p) (look b p) := by
  unfold meet
  rw [mt_look _ _ p (sides_up a b _ ha hb), sides_fst a b _ ha hb, sides_snd a b _ ha hb]

/-- Whether one is within the other, both vectors. -/
def le (s : D × D) : Bool := decide (s.1.2 ≤ s.2.2)
theorem le_look : ∀ (l : List (D × D)) (q : Int), SUp q l → (l.all le = true ↔ ∀ p, look (l.map (·.1)) p ≤ look (l.map (·.2)) p)
  | [], _, _ => by simp [look]
  | s :: l, q, h => by
    obtain ⟨h1, h2, h3, h4, h5, h6, h7, h8, h9, h10⟩ := h
    have ih := le_look l _ h10
    have e2 : ∀ m p, look (s.1 :: m) p = if s.1.1 = p then s.1.2 else look m p := fun m p => rfl
    have e3 : ∀ m p, look (s.2 :: m) p = if s.2.1 = p then s.2.2 else look m p := fun m p => rfl
    simp only [List.map_cons, List.all_cons, Bool.and_eq_true, e2, e3, h4, ih]
    unfold le
    rw [decide_eq_true_eq]
    constructor
    · rintro ⟨a, b⟩ p
      split
      · exact a
      · exact b p
    · intro h
      refine ⟨by simpa using h s.1.1, fun p => ?_⟩
      have := h p
      by_cases hp : s.1.1 = p
      · rw [fst_low l _ p h10 (by omega), snd_low l _ p h10 (by omega)]
        exact Int.le_refl _
      · rwa [if_neg hp, if_neg hp] at this

/-- Whether both are vectors, and the one has all that the other one has. -/
def within (a b : List D) : Bool := check a == 0 && check b == 0 && (sides a b).all le
theorem within_iff (a b : List D) : within a b = true ↔ Up (-1) a ∧ Up (-1) b ∧ ∀ p, look a p ≤ look b p := by
  unfold within
  rw [Bool.and_eq_true, Bool.and_eq_true, beq_iff_eq, beq_iff_eq, check_zero, check_zero]
  constructor
  · rintro ⟨⟨ha, hb⟩, h⟩
    refine ⟨ha, hb, fun p => ?_⟩
    have := (le_look _ _ (sides_up a b _ ha hb)).1 h p
    rwa [sides_fst a b _ ha hb, sides_snd a b _ ha hb] at this
  · rintro ⟨ha, hb, h⟩
    refine ⟨⟨ha, hb⟩, (le_look _ _ (sides_up a b _ ha hb)).2 fun p => ?_⟩
    rw [sides_fst a b _ ha hb, sides_snd a b _ ha hb]
    exact h p
theorem within_mem {a b : List D} (ha : Up (-1) a) (hb : Up (-1) b) : within a b = true ↔ ∀ d ∈ a, d.2 ≤ look b d.1 := by
  rw [within_iff]
  constructor
  · rintro ⟨_, _, h⟩ d hd
    have := h d.1
    rwa [(look_mem ha hd).1] at this
  · intro h
    refine ⟨ha, hb, fun p => ?_⟩
    by_cases h0 : look a p = 0
    · rw [h0]; exact (look_bd p hb).1
    · exact h _ (look_pos h0)

def compare (a b : List D) : Int := if within a b = true then (if within b a = true then 0 else 1) else if within b a = true then 2 else 3

/-- The vector of the counts of the first peers. -/
def ofN (f : Nat → Int) : Nat → List D
  | 0 => []
  | k + 1 => ofN f k ++ (if 0 < f k then [((k : Int), f k)] else [])

theorem Up.snoc : ∀ {l : List D} {q : Int} {d : D}, Up q l → Ok d → q < d.1 → (∀ e ∈ l, e.1 < d.1) → Up q (l ++ [d])
  | [], _, _, _, hd, hq, _ => ⟨hd, hq, trivial⟩
  | e :: _, _, _, h, hd, _, hl => ⟨h.1, h.2.1, Up.snoc h.2.2 hd (hl e (List.mem_cons_self ..)) fun x hx => hl x (List.mem_cons_of_mem _ hx)⟩
theorem look_append : ∀ (l m : List D) (p : Int), (∀ e ∈ l, e.1 ≠ p) → look (l ++ m) p = look m p
  | [], _, _, _ => rfl
  | d :: l, m, p, h => by
    rw [List.cons_append]
    unfold look
    rw [if_neg (h d (List.mem_cons_self ..)), look_append l m p fun e he => h e (List.mem_cons_of_mem _ he)]
    cases m <;> rfl
theorem look_front : ∀ (l m : List D) (p : Int), (∀ e ∈ m, e.1 ≠ p) → look (l ++ m) p = look l p
  | [], m, p, h => by
    induction m with
    | nil => rfl
    | cons d m ih =>
      show look (d :: m) p = 0
      unfold look
      rw [if_neg (h d (List.mem_cons_self ..))]
      exact ih fun e he => h e (List.mem_cons_of_mem _ he)
  | d :: l, m, p, h => by
    rw [List.cons_append]
    unfold look
    rw [look_front l m p h]

theorem ofN_peer (f : Nat → Int) : ∀ (k : Nat), ∀ d ∈ ofN f k, d.1 < (k : Int)
  | 0, _, h => by cases h
  | k + 1, d, h => by
    unfold ofN at h
    rcases List.mem_append.1 h with h | h
    · have := ofN_peer f k d h; omega
    · split at h
      · rw [List.mem_singleton.1 h]; show (k : Int) < ((k + 1 : Nat) : Int); omega
      · cases h
theorem ofN_up (f : Nat → Int) (hf : ∀ i, f i ≤ 1048576) : ∀ k, k ≤ 64 → Up (-1) (ofN f k)
  | 0, _ => trivial
  | k + 1, hk => by
    unfold ofN
    split
    · refine Up.snoc (ofN_up f hf k (by omega)) ?_ ?_ (ofN_peer f k)
      · show 0 ≤ (k : Int) ∧ (k : Int) ≤ 63 ∧ 1 ≤ f k ∧ f k ≤ 1048576
        have := hf k
        omega
      · show -1 < (k : Int); omega
    · rw [List.append_nil]; exact ofN_up f hf k (by omega)
theorem ofN_look (f : Nat → Int) (h0 : ∀ i, 0 ≤ f i) : ∀ (k : Nat) (p : Nat), look (ofN f k) (p : Int) = if p < k then f p else 0
  | 0, p => by simp [ofN, look]
  | k + 1, p => by
    unfold ofN
    have ih := ofN_look f h0 k p
    split
    · by_cases hp : p = k
      · subst hp
        rw [look_append _ _ _ fun e he => by have := ofN_peer f p e he; omega, if_pos (by omega)]
        simp [look]
      · rw [look_front _ _ _ (by intro e he; rw [List.mem_singleton.1 he]; show ((k : Int)) ≠ (p : Int); omega), ih]
        by_cases h : p < k
        · rw [if_pos h, if_pos (by omega)]
        · rw [if_neg h, if_neg (by omega)]
    · rename_i hz
      rw [List.append_nil, ih]
      by_cases hp : p = k
      · subst hp
        rw [if_neg (by omega), if_pos (by omega)]
        have := h0 p
        omega
      · by_cases h : p < k
        · rw [if_pos h, if_pos (by omega)]
        · rw [if_neg h, if_neg (by omega)]
theorem ofN_len (f : Nat → Int) : ∀ k, (ofN f k).length ≤ k
  | 0 => Nat.le_refl _
  | k + 1 => by
    unfold ofN
    have := ofN_len f k
    rw [List.length_append]
    split <;> simp <;> omega

theorem ofN_is (f : Nat → Int) (h0 : ∀ i, 0 ≤ f i) (hf : ∀ i, f i ≤ 1048576) (l : List D) (hl : Up (-1) l) (n : Nat) (hn : n = 64) (h : ∀ p : Nat, p < 64 → look l (p : Int) = f p) : ofN f n = l := by
  have hu := ofN_up f hf n (by omega)
  refine vec_ext hu hl fun p => ?_
  by_cases hp : p < 0 ∨ 63 < p
  · rw [look_out p hu hp, look_out p hl hp]
  · obtain ⟨k, rfl⟩ : ∃ k : Nat, p = (k : Int) := ⟨p.toNat, by omega⟩
    rw [ofN_look f h0, if_pos (by omega), h k (by omega)]

/-- All counts, by the list and by the peers. -/
def total : List D → Int
  | [] => 0
  | d :: l => d.2 + total l
def sumTo (f : Nat → Int) : Nat → Int
  | 0 => 0
  | k + 1 => sumTo f k + f k
theorem sumTo_add (f g h : Nat → Int) (e : ∀ i, h i = f i + g i) : ∀ k, sumTo h k = sumTo f k + sumTo g k
  | 0 => rfl
  | k + 1 => by unfold sumTo; rw [sumTo_add f g h e k, e k]; omega
theorem sumTo_congr (f g : Nat → Int) (e : ∀ i, f i = g i) : ∀ k, sumTo f k = sumTo g k
  | 0 => rfl
  | k + 1 => by unfold sumTo; rw [sumTo_congr f g e k, e k]
theorem sumTo_zero : ∀ k, sumTo (fun _ => 0) k = 0
  | 0 => rfl
  | k + 1 => by unfold sumTo; rw [sumTo_zero k]; rfl
theorem sumTo_one (p : Nat) (c : Int) : ∀ k, sumTo (fun i => if p = i then c else 0) k = if p < k then c else 0
  | 0 => by simp [sumTo]
  | k + 1 => by
    unfold sumTo
    rw [sumTo_one p c k]
    by_cases h : p < k
    · rw [if_pos h, if_neg (by omega), if_pos (by omega)]; omega
    · rw [if_neg h]
      by_cases h2 : p = k
      · rw [if_pos h2, if_pos (by omega)]; omega
      · rw [if_neg h2, if_neg (by omega)]; omega
theorem total_sum : ∀ {l : List D} {q : Int}, Up q l → sumTo (fun i => look l (i : Int)) 64 = total l
  | [], _, _ => by
    rw [sumTo_congr (fun i => look [] (i : Int)) (fun _ => 0) (fun _ => rfl) 64, sumTo_zero]
    rfl
  | d :: l, q, h => by
    have h1 := h.1
    unfold Ok at h1
    obtain ⟨k, hk⟩ : ∃ k : Nat, d.1 = (k : Int) := ⟨d.1.toNat, by omega⟩
    rw [sumTo_add (fun i => if k = i then d.2 else 0) (fun i => look l (i : Int)) _ ?_ 64, sumTo_one, if_pos (by omega), total_sum h.2.2]
    · rfl
    · intro i
      show (if d.1 = (i : Int) then d.2 else look l (i : Int)) = _
      by_cases hi : k = i
      · subst hi
        rw [if_pos hk, if_pos rfl, look_low h.2.2 (by omega)]
        omega
      · rw [if_neg (by omega), if_neg hi]
        omega
theorem total_bd : ∀ {l : List D} {q : Int}, Up q l → 0 ≤ total l ∧ total l ≤ 1048576 * (l.length : Int)
  | [], _, _ => by simp [total]
  | d :: l, q, h => by
    have h1 := h.1
    unfold Ok at h1
    have := total_bd h.2.2
    unfold total
    rw [List.length_cons]
    omega
theorem sumTo_bd (f : Nat → Int) (h0 : ∀ i, 0 ≤ f i) (hf : ∀ i, f i ≤ 1048576) : ∀ k, 0 ≤ sumTo f k ∧ sumTo f k ≤ 1048576 * (k : Int)
  | 0 => by simp [sumTo]
  | k + 1 => by
    have := sumTo_bd f h0 hf k
    have a := h0 k
    have b := hf k
    unfold sumTo
    omega
def size (l : List D) : Int := if check l = 0 then total l else 0

theorem up_len : ∀ {l : List D} {q : Int}, Up q l → -1 ≤ q → (l.length : Int) ≤ 63 - q ∨ l = []
  | [], _, _, _ => .inr rfl
  | d :: l, q, h, hq => by
    have h1 := h.1
    unfold Ok at h1
    have h2 := h.2.1
    left
    rcases up_len h.2.2 (by omega) with h | h
    · rw [List.length_cons]; omega
    · subst h; rw [List.length_cons]; simp; omega
theorem vec_len {l : List D} (h : Up (-1) l) : l.length ≤ 64 := by
  rcases up_len h (by omega) with h | h
  · omega
  · subst h; simp

theorem total_join_meet {a b : List D} (ha : Up (-1) a) (hb : Up (-1) b) : total (join a b) + total (meet a b) = total a + total b := by
  rw [← total_sum (join_up ha hb), ← total_sum (meet_up ha hb), ← total_sum ha, ← total_sum hb, ← sumTo_add _ _ _ (fun _ => rfl), ← sumTo_add _ _ _ (fun _ => rfl)]
  refine sumTo_congr _ _ (fun i => ?_) 64
  show look (join a b) (i : Int) + look (meet a b) (i : Int) = look a (i : Int) + look b (i : Int)
  rw [join_look ha hb, meet_look ha hb]
  omega
theorem join_self {a : List D} (ha : Up (-1) a) : join a a = a := vec_ext (join_up ha ha) ha fun p => by rw [join_look ha ha]; omega
theorem join_comm {a b : List D} (ha : Up (-1) a) (hb : Up (-1) b) : join a b = join b a := vec_ext (join_up ha hb) (join_up hb ha) fun p => by rw [join_look ha hb, join_look hb ha]; omega
theorem join_assoc {a b c : List D} (ha : Up (-1) a) (hb : Up (-1) b) (hc : Up (-1) c) : join (join a b) c = join a (join b c) :=
  vec_ext (join_up (join_up ha hb) hc) (join_up ha (join_up hb hc)) fun p => by rw [join_look (join_up ha hb) hc, join_look ha hb, join_look ha (join_up hb hc), join_look hb hc]; omega
theorem meet_join {a b : List D} (ha : Up (-1) a) (hb : Up (-1) b) : meet (join a b) a = a :=
  vec_ext (meet_up (join_up ha hb) ha) ha fun p => by rw [meet_look (join_up ha hb) ha, join_look ha hb]; omega

theorem within_left {a b : List D} (ha : Up (-1) a) (hb : Up (-1) b) : within a (join a b) = true := (within_iff _ _).2 ⟨ha, join_up ha hb, fun p => by rw [join_look ha hb]; omega⟩
theorem within_right {a b : List D} (ha : Up (-1) a) (hb : Up (-1) b) : within b (join a b) = true := (within_iff _ _).2 ⟨hb, join_up ha hb, fun p => by rw [join_look ha hb]; omega⟩
theorem meet_left {a b : List D} (ha : Up (-1) a) (hb : Up (-1) b) : within (meet a b) a = true := (within_iff _ _).2 ⟨meet_up ha hb, ha, fun p => by rw [meet_look ha hb]; omega⟩
theorem meet_right {a b : List D} (ha : Up (-1) a) (hb : Up (-1) b) : within (meet a b) b = true := (within_iff _ _).2 ⟨meet_up ha hb, hb, fun p => by rw [meet_look ha hb]; omega⟩
theorem join_least {a b c : List D} (ha : Up (-1) a) (hb : Up (-1) b) (hc : Up (-1) c) : within (join a b) c = (within a c && within b c) := by
  rw [Bool.eq_iff_iff, Bool.and_eq_true, within_iff, within_iff, within_iff]
  constructor
  · rintro ⟨_, _, h⟩
    exact ⟨⟨ha, hc, fun p => by have := h p; rw [join_look ha hb] at this; omega⟩, ⟨hb, hc, fun p => by have := h p; rw [join_look ha hb] at this; omega⟩⟩
  · rintro ⟨⟨_, _, h1⟩, ⟨_, _, h2⟩⟩
    exact ⟨join_up ha hb, hc, fun p => by have := h1 p; have := h2 p; rw [join_look ha hb]; omega⟩
theorem meet_most {a b c : List D} (ha : Up (-1) a) (hb : Up (-1) b) (hc : Up (-1) c) : within c (meet a b) = (within c a && within c b) := by
  rw [Bool.eq_iff_iff, Bool.and_eq_true, within_iff, within_iff, within_iff]
  constructor
  · rintro ⟨_, _, h⟩
    exact ⟨⟨hc, ha, fun p => by have := h p; rw [meet_look ha hb] at this; omega⟩, ⟨hc, hb, fun p => by have := h p; rw [meet_look ha hb] at this; omega⟩⟩
  · rintro ⟨⟨_, _, h1⟩, ⟨_, _, h2⟩⟩
    exact ⟨hc, meet_up ha hb, fun p => by have := h1 p; have := h2 p; rw [meet_look ha hb]; omega⟩

/-- What Join and Meet answer, of whatever lists. -/
def joins (a b : List D) : List D := if check a = 0 ∧ check b = 0 then join a b else []
def meets (a b : List D) : List D := if check a = 0 ∧ check b = 0 then meet a b else []
theorem joins_ok (a b : List D) : check (joins a b) = 0 := by
  unfold joins
  split
  · rename_i h
    exact (check_zero _).2 (join_up ((check_zero a).1 h.1) ((check_zero b).1 h.2))
  · rfl
theorem meets_ok (a b : List D) : check (meets a b) = 0 := by
  unfold meets
  split
  · rename_i h
    exact (check_zero _).2 (meet_up ((check_zero a).1 h.1) ((check_zero b).1 h.2))
  · rfl
theorem joins_len (a b : List D) : (joins a b).length ≤ 64 := vec_len ((check_zero _).1 (joins_ok a b))
theorem meets_len (a b : List D) : (meets a b).length ≤ 64 := vec_len ((check_zero _).1 (meets_ok a b))

theorem get_bd (l : List D) (p : Int) : 0 ≤ get l p ∧ get l p ≤ 1048576 := by
  unfold get
  split
  · rename_i h
    exact look_bd p ((check_zero l).1 h)
  · omega

theorem ref_join (a b : List D) (h : check a = 0 ∧ check b = 0) : ofN (fun p => max (get a (p : Int)) (get b (p : Int))) 64 = joins a b := by
  have ha := (check_zero a).1 h.1
  have hb := (check_zero b).1 h.2
  refine ofN_is _ (fun i => ?_) (fun i => ?_) _ ((check_zero _).1 (joins_ok a b)) 64 rfl fun p hp => ?_
  · have := get_bd a (i : Int); omega
  · have := get_bd a (i : Int); have := get_bd b (i : Int); omega
  · unfold joins
    rw [if_pos h, join_look ha hb, get_vec ha, get_vec hb]
theorem ref_meet (a b : List D) : ofN (fun p => min (get a (p : Int)) (get b (p : Int))) 64 = meets a b := by
  refine ofN_is _ (fun i => ?_) (fun i => ?_) _ ((check_zero _).1 (meets_ok a b)) 64 rfl fun p hp => ?_
  · have := get_bd a (i : Int); have := get_bd b (i : Int); omega
  · have := get_bd a (i : Int); omega
  · unfold meets
    split
    · rename_i h
      have ha := (check_zero a).1 h.1
      have hb := (check_zero b).1 h.2
      rw [meet_look ha hb, get_vec ha, get_vec hb]
    · rename_i h
      show (0 : Int) = min (get a (p : Int)) (get b (p : Int))
      have h1 := get_bd a (p : Int)
      have h2 := get_bd b (p : Int)
      by_cases h3 : check a = 0
      · have h4 : ¬ check b = 0 := fun h4 => h ⟨h3, h4⟩
        rw [get_none h4] at h2 ⊢
        omega
      · rw [get_none h3] at h1 ⊢
        omega
theorem ref_size (l : List D) : sumTo (fun i => get l (i : Int)) 64 = size l := by
  unfold size
  by_cases h : check l = 0
  · rw [if_pos h, ← total_sum ((check_zero l).1 h)]
    exact sumTo_congr _ _ (fun i => get_vec ((check_zero l).1 h) _) 64
  · rw [if_neg h, ← sumTo_zero 64]
    exact sumTo_congr _ _ (fun i => get_none h _) 64

/-- One round of going through both. -/
theorem sides_left (x : D) (a b : List D) (h : x.1 < first b) : sides (x :: a) b = (x, (x.1, 0)) :: sides a b := by
  cases b with
  | nil => rw [sides]
  | cons y b =>
    have h' : x.1 < y.1 := h
    rw [sides, if_pos h']
theorem sides_right (y : D) (a b : List D) (h : y.1 < first a) : sides a (y :: b) = ((y.1, 0), y) :: sides a b := by
  cases a with
  | nil => rw [sides]
  | cons x a =>
    have h' : y.1 < x.1 := h
    rw [sides, if_neg (by omega), if_pos h']
theorem sides_both (x y : D) (a b : List D) (h : x.1 = y.1) : sides (x :: a) (y :: b) = (x, y) :: sides a b := by
  rw [sides, if_neg (by omega), if_neg (by omega)]

def exA : List D := [(0, 2), (3, 1)]
def exB : List D := [(0, 1), (5, 4)]
theorem ex_sides : sides exA exB = [((0, 2), (0, 1)), ((3, 1), (3, 0)), ((5, 0), (5, 4))] := by
  unfold exA exB
  rw [sides_both (0, 2) (0, 1) _ _ rfl, sides, if_pos (by decide), sides, sides]
theorem ex_sides' : sides exB exA = [((0, 1), (0, 2)), ((3, 0), (3, 1)), ((5, 4), (5, 0))] := by
  unfold exA exB
  rw [sides_both (0, 1) (0, 2) _ _ rfl, sides, if_neg (by decide), if_pos (by decide), sides, sides]
theorem ex_join : joins exA exB = [(0, 2), (3, 1), (5, 4)] := by
  unfold joins join
  rw [if_pos (by decide), ex_sides]
  decide
theorem ex_meet : meets exA exB = [(0, 1)] := by
  unfold meets meet
  rw [if_pos (by decide), ex_sides]
  decide
theorem ex_apart : compare exA exB = 3 := by
  unfold compare within
  rw [ex_sides, ex_sides']
  decide
end Go.Proofs.Ytpfighkafmammaa.Vc

/-
  What the leaves answer: why a dot may not be, and which peer a list begins with; a slice of dots in memory.
-/

namespace Go.Proofs.Ytpfighkafmammaa
open Go.RowKit

theorem hide {p : Prop} (h : p) : Hid p := h
theorem unhide {p : Prop} (h : Hid p) : p := h
theorem ret_int {a b : Int} (h : a = b) : Ending.returned (.int .i64 a) = .returned (.int .i64 b) := by rw [h]
theorem ret_bool {a b : Bool} (h : a = b) : Ending.returned (.bool a) = .returned (.bool b) := by rw [h]
theorem below_grow {B : Nat} {a b c : World} (h : Below B a b) (hB : B ≤ a.heap.size) (h2 : Below b.heap.size b c) : Below B a c :=
  h.trans (h2.mono (Nat.le_trans hB h.size))

/-- A dot as a value. -/
def dotV (d : Vc.D) : Value := .agg #[.int .i64 d.1, .int .i64 d.2]

/-- A slice of dots, wherever it lies; nothing is asked of one that has none. -/
def Sl (W : World) (a : Option Addr) (ds : List Vc.D) : Prop :=
  0 < ds.length → ∃ g o, a = some ⟨g, o, none⟩ ∧ g < W.heap.size ∧ ∀ (j : Nat) (d : Vc.D), ds[j]? = some d → W.cell? ⟨g, o + j * 2, none⟩ = some (.int .i64 d.1) ∧ W.cell? ⟨g, o + j * 2 + 1, none⟩ = some (.int .i64 d.2)

theorem Sl.below {W W' : World} {n : Nat} {a : Option Addr} {ds : List Vc.D} (h : Sl W a ds) (hb : Below n W W') (hn : ∀ g o, a = some ⟨g, o, none⟩ → g < n) : Sl W' a ds := fun h0 => by
  obtain ⟨g, o, e, hg, hc⟩ := h h0
  refine ⟨g, o, e, Nat.lt_of_lt_of_le hg hb.size, fun j d hj => ?_⟩
  rw [hb.cell (p := ⟨g, o + j * 2, none⟩) (hn g o e), hb.cell (p := ⟨g, o + j * 2 + 1, none⟩) (hn g o e)]
  exact hc j d hj
theorem Sl.after {W W' : World} {a : Option Addr} {ds : List Vc.D} (h : Sl W a ds) (hb : Below W.heap.size W W') : Sl W' a ds := fun h0 => by
  obtain ⟨g, o, e, hg, hc⟩ := h h0
  refine ⟨g, o, e, Nat.lt_of_lt_of_le hg hb.size, fun j d hj => ?_⟩
  rw [hb.cell (p := ⟨g, o + j * 2, none⟩) hg, hb.cell (p := ⟨g, o + j * 2 + 1, none⟩) hg]
  exact hc j d hj
theorem Sl.drewN {W : World} {a : Option Addr} {ds : List Vc.D} (h : Sl W a ds) (n : Nat) : Sl (W.drewN n) a ds := h
theorem Sl.none (W : World) (a : Option Addr) : Sl W a [] := fun h => absurd h (Nat.lt_irrefl _)

set_option maxRecDepth 100000 in
set_option maxHeartbeats 400000 in
theorem dot_any (p c : Int) (w : World) :
    Calls Try.prog 92 #[.agg #[.int .i64 p, .int .i64 c]] w fun e w' => e = .returned (.int .i64 (Vc.dotErr (p, c))) ∧ Below w.heap.size w w' := by
  unfold Vc.dotErr
  go_enter Try.func92, Try.ntmps92
  go_wp2
  all_goals go_ret
  all_goals refine ⟨ret_int ?_, (Below.refl _ _).alloc (Nat.le_refl _) _⟩
  all_goals (first | omega | (split <;> omega))

set_option maxRecDepth 100000 in
set_option maxHeartbeats 400000 in
theorem refDot_any (p c : Int) (w : World) :
    Calls Try.prog 84 #[.agg #[.int .i64 p, .int .i64 c]] w fun e w' => e = .returned (.int .i64 (Vc.dotErr (p, c))) ∧ Below w.heap.size w w' := by
  unfold Vc.dotErr
  go_enter Try.func84, Try.ntmps84
  go_wp2
  all_goals go_ret
  all_goals refine ⟨ret_int ?_, (Below.refl _ _).alloc (Nat.le_refl _) _⟩
  all_goals (first | omega | (split <;> omega))

set_option maxRecDepth 100000 in
set_option maxHeartbeats 400000 in
theorem first_any (a : Option Addr) (cap : Nat) (ds : List Vc.D) (hb : ds.length ≤ 9223372036854775807) (w : World) (h : Sl w a ds) :
    Calls Try.prog 105 #[.slice a ds.length cap] w fun e w' => e = .returned (.int .i64 (Vc.first ds)) ∧ w' = w := by
  cases ds with
  | nil =>
    go_enter Try.func105, Try.ntmps105
    go_wp2
    go_ret
    exact ⟨rfl, rfl⟩
  | cons d l =>
    obtain ⟨g, o, rfl, hg, hc⟩ := h (by simp)
    have c0 : w.cell? ⟨g, o, none⟩ = some (.int .i64 d.1) := (hc 0 d rfl).1
    have HF := hide (show Vc.first (d :: l) = d.1 from rfl)
    obtain ⟨F, hF⟩ : ∃ F, Vc.first (d :: l) = F := ⟨_, rfl⟩
    obtain ⟨n, hn⟩ : ∃ n, (d :: l).length = n := ⟨_, rfl⟩
    have h0 : 0 < n := by rw [← hn]; simp
    rw [hn] at hb ⊢
    rw [hF] at HF ⊢
    have e : F = d.1 := unhide HF
    subst e
    clear h hc HF hF hn
    go_enter Try.func105, Try.ntmps105
    go_wp2
    go_ret
    exact ⟨rfl, rfl⟩
end Go.Proofs.Ytpfighkafmammaa

/-
  What the Go functions count.sizeAhead, count.numberOf, count.Take and the document's Take answer, for every string: they only compute.
-/

namespace Go.Proofs.Ytpfighkafmammaa
open Go.RowKit

theorem at_data (s : ByteArray) (k : Nat) (h : k < s.size) : s.data.toList[k]?.getD 0 = s[k] := by
  have h' : k < s.data.toList.length := by simpa using h
  rw [List.getElem?_eq_getElem h']
  rfl

theorem ret2_int {k j : IntKind} {a b c d : Int} (h : a = b) (h' : c = d) : Ending.returned (.tuple #[.int k a, .int j c]) = .returned (.tuple #[.int k b, .int j d]) := by rw [h, h']

def aheadF (l : List UInt8) : Int × Int :=
  if Cnt.fx l < 5 then if Cnt.fx l < l.length then ((Cnt.fx l + 1 : Nat), 0) else (0, 5) else (0, 2)

theorem aheadF_yes (l : List UInt8) (k : Nat) (h : Cnt.fx l = k) (h5 : k < 5) (hl : k < l.length) : aheadF l = ((k : Int) + 1, 0) := by
  unfold aheadF; rw [h, if_pos h5, if_pos hl]; rfl
theorem aheadF_short (l : List UInt8) (h : Cnt.fx l = l.length) (h5 : l.length < 5) : aheadF l = (0, 5) := by
  unfold aheadF; rw [h, if_pos h5, if_neg (by omega)]
theorem aheadF_long (l : List UInt8) (h : 5 ≤ Cnt.fx l) : aheadF l = (0, 2) := by
  unfold aheadF; rw [if_neg (by omega)]

theorem ext_data (s : ByteArray) (k : Nat) : (s.extract 0 k).data.toList = s.data.toList.take k := by simp
theorem ext_size (s : ByteArray) (k : Nat) (h : k ≤ s.size) : (s.extract 0 k).size = k := by simp; omega

theorem takeF_of (l : List UInt8) (a b c : Int) (h : Cnt.takeF l = (a, b, c)) : Ending.returned (.tuple #[.int .i64 a, .int .i64 b, .int .i64 c]) = .returned (.tuple #[.int .i64 (Cnt.takeF l).1, .int .i64 (Cnt.takeF l).2.1, .int .i64 (Cnt.takeF l).2.2]) := by rw [h]
theorem takeF_short (l : List UInt8) (h : Cnt.fx l = l.length) (h5 : l.length < 5) : Cnt.takeF l = (0, 0, 5) := by
  unfold Cnt.takeF; rw [h, if_pos h5, if_neg (by omega)]
theorem takeF_long (l : List UInt8) (h : 5 ≤ Cnt.fx l) : Cnt.takeF l = (0, 0, 2) := by
  unfold Cnt.takeF; rw [if_neg (by omega)]
theorem takeF_form (l : List UInt8) (k : Nat) (h : Cnt.fx l = k) (h5 : k < 5) (hl : k < l.length) (hz : 0 < k ∧ (l[k]?.getD 0).toNat = 0) : Cnt.takeF l = (0, 0, 7) := by
  unfold Cnt.takeF; rw [h, if_pos h5, if_pos hl, if_pos hz]
theorem takeF_great (l : List UInt8) (k : Nat) (h : Cnt.fx l = k) (h5 : k < 5) (hl : k < l.length) (hz : ¬ (0 < k ∧ (l[k]?.getD 0).toNat = 0)) (hm : 1073741824 < Cnt.num (l.take (k + 1))) : Cnt.takeF l = (0, 0, 2) := by
  unfold Cnt.takeF; rw [h, if_pos h5, if_pos hl, if_neg hz, if_pos hm]
theorem takeF_good (l : List UInt8) (k : Nat) (h : Cnt.fx l = k) (h5 : k < 5) (hl : k < l.length) (hz : ¬ (0 < k ∧ (l[k]?.getD 0).toNat = 0)) (hm : ¬ 1073741824 < Cnt.num (l.take (k + 1))) : Cnt.takeF l = ((Cnt.num (l.take (k + 1)) : Int), (k : Int) + 1, 0) := by
  unfold Cnt.takeF; rw [h, if_pos h5, if_pos hl, if_neg hz, if_neg hm]; rfl

end Go.Proofs.Ytpfighkafmammaa

/-
  What the Go functions count.bytesOf (the iterator), count.Size and count.Put answer, for every number: the bytes, and how many; nothing that lay in memory turns.
-/

namespace Go.Proofs.Ytpfighkafmammaa
open Go.RowKit Go.Shelf

attribute [local go_sem] Oper.semAt_some

theorem info5 : (Try.prog.info? 5).map (fun i => (i.zero, i.size, i.bytes)) = some (some (.int .u8 0), 1, 1) := by kernel_rfl

def byteVal (b : UInt8) : Value := .int .u8 (b.toNat : Int)

end Go.Proofs.Ytpfighkafmammaa

/-
  What the document's Put answers, for every number: the same bytes as the program's; nothing that lay in memory turns.
-/

namespace Go.Proofs.Ytpfighkafmammaa
open Go.RowKit

theorem bcell {W w1 : World} (hb : Below W.heap.size W w1) : (∀ b o, b < W.heap.size → w1.cell? ⟨b, o, none⟩ = W.cell? ⟨b, o, none⟩) ∧ (∀ b o, b < W.heap.size → w1.frozen? ⟨b, o, none⟩ = W.frozen? ⟨b, o, none⟩) :=
  ⟨fun b o h => hb.cell (p := ⟨b, o, none⟩) h, fun b o h => hb.frozen (p := ⟨b, o, none⟩) h⟩

theorem wrap_smallC {m : Int} (h0 : 0 ≤ m) (h1 : m < 4611686018427387904) : IntKind.i64.wrap m = m := by simp [IntKind.wrap, IntKind.signed, IntKind.bits]; omega
theorem wrap_byte {m : Int} (h0 : 0 ≤ m) (h1 : m < 256) : IntKind.u8.wrap m = m := by simp [IntKind.wrap, IntKind.signed, IntKind.bits]; omega

theorem cat_small (x : UInt8) (m : Int) : ¬ (ByteArray.size ⟨#[x]⟩ + ByteArray.size ⟨(Cnt.putL m).toArray⟩ > 9223372036854775807) := by
  have := Cnt.putL_len m
  simp [ByteArray.size]
  omega

theorem ret_cat {x : UInt8} {m : Int} {l : List UInt8} (h : l = x :: Cnt.putL m) :
    Ending.returned (.string (⟨#[x]⟩ ++ ⟨(Cnt.putL m).toArray⟩)) = Ending.returned (.string ⟨l.toArray⟩) := by
  rw [h]
  exact congrArg (fun b => Ending.returned (.string b)) (ByteArray.mk_append_mk [x] (Cnt.putL m))

end Go.Proofs.Ytpfighkafmammaa

/-
  Rows of values in a block: their cells, a store into one, what stays as it was; a row as a whole.
-/

namespace Go.Proofs.Ytpfighkafmammaa
open Go.RowKit

def VRow (W : World) (B T : Nat) (vs : List Value) : Prop := W.heap[B]? = some (.cells vs.toArray T (0, 0))

theorem VRow.cell {W : World} {B T : Nat} {vs : List Value} (h : VRow W B T vs) (k : Nat) (v : Value) (hv : vs[k]? = some v) : W.cell? ⟨B, k, none⟩ = some v := by
  rw [cell_of_row W B k vs.toArray T (0, 0) h]
  simpa using hv
theorem VRow.frozen {W : World} {B T : Nat} {vs : List Value} (h : VRow W B T vs) (k : Nat) : W.frozen? ⟨B, k, none⟩ = false := frozen_of_row W B k vs.toArray T h
theorem VRow.set {W : World} {B T : Nat} {vs : List Value} (h : VRow W B T vs) (k : Nat) (v : Value) : VRow (W.setCell ⟨B, k, none⟩ v) B T (vs.set k v) := by
  have := heap_setCell_same W B k vs.toArray T v h
  simpa [VRow] using this
theorem VRow.below {W W' : World} {n B T : Nat} {vs : List Value} (h : VRow W B T vs) (hb : Below n W W') (hn : B < n) : VRow W' B T vs := (hb.block B hn).trans h
theorem VRow.lt {W : World} {B T : Nat} {vs : List Value} (h : VRow W B T vs) : B < W.heap.size := (Array.getElem?_eq_some_iff.1 h).1
theorem VRow.new (W : World) (T : Nat) (vs : List Value) : VRow (W.alloc (.cells vs.toArray T)) W.heap.size T vs := heap_alloc_new W _
theorem VRow.newAt {W : World} {T n : Nat} {vs : List Value} (hn : n = W.heap.size) : VRow (W.alloc (.cells vs.toArray T)) n T vs := by subst hn; exact VRow.new W T vs
theorem VRow.alloc {W : World} {B T : Nat} {vs : List Value} (h : VRow W B T vs) (o : Obj) : VRow (W.alloc o) B T vs := (Below.heap_alloc W o B h.lt).trans h
theorem VRow.drewN {W : World} {B T : Nat} {vs : List Value} (h : VRow W B T vs) (n : Nat) : VRow (W.drewN n) B T vs := h

/-- Nothing turns but block B. -/
structure Only (B : Nat) (w w' : World) : Prop where
  os : w'.os = w.os
  tape : w'.tape = w.tape
  output : w'.output = w.output
  size : w'.heap.size = w.heap.size
  block : ∀ j, j ≠ B → w'.heap[j]? = w.heap[j]?
theorem Only.below {B n : Nat} {w w' : World} (h : Only B w w') (hn : n ≤ B) : Below n w w' := ⟨h.os, h.tape, h.output, Nat.le_of_eq h.size.symm, fun k hk => h.block k (by omega)⟩
theorem VRow.only {W W' : World} {A B T : Nat} {vs : List Value} (h : VRow W A T vs) (ho : Only B W W') (hne : A ≠ B) : VRow W' A T vs := (ho.block A hne).trans h
theorem below_drewN {B : Nat} {a w : World} (h : Below B a w) (q : Nat) : Below B a (w.drewN q) := ⟨h.os, h.tape, h.output, h.size, h.block⟩

theorem load_row {ops : Array Oper} {rest : List Oper} {o : Oper} {a : Act} {w : World} {Q : Exit → Act → World → Prop} (hgd : o.guard = none) (T : TypeId) (x : Operand) (ho : o.op = .load T x)
    (B : Nat) (hx : a.eval x = .pointer (some ⟨B, 0, none⟩)) (T' : TypeId) (vs : List Value) (hr : VRow w B T' vs) (n m : Nat) (e : TypeId) (hu : Try.prog.underlying T = some (.array m e))
    (hi : (Try.prog.info? T).map (·.size) = some n) (hn : vs.length = n)
    (h : wpList Try.prog ops Q rest (a.put o.dst (.agg vs.toArray)) w) : wpList Try.prog ops Q (o :: rest) a w :=
  wpList_load_row hgd T x ho B hx T' vs.toArray (0, 0) _ hr hu rfl (by rw [hi]; simp [hn]) h

theorem store_row {ops : Array Oper} {rest : List Oper} {o : Oper} {a : Act} {w : World} {Q : Exit → Act → World → Prop} (hgd : o.guard = none) (T : TypeId) (x y : Operand) (ho : o.op = .store T x y)
    (B : Nat) (vs : List Value) (hx : a.eval x = .pointer (some ⟨B, 0, none⟩)) (hy : a.eval y = .agg vs.toArray) (T' : TypeId) (olds : List Value) (hr : VRow w B T' olds) (n : Nat)
    (hi : (Try.prog.info? T).map (·.size) = some n) (hn : vs.length = n) (ho' : olds.length = n) (h1 : ∀ v ∈ vs, v.oneCell' = true)
    (h : ∀ w', Only B w w' → VRow w' B T' vs → wpList Try.prog ops Q rest (a.put o.dst undef) w') : wpList Try.prog ops Q (o :: rest) a w := by
  refine wpList_store_row hgd T x y ho B vs.toArray hx hy T' olds.toArray hr (by rw [hi]; simp [hn]) (by simp [hn, ho']) (all_oneCell_toArray h1) (h _ ?_ ?_)
  · exact ⟨rfl, rfl, rfl, by simp, fun j hj => setRow_other w B j _ hj⟩
  · exact setRow_heap w B olds.toArray _ T' (0, 0) hr

/-- A result in a row and one in a slot. -/
theorem results_row_int {fn : Func} {p q : Tmp} {ty : TypeId} (h : fn.results = #[.cell p ty, .tmp q]) (tmps : Array Value) (w : World) (g : Nat) (T : TypeId) (vs : List Value) {v : Value}
    (hp : tmps.getD p undef = .pointer (some ⟨g, 0, none⟩)) (hq : tmps.getD q undef = v) (hr : VRow w g T vs) (n m : Nat) (e : TypeId) (hu : Try.prog.underlying ty = some (.array m e))
    (hi : (Try.prog.info? ty).map (·.size) = some n) (hn : vs.length = n) : (results fn tmps).run Try.prog w = .ok (.tuple #[.agg vs.toArray, v]) w := by
  rw [results_cell_tmp h, hp, hq]
  simp only [asAddr, Sem.run_pure, Result.andThen_ok, run_loadVar_row w g T ty vs.toArray (0, 0) _ hr hu rfl (by rw [hi]; simp [hn])]

theorem wrap_small {n : Int} (h0 : -9223372036854775808 ≤ n) (h1 : n < 9223372036854775808) : IntKind.i64.wrap n = n := by rw [IntKind.wrap_i64]; omega
theorem new0 (W : World) (x y : Value) (T : Nat) : (W.alloc (.cells #[x, y] T)).cell? ⟨W.heap.size, 0, none⟩ = some x := (VRow.new W T [x, y]).cell 0 x rfl
theorem new1 (W : World) (x y : Value) (T : Nat) : (W.alloc (.cells #[x, y] T)).cell? ⟨W.heap.size, 1, none⟩ = some y := (VRow.new W T [x, y]).cell 1 y rfl
theorem lt_new (W : World) (o : Obj) : W.heap.size < (W.alloc o).heap.size := by simp
end Go.Proofs.Ytpfighkafmammaa

/-
  What Check answers, the program's and the document's: why a list is no vector.
-/

namespace Go.Proofs.Ytpfighkafmammaa
open Go.RowKit

/-- The peer ahead of a place. -/
def prevP (ds : List Vc.D) : Nat → Int
  | 0 => -1
  | k + 1 => (ds.getD k (0, 0)).1

theorem chk_end (ds : List Vc.D) (p : Int) : Vc.chk p (ds.drop ds.length) = 0 := by rw [List.drop_length]; rfl
theorem chk_step (ds : List Vc.D) (k : Nat) (d : Vc.D) (h : ds[k]? = some d) : Vc.chk (prevP ds k) (ds.drop k) = if Vc.dotErr d ≠ 0 then Vc.dotErr d else if d.1 ≤ prevP ds k then 8 else Vc.chk (prevP ds (k + 1)) (ds.drop (k + 1)) := by
  have hk := (List.getElem?_eq_some_iff.1 h).1
  rw [List.drop_eq_getElem_cons hk]
  have e : ds[k] = d := (List.getElem?_eq_some_iff.1 h).2
  rw [e]
  have e2 : prevP ds (k + 1) = d.1 := by simp [prevP, List.getD, h]
  rw [e2]
  rfl
theorem prev_at (ds : List Vc.D) (k : Nat) (d : Vc.D) (h : ds[k]? = some d) : prevP ds (k + 1) = d.1 := by simp [prevP, List.getD, h]

set_option maxRecDepth 100000 in
set_option maxHeartbeats 1000000 in
theorem check_any (a : Option Addr) (cap : Nat) (ds : List Vc.D) (hl : ds.length ≤ 9223372036854775807) (w : World) (h : Sl w a ds) :
    Calls Try.prog 79 #[.slice a ds.length cap] w fun e w' => e = .returned (.int .i64 (Vc.check ds)) ∧ Below w.heap.size w w' := by
  have HS := hide h
  have HC := hide (show Vc.check ds = Vc.chk (prevP ds 0) (ds.drop 0) from rfl)
  obtain ⟨C, hC⟩ : ∃ C, Vc.check ds = C := ⟨_, rfl⟩
  rw [hC] at HC ⊢
  clear h hC
  go_enter Try.func79, Try.ntmps79
  go_wp2_with fail
  go_loopw [8] (fun i wr => ∃ k : Nat, k ≤ ds.length ∧ i = .int .i64 k ∧ C = Vc.chk (prevP ds k) (ds.drop k) ∧ Below w.heap.size w wr) (fun i _ => ds.length - (intOf i).toNat)
  case atStart => exact ⟨0, Nat.zero_le _, rfl, unhide HC, Below.refl _ _⟩
  case round =>
    obtain ⟨k, hk, rfl, hc, hb⟩ := hrel
    have HC1 := hide hc
    have HB := hide hb
    clear hc hb HC
    by_cases hlt : k < ds.length
    · obtain ⟨d, hd⟩ : ∃ d, ds[k]? = some d := ⟨_, List.getElem?_eq_getElem hlt⟩
      obtain ⟨g, o, rfl, hg, hcell⟩ := unhide HS (by omega)
      have HG := hide hg
      have HCell := hide hcell
      have HD := hide hd
      obtain ⟨p, c⟩ := d
      have c0 : wr.cell? ⟨g, o + k * 2, none⟩ = some (.int .i64 p) := ((unhide HB).cell (p := ⟨g, o + k * 2, none⟩) hg).trans (hcell k _ hd).1
      have c1 : wr.cell? ⟨g, o + k * 2 + 1, none⟩ = some (.int .i64 c) := ((unhide HB).cell (p := ⟨g, o + k * 2 + 1, none⟩) hg).trans (hcell k _ hd).2
      clear hd hg hcell
      have KD := hide (dot_any p c)
      have HST := hide (chk_step ds k (p, c) (unhide HD))
      by_cases he : Vc.dotErr (p, c) = 0
      · have hok := (Vc.dotErr_zero (p, c)).1 he
        have hp0 : 0 ≤ p := hok.1
        clear hok
        rw [he] at KD
        rw [if_neg (by simpa using he)] at HST
        clear he
        by_cases hk0 : 0 < k
        · obtain ⟨m, hm⟩ : ∃ m, k = m + 1 := ⟨k - 1, by omega⟩
          obtain ⟨⟨p', c'⟩, hd'⟩ : ∃ d, ds[m]? = some d := ⟨_, List.getElem?_eq_getElem (by omega)⟩
          have e' : prevP ds k = p' := by rw [hm]; exact prev_at ds m _ hd'
          rw [e'] at HST
          have HM : Hid (w.cell? ⟨g, o + m * 2, none⟩ = some (.int .i64 p')) := ((unhide HCell) m _ hd').1
          have hmi : (k : Int) - 1 = (m : Int) := by omega
          have hmw : IntKind.i64.wrap ((k : Int) - 1) = (m : Int) := by rw [hmi]; exact wrap_small (by omega) (by omega)
          have hml : m < ds.length := by omega
          have hgi : (0 : Int) < (k : Int) := by omega
          have HMK : Hid (k = m + 1) := hm
          clear hd' hm
          by_cases hle : p ≤ p'
          · have HNX : Hid (C = 8) := by
              have h := unhide HST
              rw [if_pos (show (p, c).1 ≤ p' from hle)] at h
              exact hide (by rw [unhide HC1, e', h])
            clear e'
            go_wp2_with (go_at_call 92; refine (unhide KD _).mono ?_; rintro e w2 ⟨rfl, hb2⟩; have HB2 := hide ((((unhide HB).alloc (unhide HB).size _)).trans (hb2.mono (by have := (unhide HB).size; simp; omega))); have c2 : w2.cell? ⟨wr.heap.size, 0, none⟩ = some (.int .i64 p) := (hb2.cell (p := ⟨wr.heap.size, 0, none⟩) (lt_new _ _)).trans (new0 _ _ _ _); have c3 := ((unhide HB2).cell (p := ⟨g, o + m * 2, none⟩) (unhide HG)).trans (unhide HM); clear hb2 c0 c1)
            go_quiet (fail)
            go_wp2_with fail
            go_ret
            exact ⟨ret_int (unhide HNX).symm, below_drewN (unhide HB2) _⟩
          · have HNX : Hid (C = Vc.chk (prevP ds (k + 1)) (ds.drop (k + 1))) := by
              have h := unhide HST
              rw [if_neg (show ¬ (p, c).1 ≤ p' from hle)] at h
              exact hide (by rw [unhide HC1, e', h])
            clear e'
            go_wp2_with (go_at_call 92; refine (unhide KD _).mono ?_; rintro e w2 ⟨rfl, hb2⟩; have HB2 := hide ((((unhide HB).alloc (unhide HB).size _)).trans (hb2.mono (by have := (unhide HB).size; simp; omega))); have c2 : w2.cell? ⟨wr.heap.size, 0, none⟩ = some (.int .i64 p) := (hb2.cell (p := ⟨wr.heap.size, 0, none⟩) (lt_new _ _)).trans (new0 _ _ _ _); have c3 := ((unhide HB2).cell (p := ⟨g, o + m * 2, none⟩) (unhide HG)).trans (unhide HM); clear hb2 c0 c1)
            go_quiet (fail)
            go_wp2_with fail
            go_roundw
            case rel => exact ⟨k + 1, by omega, by go_num, unhide HNX, below_drewN (unhide HB2) _⟩
            case measure => simp [intOf]; omega
        · have HNX : Hid (C = Vc.chk (prevP ds (k + 1)) (ds.drop (k + 1))) := by
            have h := unhide HST
            have e : prevP ds k = -1 := by rw [show k = 0 by omega]; rfl
            rw [e, if_neg (show ¬ (p, c).1 ≤ -1 by show ¬ p ≤ -1; omega)] at h
            rw [unhide HC1, e]
            exact h
          have hgd : decide (0 < (k : Int)) = false := decide_eq_false (by omega)
          go_wp2_with (go_at_call 92; refine (unhide KD _).mono ?_; rintro e w2 ⟨rfl, hb2⟩; have HB2 := hide ((((unhide HB).alloc (unhide HB).size _)).trans (hb2.mono (by have := (unhide HB).size; simp; omega))); clear hb2 c0 c1)
          go_quiet (fail)
          go_wp2_with fail
          go_roundw
          case rel => exact ⟨k + 1, by omega, by go_num, unhide HNX, below_drewN (unhide HB2) _⟩
          case measure => simp [intOf]; omega
      · have HNX : Hid (C = Vc.dotErr (p, c)) := by
          have h := unhide HST
          rw [if_pos (by simpa using he)] at h
          exact hide (by rw [unhide HC1, h])
        have heb : (Vc.dotErr (p, c) != 0) = true := bne_iff_ne.2 he
        generalize Vc.dotErr (p, c) = E at *
        clear he
        go_wp2_with (go_at_call 92; refine (unhide KD _).mono ?_; rintro e w2 ⟨rfl, hb2⟩; have HB2 := hide ((((unhide HB).alloc (unhide HB).size _)).trans (hb2.mono (by have := (unhide HB).size; simp; omega))); clear hb2 c0 c1)
        go_ret
        exact ⟨ret_int (unhide HNX).symm, unhide HB2⟩
    · obtain rfl : k = ds.length := by omega
      have HNX : Hid (C = 0) := by rw [unhide HC1]; exact chk_end ds _
      go_wp2_with fail
      go_ret
      exact ⟨ret_int (unhide HNX).symm, unhide HB⟩
set_option maxRecDepth 100000 in
set_option maxHeartbeats 1000000 in
theorem refCheck_any (a : Option Addr) (cap : Nat) (ds : List Vc.D) (hl : ds.length ≤ 9223372036854775807) (w : World) (h : Sl w a ds) :
    Calls Try.prog 85 #[.slice a ds.length cap] w fun e w' => e = .returned (.int .i64 (Vc.check ds)) ∧ Below w.heap.size w w' := by
  have HS := hide h
  have HC := hide (show Vc.check ds = Vc.chk (prevP ds 0) (ds.drop 0) from rfl)
  obtain ⟨C, hC⟩ : ∃ C, Vc.check ds = C := ⟨_, rfl⟩
  rw [hC] at HC ⊢
  clear h hC
  go_enter Try.func85, Try.ntmps85
  go_wp2_with fail
  go_loopw [3] (fun i wr => ∃ k : Nat, k ≤ ds.length ∧ i = .int .i64 k ∧ C = Vc.chk (prevP ds k) (ds.drop k) ∧ Below w.heap.size w wr) (fun i _ => ds.length - (intOf i).toNat)
  case atStart => exact ⟨0, Nat.zero_le _, rfl, unhide HC, Below.refl _ _⟩
  case round =>
    obtain ⟨k, hk, rfl, hc, hb⟩ := hrel
    have HC1 := hide hc
    have HB := hide hb
    clear hc hb HC
    by_cases hlt : k < ds.length
    · obtain ⟨d, hd⟩ : ∃ d, ds[k]? = some d := ⟨_, List.getElem?_eq_getElem hlt⟩
      obtain ⟨g, o, rfl, hg, hcell⟩ := unhide HS (by omega)
      have HG := hide hg
      have HCell := hide hcell
      have HD := hide hd
      obtain ⟨p, c⟩ := d
      have c0 : wr.cell? ⟨g, o + k * 2, none⟩ = some (.int .i64 p) := ((unhide HB).cell (p := ⟨g, o + k * 2, none⟩) hg).trans (hcell k _ hd).1
      have c1 : wr.cell? ⟨g, o + k * 2 + 1, none⟩ = some (.int .i64 c) := ((unhide HB).cell (p := ⟨g, o + k * 2 + 1, none⟩) hg).trans (hcell k _ hd).2
      clear hd hg hcell
      have KD := hide (refDot_any p c)
      have HST := hide (chk_step ds k (p, c) (unhide HD))
      by_cases he : Vc.dotErr (p, c) = 0
      · have hok := (Vc.dotErr_zero (p, c)).1 he
        have hp0 : 0 ≤ p := hok.1
        clear hok
        rw [he] at KD
        rw [if_neg (by simpa using he)] at HST
        clear he
        by_cases hk0 : 0 < k
        · obtain ⟨m, hm⟩ : ∃ m, k = m + 1 := ⟨k - 1, by omega⟩
          obtain ⟨⟨p', c'⟩, hd'⟩ : ∃ d, ds[m]? = some d := ⟨_, List.getElem?_eq_getElem (by omega)⟩
          have e' : prevP ds k = p' := by rw [hm]; exact prev_at ds m _ hd'
          rw [e'] at HST
          have HM : Hid (w.cell? ⟨g, o + m * 2, none⟩ = some (.int .i64 p')) := ((unhide HCell) m _ hd').1
          have HK : Hid (w.cell? ⟨g, o + k * 2, none⟩ = some (.int .i64 p)) := ((unhide HCell) k _ (unhide HD)).1
          have hmi : (k : Int) - 1 = (m : Int) := by omega
          have hmw : IntKind.i64.wrap ((k : Int) - 1) = (m : Int) := by rw [hmi]; exact wrap_small (by omega) (by omega)
          have hml : m < ds.length := by omega
          have hgi : (0 : Int) < (k : Int) := by omega
          have HMK : Hid (k = m + 1) := hm
          clear hd' hm
          by_cases hle : p ≤ p'
          · have HNX : Hid (C = 8) := by
              have h := unhide HST
              rw [if_pos (show (p, c).1 ≤ p' from hle)] at h
              exact hide (by rw [unhide HC1, e', h])
            clear e'
            go_wp2_with (go_at_call 84; refine (unhide KD _).mono ?_; rintro e w2 ⟨rfl, hb2⟩; have HB2 := hide (below_grow (unhide HB) (Nat.le_refl _) hb2); have c2 := ((unhide HB2).cell (p := ⟨g, o + k * 2, none⟩) (unhide HG)).trans (unhide HK); have c3 := ((unhide HB2).cell (p := ⟨g, o + m * 2, none⟩) (unhide HG)).trans (unhide HM); clear hb2 c0 c1)
            go_quiet (fail)
            go_wp2_with fail
            go_ret
            exact ⟨ret_int (unhide HNX).symm, below_drewN (unhide HB2) _⟩
          · have HNX : Hid (C = Vc.chk (prevP ds (k + 1)) (ds.drop (k + 1))) := by
              have h := unhide HST
              rw [if_neg (show ¬ (p, c).1 ≤ p' from hle)] at h
              exact hide (by rw [unhide HC1, e', h])
            clear e'
            go_wp2_with (go_at_call 84; refine (unhide KD _).mono ?_; rintro e w2 ⟨rfl, hb2⟩; have HB2 := hide (below_grow (unhide HB) (Nat.le_refl _) hb2); have c2 := ((unhide HB2).cell (p := ⟨g, o + k * 2, none⟩) (unhide HG)).trans (unhide HK); have c3 := ((unhide HB2).cell (p := ⟨g, o + m * 2, none⟩) (unhide HG)).trans (unhide HM); clear hb2 c0 c1)
            go_quiet (fail)
            go_wp2_with fail
            go_roundw
            case rel => exact ⟨k + 1, by omega, by go_num, unhide HNX, below_drewN (unhide HB2) _⟩
            case measure => simp [intOf]; omega
        · have HNX : Hid (C = Vc.chk (prevP ds (k + 1)) (ds.drop (k + 1))) := by
            have h := unhide HST
            have e : prevP ds k = -1 := by rw [show k = 0 by omega]; rfl
            rw [e, if_neg (show ¬ (p, c).1 ≤ -1 by show ¬ p ≤ -1; omega)] at h
            rw [unhide HC1, e]
            exact h
          have hgd : decide (0 < (k : Int)) = false := decide_eq_false (by omega)
          go_wp2_with (go_at_call 84; refine (unhide KD _).mono ?_; rintro e w2 ⟨rfl, hb2⟩; have HB2 := hide (below_grow (unhide HB) (Nat.le_refl _) hb2); clear hb2 c0 c1)
          go_quiet (fail)
          go_wp2_with fail
          go_roundw
          case rel => exact ⟨k + 1, by omega, by go_num, unhide HNX, below_drewN (unhide HB2) _⟩
          case measure => simp [intOf]; omega
      · have HNX : Hid (C = Vc.dotErr (p, c)) := by
          have h := unhide HST
          rw [if_pos (by simpa using he)] at h
          exact hide (by rw [unhide HC1, h])
        have heb : (Vc.dotErr (p, c) != 0) = true := bne_iff_ne.2 he
        generalize Vc.dotErr (p, c) = E at *
        clear he
        go_wp2_with (go_at_call 84; refine (unhide KD _).mono ?_; rintro e w2 ⟨rfl, hb2⟩; have HB2 := hide (below_grow (unhide HB) (Nat.le_refl _) hb2); clear hb2 c0 c1)
        go_ret
        exact ⟨ret_int (unhide HNX).symm, unhide HB2⟩
    · obtain rfl : k = ds.length := by omega
      have HNX : Hid (C = 0) := by rw [unhide HC1]; exact chk_end ds _
      go_wp2_with fail
      go_ret
      exact ⟨ret_int (unhide HNX).symm, unhide HB⟩
end Go.Proofs.Ytpfighkafmammaa

/-
  What sides goes through: two vectors side by side, for every loop that keeps what lay ahead of it.
-/

namespace Go.Proofs.Ytpfighkafmammaa
open Go.RowKit Go.Shelf

attribute [local go_sem] Oper.semAt_some

theorem below_drew {B : Nat} {a w : World} (h : Below B a w) : Below B a w.drew := ⟨h.os, h.tape, h.output, h.size, h.block⟩

/-- A slice of dots below a block. -/
def SlB (n : Nat) (W : World) (a : Option Addr) (ds : List Vc.D) : Prop :=
  0 < ds.length → ∃ g o, a = some ⟨g, o, none⟩ ∧ g < n ∧ ∀ (j : Nat) (d : Vc.D), ds[j]? = some d → W.cell? ⟨g, o + j * 2, none⟩ = some (.int .i64 d.1) ∧ W.cell? ⟨g, o + j * 2 + 1, none⟩ = some (.int .i64 d.2)
theorem Sl.b {W : World} {a : Option Addr} {ds : List Vc.D} (h : Sl W a ds) : SlB W.heap.size W a ds := h
theorem SlB.sl {n : Nat} {W : World} {a : Option Addr} {ds : List Vc.D} (h : SlB n W a ds) (hn : n ≤ W.heap.size) : Sl W a ds := fun h0 => by
  obtain ⟨g, o, e, hg, hc⟩ := h h0
  exact ⟨g, o, e, by omega, hc⟩
theorem SlB.below {n : Nat} {W W' : World} {a : Option Addr} {ds : List Vc.D} (h : SlB n W a ds) (hb : Below n W W') : SlB n W' a ds := fun h0 => by
  obtain ⟨g, o, e, hg, hc⟩ := h h0
  refine ⟨g, o, e, hg, fun j d hj => ?_⟩
  rw [hb.cell (p := ⟨g, o + j * 2, none⟩) hg, hb.cell (p := ⟨g, o + j * 2 + 1, none⟩) hg]
  exact hc j d hj
theorem SlB.tail {n g o : Nat} {W : World} {d : Vc.D} {ds : List Vc.D} (h : SlB n W (some ⟨g, o, none⟩) (d :: ds)) : SlB n W (some ⟨g, o + 2, none⟩) ds := fun _ => by
  obtain ⟨g', o', e, hg, hc⟩ := h (by simp)
  cases e
  refine ⟨g, o + 2, rfl, hg, fun j x hj => ?_⟩
  have := hc (j + 1) x (by simpa using hj)
  rw [show o + 2 + j * 2 = o + (j + 1) * 2 by omega]
  exact this

/-- 's[1:]', whatever room is behind it. -/
theorem slice1 (g o n cap : Nat) (h : n + 1 ≤ cap) : ∃ A, (∀ w, (Instr.slice 59 (.slice (some ⟨g, o, none⟩) (n + 1) cap) (some (.int .i64 1)) none none).run Try.prog w = .ok (.slice A n (cap - 1)) w) ∧ (0 < n → A = some ⟨g, o + 2, none⟩) := by
  by_cases hc : cap = 1
  · subst hc
    refine ⟨some ⟨g, o, none⟩, fun w => ?_, fun h => by omega⟩
    go_simp
    rw [if_pos (by omega)]
    obtain rfl : n = 0 := by omega
    rfl
  · refine ⟨some ⟨g, o + 2, none⟩, fun w => ?_, fun h => rfl⟩
    go_simp
    intro h'
    omega
theorem SlB.cut {n g o : Nat} {W : World} {d : Vc.D} {ds : List Vc.D} (h : SlB n W (some ⟨g, o, none⟩) (d :: ds)) {A : Option Addr} (hA : 0 < ds.length → A = some ⟨g, o + 2, none⟩) : SlB n W A ds := fun h0 => by
  rw [hA h0]
  exact h.tail h0

theorem first_le {m : Int} {ds : List Vc.D} (h : Vc.Up m ds) : Vc.first ds ≤ 64 := by
  cases ds with
  | nil => exact Int.le_refl _
  | cons d l => have := h.1.2.1; show d.1 ≤ 64; omega
theorem first_cons {m : Int} {d : Vc.D} {ds : List Vc.D} (h : Vc.Up m (d :: ds)) : d.1 ≤ 63 := h.1.2.1
theorem up_first {m p : Int} {ds : List Vc.D} (h : Vc.Up m ds) (hp : p < Vc.first ds) : Vc.Up p ds := by
  cases ds with
  | nil => trivial
  | cons d l => exact ⟨h.1, hp, h.2.2⟩
theorem prefix_one {α : Type} (L pre r : List α) (s : α) (h : L = pre ++ s :: r) : pre ++ [s] <+: L := ⟨r, by rw [h]; simp⟩

def lenOf : Value → Nat
  | .slice _ n _ => n
  | _ => 0

set_option maxHeartbeats 400000 in
theorem sides_in (F : Fence) (n : Nat) (h67 : F.fn 99) (hro : F.round = none) (a b : Option Addr) (la ca lb cb : Nat) (w : World) :
    CallsIn F n Try.prog 99 #[.slice a la ca, .slice b lb cb] w fun e w' => e = .returned (.func (.func 104) #[] #[.pointer (some ⟨w.heap.size, 0, none⟩), .pointer (some ⟨w.heap.size + 1, 0, none⟩)]) ∧ w' = (w.alloc (.cells #[.slice a la ca] 59)).alloc (.cells #[.slice b lb cb] 59) := by
  refine callsIn_of_wp Try.func99 rfl h67 ?_ hro
  simp only [Try.ntmps99, List.size_toArray, List.length_cons, List.length_nil, Nat.reduceAdd, Nat.reduceSub, Array.replicate_succ, Array.replicate_zero, List.push_toArray, List.append_toArray, List.nil_append, List.cons_append]
  gi_wp2
  go_ret
  exact ⟨rfl, rfl⟩

set_option maxRecDepth 100000 in
set_option maxHeartbeats 400000 in
theorem first_in (F : Fence) (n : Nat) (h59 : F.fn 105) (hro : F.round = none) (a : Option Addr) (cap : Nat) (ds : List Vc.D) (hb : ds.length ≤ 9223372036854775807) (w : World) (h : Sl w a ds) :
    CallsIn F n Try.prog 105 #[.slice a ds.length cap] w fun e w' => e = .returned (.int .i64 (Vc.first ds)) ∧ w' = w := by
  cases ds with
  | nil =>
    refine callsIn_of_wp Try.func105 rfl h59 ?_ hro
    simp only [Try.ntmps105, List.size_toArray, List.length_cons, List.length_nil, Nat.reduceAdd, Nat.reduceSub, Array.replicate_succ, Array.replicate_zero, List.push_toArray, List.append_toArray, List.nil_append, List.cons_append]
    gi_wp2
    go_ret
    exact ⟨rfl, rfl⟩
  | cons d l =>
    obtain ⟨g, o, rfl, hg, hc⟩ := h (by simp)
    have c0 : w.cell? ⟨g, o, none⟩ = some (.int .i64 d.1) := (hc 0 d rfl).1
    obtain ⟨m, hm⟩ : ∃ m, (d :: l).length = m := ⟨_, rfl⟩
    have h0 : 0 < m := by rw [← hm]; simp
    rw [hm] at hb ⊢
    obtain ⟨f, hf⟩ : ∃ f, Vc.first (d :: l) = f := ⟨_, rfl⟩
    have e : d.1 = f := hf
    rw [hf]
    rw [e] at c0
    clear h hc hf hm e
    refine callsIn_of_wp Try.func105 rfl h59 ?_ hro
    simp only [Try.ntmps105, List.size_toArray, List.length_cons, List.length_nil, Nat.reduceAdd, Nat.reduceSub, Array.replicate_succ, Array.replicate_zero, List.push_toArray, List.append_toArray, List.nil_append, List.cons_append]
    gi_wp2
    go_ret
    exact ⟨rfl, rfl⟩

set_option maxRecDepth 100000 in
set_option maxHeartbeats 4000000 in
theorem sides1_in (n : Nat) (hn : 2 ≤ n) (l B1 B2 n₀ : Nat) (a b : Option Addr) (ca cb : Nat) (xs ys : List Vc.D) (hla : xs.length ≤ 64) (hlb : ys.length ≤ 64) (hca : xs.length ≤ ca) (hcb : ys.length ≤ cb)
    (ua : Vc.Up (-1) xs) (ub : Vc.Up (-1) ys) (J Jx : List (Vc.D × Vc.D) → World → Prop) (hJ : ∀ pre A B, J pre A → Below A.heap.size A B → J pre B)
    (hY : ∀ pre s W, J pre W → pre.length < 128 → YieldAt Fence.wide (n - 1) Try.prog l #[dotV s.1, dotV s.2] W fun e W' =>
      (e = .returned (.bool true) ∧ J (pre ++ [s]) W' ∧ Below n₀ W W') ∨ (e = .returned (.bool false) ∧ Jx (pre ++ [s]) W'))
    (W : World) (hn₀ : n₀ ≤ W.heap.size) (hB1 : W.cell? ⟨B1, 0, none⟩ = some (.slice a xs.length ca)) (hB2 : W.cell? ⟨B2, 0, none⟩ = some (.slice b ys.length cb)) (sa : SlB n₀ W a xs) (sb : SlB n₀ W b ys) (h0 : J [] W) :
    CallsIn Fence.wide n Try.prog 104 #[.func (.yield l) #[] #[], .pointer (some ⟨B1, 0, none⟩), .pointer (some ⟨B2, 0, none⟩)] W fun e W' => (∃ v, e = .returned v) ∧
      ((∃ zs, zs = Vc.sides xs ys ∧ J zs W') ∨ (∃ pre, pre <+: Vc.sides xs ys ∧ Jx pre W')) := by
  have HY := hide hY
  have HSA := hide sa
  have HSB := hide sb
  have HJ := hide hJ
  have HUA := hide ua
  have HUB := hide ub
  obtain ⟨L, hL⟩ : ∃ L, Vc.sides xs ys = L := ⟨_, rfl⟩
  have HLl : Hid (L.length ≤ 128) := hide (by rw [← hL]; have := Vc.sides_len xs ys; omega)
  have HL := hide hL
  rw [hL]
  clear hY sa sb hJ ua ub hL
  have h59 : Fence.wide.fn 105 := trivial
  refine callsIn_of_wp Try.func104 rfl trivial ?_ rfl
  simp only [Try.ntmps104, List.size_toArray, List.length_cons, List.length_nil, Nat.reduceAdd, Nat.reduceSub, Array.replicate_succ, Array.replicate_zero, List.push_toArray, List.append_toArray, List.nil_append, List.cons_append]
  gi_wp2
  gi_region
  gi_wp2
  gi_loopw [4, 5] (fun p q wr => ∃ (pre : List (Vc.D × Vc.D)) (x' y' : List Vc.D) (a' b' : Option Addr) (ca' cb' : Nat) (m : Int), p = .slice a' x'.length ca' ∧ q = .slice b' y'.length cb' ∧ x'.length ≤ ca' ∧ y'.length ≤ cb' ∧ x'.length ≤ 64 ∧ y'.length ≤ 64 ∧
      Vc.Up m x' ∧ Vc.Up m y' ∧ SlB n₀ wr a' x' ∧ SlB n₀ wr b' y' ∧ L = pre ++ Vc.sides x' y' ∧ n₀ ≤ wr.heap.size ∧ J pre wr) (fun p q _ => lenOf p + lenOf q)
  case atStart =>
    exact ⟨[], xs, ys, a, b, ca, cb, -1, rfl, rfl, hca, hcb, hla, hlb, unhide HUA, unhide HUB, (unhide HSA).below (below_drew (Below.refl _ _)), (unhide HSB).below (below_drew (Below.refl _ _)), (unhide HL).symm, hn₀, unhide HJ _ _ _ h0 (below_drew (Below.refl _ _))⟩
  case round =>
    obtain ⟨pre, x', y', a', b', ca', cb', m, rfl, rfl, h1, h2, h3, h4, hux, huy, hsx, hsy, hL1, hw0, hJ1⟩ := hrel
    have HUX := hide hux
    have HUY := hide huy
    have HSX := hide hsx
    have HSY := hide hsy
    have HL1 := hide hL1
    have HJ1 := hide hJ1
    have KX := hide fun W' (h : Sl W' a' x') => first_in Fence.wide (n - 1) trivial rfl a' ca' x' (by omega) W' h
    have KY := hide fun W' (h : Sl W' b' y') => first_in Fence.wide (n - 1) trivial rfl b' cb' y' (by omega) W' h
    clear hux huy hsx hsy hL1 hJ1 HUA HUB HL HSA HSB hB1 hB2 h0
    rcases Int.lt_trichotomy (Vc.first x') (Vc.first y') with hlt | heq | hgt
    · cases x' with
      | nil => exact absurd (first_le (unhide HUY)) (by have : (64 : Int) < Vc.first y' := hlt; omega)
      | cons d x1 =>
        obtain ⟨p, c⟩ := d
        obtain ⟨g, o, rfl, hg, hcell⟩ := unhide HSX (by simp)
        obtain ⟨A1, hsl, hA1⟩ := slice1 g o x1.length ca' h1
        have HT := hide ((unhide HSX).cut hA1)
        clear hA1
        have c0 : wr.cell? ⟨g, o, none⟩ = some (.int .i64 p) := (hcell 0 _ rfl).1
        have c1 : wr.cell? ⟨g, o + 1, none⟩ = some (.int .i64 c) := (hcell 0 _ rfl).2
        have HG := hide hg
        clear hg hcell
        have hfx : Vc.first ((p, c) :: x1) = p := rfl
        rw [hfx] at hlt KX
        clear hfx
        have hlt0 := hide hlt
        obtain ⟨fy, hfy⟩ : ∃ fy, Vc.first y' = fy := ⟨_, rfl⟩
        rw [hfy] at hlt KY
        clear hfy
        have hmn : min p fy = p := by omega
        rw [List.length_cons] at KX ⊢ h1 h3
        gi_wp2_with fail
        refine ⟨fun _ => by omega, (unhide KX wr ((unhide HSX).sl hw0)).mono ?_⟩
        rintro e w1 ⟨rfl, hw⟩
        have hw' := hw.symm
        subst hw'
        gi_wp2_with fail
        refine ⟨fun _ => by omega, (unhide KY wr ((unhide HSY).sl hw0)).mono ?_⟩
        rintro e w1 ⟨rfl, hw⟩
        have hw' := hw.symm
        subst hw'
        gi_wp2_with fail
        have HB2 := hide (((Below.refl wr.heap.size wr).alloc (Nat.le_refl _) (.cells #[.int .i64 p, .int .i64 0] 58)).alloc (by simp) (.cells #[.int .i64 p, .int .i64 0] 58))
        refine ⟨fun _ => by omega, (unhide KX _ (((unhide HSX).sl hw0).after (unhide HB2))).mono ?_⟩
        rintro e w1 ⟨rfl, hw⟩
        have hw' := hw.symm
        subst hw'
        have c0' := ((unhide HB2).cell (block_lt_of_cell c0)).trans c0
        have c1' := ((unhide HB2).cell (block_lt_of_cell c1)).trans c1
        gi_wp2_with fail
        gi_region
        gi_wp2_with fail
        have HB3 := hide (below_drew (((Below.refl wr.heap.size wr).alloc (Nat.le_refl _) (.cells #[.int .i64 p, .int .i64 c] 58)).alloc (by simp) (.cells #[.int .i64 p, .int .i64 0] 58)))
        refine ⟨fun _ => by omega, (unhide KY _ (((unhide HSY).sl hw0).after (unhide HB3))).mono ?_⟩
        rintro e w1 ⟨rfl, hw⟩
        have hw' := hw.symm
        subst hw'
        have hlen : pre.length < 128 := by
          have := unhide HLl
          rw [unhide HL1, List.length_append, Vc.sides_left (p, c) x1 y' (unhide hlt0), List.length_cons] at this
          omega
        obtain ⟨fn, tmps, assign, body, hy, hR⟩ := unhide HY pre ((p, c), (p, 0)) _ (unhide HJ _ _ _ (unhide HJ1) (unhide HB3)) hlen
        have hne : (fy == p) = false := by rw [beq_eq_false_iff_ne]; omega
        simp only [dotV] at hy
        gi_wp2_with fail
        refine ⟨fun _ => by omega, hR.mono ?_⟩
        rintro e W3 (⟨rfl, hJ3, hk3⟩ | ⟨rfl, hJx3⟩)
        · have HB4 := hide (((unhide HB3).mono hw0).trans hk3)
          have HJ3 := hide hJ3
          clear hJ3 hk3 hy hR c0 c1 c0' c1' hsl
          gi_wp2_with fail
          go_roundw
          case rel => exact ⟨pre ++ [((p, c), (p, 0))], x1, y', A1, b', ca' - 1, cb', p, rfl, rfl, by omega, h2, by omega, h4, (unhide HUX).2.2, up_first (unhide HUY) (unhide hlt0), (unhide HT).below (unhide HB4), (unhide HSY).below (unhide HB4), by rw [unhide HL1, Vc.sides_left (p, c) x1 y' (unhide hlt0)]; simp, Nat.le_trans hw0 (unhide HB4).size, unhide HJ3⟩
          case measure => simp only [lenOf]; omega
        · have HJx3 := hide hJx3
          clear hJx3 hy hR c0 c1 c0' c1' hsl
          gi_wp2_with fail
          refine bodyPost_ret (results_none rfl _ _ _) rfl ?_
          exact ⟨⟨_, rfl⟩, .inr ⟨pre ++ [((p, c), (p, 0))], prefix_one _ _ (Vc.sides x1 y') _ (by rw [unhide HL1, Vc.sides_left (p, c) x1 y' (unhide hlt0)]), unhide HJx3⟩⟩
    · cases x' with
      | nil =>
        cases y' with
        | nil =>
          rw [show Vc.sides [] [] = [] by rw [Vc.sides], List.append_nil] at HL1
          gi_wp2_with fail
          go_end0
          exact ⟨⟨_, rfl⟩, .inl (by rw [unhide HL1]; exact unhide HJ1)⟩
        | cons d y1 => exact absurd (first_cons (unhide HUY)) (by have : (64 : Int) = d.1 := heq; omega)
      | cons d x1 =>
        cases y' with
        | nil => exact absurd (first_cons (unhide HUX)) (by have : d.1 = (64 : Int) := heq; omega)
        | cons d' y1 =>
          obtain ⟨p, c⟩ := d
          obtain ⟨p', c'⟩ := d'
          have hpp : p = p' := heq
          subst hpp
          obtain ⟨g, o, rfl, hg, hcell⟩ := unhide HSX (by simp)
          obtain ⟨g2, o2, rfl, hg2, hcell2⟩ := unhide HSY (by simp)
          obtain ⟨A1, hsl, hA1⟩ := slice1 g o x1.length ca' h1
          have HT := hide ((unhide HSX).cut hA1)
          clear hA1
          obtain ⟨A2, hsl2, hA2⟩ := slice1 g2 o2 y1.length cb' h2
          have HT2 := hide ((unhide HSY).cut hA2)
          clear hA2
          have c0 : wr.cell? ⟨g, o, none⟩ = some (.int .i64 p) := (hcell 0 _ rfl).1
          have c1 : wr.cell? ⟨g, o + 1, none⟩ = some (.int .i64 c) := (hcell 0 _ rfl).2
          have c2 : wr.cell? ⟨g2, o2, none⟩ = some (.int .i64 p) := (hcell2 0 _ rfl).1
          have c3 : wr.cell? ⟨g2, o2 + 1, none⟩ = some (.int .i64 c') := (hcell2 0 _ rfl).2
          clear hg hcell hg2 hcell2 heq
          have hfx : Vc.first ((p, c) :: x1) = p := rfl
          have hfy : Vc.first ((p, c') :: y1) = p := rfl
          rw [hfx] at KX
          rw [hfy] at KY
          clear hfx hfy
          have hmn : min p p = p := by omega
          rw [List.length_cons] at KX h1 h3
          rw [List.length_cons] at KY h2 h4
          rw [List.length_cons, List.length_cons]
          gi_wp2_with fail
          refine ⟨fun _ => by omega, (unhide KX wr ((unhide HSX).sl hw0)).mono ?_⟩
          rintro e w1 ⟨rfl, hw⟩
          have hw' := hw.symm
          subst hw'
          gi_wp2_with fail
          refine ⟨fun _ => by omega, (unhide KY wr ((unhide HSY).sl hw0)).mono ?_⟩
          rintro e w1 ⟨rfl, hw⟩
          have hw' := hw.symm
          subst hw'
          gi_wp2_with fail
          have HB2 := hide (((Below.refl wr.heap.size wr).alloc (Nat.le_refl _) (.cells #[.int .i64 p, .int .i64 0] 58)).alloc (by simp) (.cells #[.int .i64 p, .int .i64 0] 58))
          refine ⟨fun _ => by omega, (unhide KX _ (((unhide HSX).sl hw0).after (unhide HB2))).mono ?_⟩
          rintro e w1 ⟨rfl, hw⟩
          have hw' := hw.symm
          subst hw'
          have c0' := ((unhide HB2).cell (block_lt_of_cell c0)).trans c0
          have c1' := ((unhide HB2).cell (block_lt_of_cell c1)).trans c1
          gi_wp2_with fail
          gi_region
          gi_wp2_with fail
          have HB3 := hide (below_drew (((Below.refl wr.heap.size wr).alloc (Nat.le_refl _) (.cells #[.int .i64 p, .int .i64 c] 58)).alloc (by simp) (.cells #[.int .i64 p, .int .i64 0] 58)))
          refine ⟨fun _ => by omega, (unhide KY _ (((unhide HSY).sl hw0).after (unhide HB3))).mono ?_⟩
          rintro e w1 ⟨rfl, hw⟩
          have hw' := hw.symm
          subst hw'
          have c2' := ((unhide HB3).cell (block_lt_of_cell c2)).trans c2
          have c3' := ((unhide HB3).cell (block_lt_of_cell c3)).trans c3
          gi_wp2_with fail
          gi_region
          have HB5 := hide (below_drew (below_drew (((Below.refl wr.heap.size wr).alloc (Nat.le_refl _) (.cells #[.int .i64 p, .int .i64 c] 58)).alloc (by simp) (.cells #[.int .i64 p, .int .i64 c'] 58))))
          have hlen : pre.length < 128 := by
            have := unhide HLl
            rw [unhide HL1, List.length_append, Vc.sides_both (p, c) (p, c') x1 y1 rfl, List.length_cons] at this
            omega
          obtain ⟨fn, tmps, assign, body, hy, hR⟩ := unhide HY pre ((p, c), (p, c')) _ (unhide HJ _ _ _ (unhide HJ1) (unhide HB5)) hlen
          simp only [dotV] at hy
          gi_wp2_with fail
          refine ⟨fun _ => by omega, hR.mono ?_⟩
          rintro e W3 (⟨rfl, hJ3, hk3⟩ | ⟨rfl, hJx3⟩)
          · have HB4 := hide (((unhide HB5).mono hw0).trans hk3)
            have HJ3 := hide hJ3
            clear hJ3 hk3 hy hR c0 c1 c0' c1' c2 c3 c2' c3' hsl hsl2
            gi_wp2_with fail
            go_roundw
            case rel => exact ⟨pre ++ [((p, c), (p, c'))], x1, y1, A1, A2, ca' - 1, cb' - 1, p, rfl, rfl, by omega, by omega, by omega, by omega, (unhide HUX).2.2, (unhide HUY).2.2, (unhide HT).below (unhide HB4), (unhide HT2).below (unhide HB4), by rw [unhide HL1, Vc.sides_both (p, c) (p, c') x1 y1 rfl]; simp, Nat.le_trans hw0 (unhide HB4).size, unhide HJ3⟩
            case measure => simp only [lenOf]; omega
          · have HJx3 := hide hJx3
            clear hJx3 hy hR c0 c1 c0' c1' c2 c3 c2' c3' hsl hsl2
            gi_wp2_with fail
            refine bodyPost_ret (results_none rfl _ _ _) rfl ?_
            exact ⟨⟨_, rfl⟩, .inr ⟨pre ++ [((p, c), (p, c'))], prefix_one _ _ (Vc.sides x1 y1) _ (by rw [unhide HL1, Vc.sides_both (p, c) (p, c') x1 y1 rfl]), unhide HJx3⟩⟩
    · cases y' with
      | nil => exact absurd (first_le (unhide HUX)) (by have : (64 : Int) < Vc.first x' := hgt; omega)
      | cons d y1 =>
        obtain ⟨p, c⟩ := d
        obtain ⟨g, o, rfl, hg, hcell⟩ := unhide HSY (by simp)
        obtain ⟨A1, hsl, hA1⟩ := slice1 g o y1.length cb' h2
        have HT := hide ((unhide HSY).cut hA1)
        clear hA1
        have c0 : wr.cell? ⟨g, o, none⟩ = some (.int .i64 p) := (hcell 0 _ rfl).1
        have c1 : wr.cell? ⟨g, o + 1, none⟩ = some (.int .i64 c) := (hcell 0 _ rfl).2
        clear hg hcell
        have hfy : Vc.first ((p, c) :: y1) = p := rfl
        rw [hfy] at hgt KY
        clear hfy
        have hgt0 := hide hgt
        obtain ⟨fx, hfx⟩ : ∃ fx, Vc.first x' = fx := ⟨_, rfl⟩
        rw [hfx] at hgt KX
        clear hfx
        have hmn : min fx p = p := by omega
        have hne : (fx == p) = false := by rw [beq_eq_false_iff_ne]; omega
        have hlen : pre.length < 128 := by
          have := unhide HLl
          rw [unhide HL1, List.length_append, Vc.sides_right (p, c) x' y1 (unhide hgt0), List.length_cons] at this
          omega
        rw [List.length_cons] at KY h2 h4
        cases x' with
        | nil =>
          rw [List.length_nil] at KX h1 h3
          rw [List.length_nil, List.length_cons]
          gi_wp2_with fail
          refine ⟨fun _ => by omega, (unhide KX wr ((unhide HSX).sl hw0)).mono ?_⟩
          rintro e w1 ⟨rfl, hw⟩
          have hw' := hw.symm
          subst hw'
          gi_wp2_with fail
          refine ⟨fun _ => by omega, (unhide KY wr ((unhide HSY).sl hw0)).mono ?_⟩
          rintro e w1 ⟨rfl, hw⟩
          have hw' := hw.symm
          subst hw'
          gi_wp2_with fail
          have HB2 := hide (((Below.refl wr.heap.size wr).alloc (Nat.le_refl _) (.cells #[.int .i64 p, .int .i64 0] 58)).alloc (by simp) (.cells #[.int .i64 p, .int .i64 0] 58))
          refine ⟨fun _ => by omega, (unhide KX _ (((unhide HSX).sl hw0).after (unhide HB2))).mono ?_⟩
          rintro e w1 ⟨rfl, hw⟩
          have hw' := hw.symm
          subst hw'
          gi_wp2_with fail
          refine ⟨fun _ => by omega, (unhide KY _ (((unhide HSY).sl hw0).after (unhide HB2))).mono ?_⟩
          rintro e w1 ⟨rfl, hw⟩
          have hw' := hw.symm
          subst hw'
          have c0' := ((unhide HB2).cell (block_lt_of_cell c0)).trans c0
          have c1' := ((unhide HB2).cell (block_lt_of_cell c1)).trans c1
          gi_wp2_with fail
          gi_region
          have HB3 := hide (below_drew (((Below.refl wr.heap.size wr).alloc (Nat.le_refl _) (.cells #[.int .i64 p, .int .i64 0] 58)).alloc (by simp) (.cells #[.int .i64 p, .int .i64 c] 58)))
          obtain ⟨fn, tmps, assign, body, hy, hR⟩ := unhide HY pre ((p, 0), (p, c)) _ (unhide HJ _ _ _ (unhide HJ1) (unhide HB3)) hlen
          simp only [dotV] at hy
          gi_wp2_with fail
          refine ⟨fun _ => by omega, hR.mono ?_⟩
          rintro e W3 (⟨rfl, hJ3, hk3⟩ | ⟨rfl, hJx3⟩)
          · have HB4 := hide (((unhide HB3).mono hw0).trans hk3)
            have HJ3 := hide hJ3
            clear hJ3 hk3 hy hR c0 c1 c0' c1' hsl
            gi_wp2_with fail
            go_roundw
            case rel => exact ⟨pre ++ [((p, 0), (p, c))], [], y1, a', A1, ca', cb' - 1, p, rfl, rfl, h1, by omega, h3, by omega, up_first (unhide HUX) (unhide hgt0), (unhide HUY).2.2, (unhide HSX).below (unhide HB4), (unhide HT).below (unhide HB4), by rw [unhide HL1, Vc.sides_right (p, c) [] y1 (unhide hgt0)]; simp, Nat.le_trans hw0 (unhide HB4).size, unhide HJ3⟩
            case measure => simp only [lenOf]; omega
          · have HJx3 := hide hJx3
            clear hJx3 hy hR c0 c1 c0' c1' hsl
            gi_wp2_with fail
            refine bodyPost_ret (results_none rfl _ _ _) rfl ?_
            exact ⟨⟨_, rfl⟩, .inr ⟨pre ++ [((p, 0), (p, c))], prefix_one _ _ (Vc.sides [] y1) _ (by rw [unhide HL1, Vc.sides_right (p, c) [] y1 (unhide hgt0)]), unhide HJx3⟩⟩
        | cons e0 x2 =>
          rw [List.length_cons] at KX h1 h3
          rw [List.length_cons, List.length_cons]
          gi_wp2_with fail
          refine ⟨fun _ => by omega, (unhide KX wr ((unhide HSX).sl hw0)).mono ?_⟩
          rintro e w1 ⟨rfl, hw⟩
          have hw' := hw.symm
          subst hw'
          gi_wp2_with fail
          refine ⟨fun _ => by omega, (unhide KY wr ((unhide HSY).sl hw0)).mono ?_⟩
          rintro e w1 ⟨rfl, hw⟩
          have hw' := hw.symm
          subst hw'
          gi_wp2_with fail
          have HB2 := hide (((Below.refl wr.heap.size wr).alloc (Nat.le_refl _) (.cells #[.int .i64 p, .int .i64 0] 58)).alloc (by simp) (.cells #[.int .i64 p, .int .i64 0] 58))
          refine ⟨fun _ => by omega, (unhide KX _ (((unhide HSX).sl hw0).after (unhide HB2))).mono ?_⟩
          rintro e w1 ⟨rfl, hw⟩
          have hw' := hw.symm
          subst hw'
          gi_wp2_with fail
          refine ⟨fun _ => by omega, (unhide KY _ (((unhide HSY).sl hw0).after (unhide HB2))).mono ?_⟩
          rintro e w1 ⟨rfl, hw⟩
          have hw' := hw.symm
          subst hw'
          have c0' := ((unhide HB2).cell (block_lt_of_cell c0)).trans c0
          have c1' := ((unhide HB2).cell (block_lt_of_cell c1)).trans c1
          gi_wp2_with fail
          gi_region
          have HB3 := hide (below_drew (((Below.refl wr.heap.size wr).alloc (Nat.le_refl _) (.cells #[.int .i64 p, .int .i64 0] 58)).alloc (by simp) (.cells #[.int .i64 p, .int .i64 c] 58)))
          obtain ⟨fn, tmps, assign, body, hy, hR⟩ := unhide HY pre ((p, 0), (p, c)) _ (unhide HJ _ _ _ (unhide HJ1) (unhide HB3)) hlen
          simp only [dotV] at hy
          gi_wp2_with fail
          refine ⟨fun _ => by omega, hR.mono ?_⟩
          rintro e W3 (⟨rfl, hJ3, hk3⟩ | ⟨rfl, hJx3⟩)
          · have HB4 := hide (((unhide HB3).mono hw0).trans hk3)
            have HJ3 := hide hJ3
            clear hJ3 hk3 hy hR c0 c1 c0' c1' hsl
            gi_wp2_with fail
            go_roundw
            case rel => exact ⟨pre ++ [((p, 0), (p, c))], (e0 :: x2), y1, a', A1, ca', cb' - 1, p, rfl, rfl, h1, by omega, h3, by omega, up_first (unhide HUX) (unhide hgt0), (unhide HUY).2.2, (unhide HSX).below (unhide HB4), (unhide HT).below (unhide HB4), by rw [unhide HL1, Vc.sides_right (p, c) (e0 :: x2) y1 (unhide hgt0)]; simp, Nat.le_trans hw0 (unhide HB4).size, unhide HJ3⟩
            case measure => simp only [lenOf]; omega
          · have HJx3 := hide hJx3
            clear hJx3 hy hR c0 c1 c0' c1' hsl
            gi_wp2_with fail
            refine bodyPost_ret (results_none rfl _ _ _) rfl ?_
            exact ⟨⟨_, rfl⟩, .inr ⟨pre ++ [((p, 0), (p, c))], prefix_one _ _ (Vc.sides (e0 :: x2) y1) _ (by rw [unhide HL1, Vc.sides_right (p, c) (e0 :: x2) y1 (unhide hgt0)]), unhide HJx3⟩⟩
end Go.Proofs.Ytpfighkafmammaa
