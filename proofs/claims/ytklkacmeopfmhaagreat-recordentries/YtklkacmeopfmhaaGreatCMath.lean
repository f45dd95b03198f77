/-
  Plain facts on the bytes of a number (seven bits a byte, the lowest first) and on the number that a row of bytes begins with: no Go, no world.
-/
namespace Go.Proofs.YtklkacmeopfmhaaGreat.Cnt

def encK : Nat → Nat → List UInt8
  | 0, _ => []
  | k + 1, n => if n < 128 then [UInt8.ofNat n] else UInt8.ofNat (n % 128 + 128) :: encK k (n / 128)

def putL (n : Int) : List UInt8 := if 0 ≤ n ∧ n ≤ 1073741824 then encK 5 n.toNat else []

def num : List UInt8 → Nat
  | [] => 0
  | b :: r => b.toNat % 128 + 128 * num r

def fx (l : List UInt8) : Nat := l.findIdx fun b => decide (b.toNat < 128)

def takeF (l : List UInt8) : Int × Int × Int :=
  if fx l < 5 then
    if fx l < l.length then
      if 0 < fx l ∧ (l[fx l]?.getD 0).toNat = 0 then (0, 0, 7)
      else if 1073741824 < num (l.take (fx l + 1)) then (0, 0, 2)
      else ((num (l.take (fx l + 1)) : Nat), (fx l + 1 : Nat), 0)
    else (0, 0, 5)
  else (0, 0, 2)

theorem fx_le (l : List UInt8) : fx l ≤ l.length := List.findIdx_le_length

theorem fx_before (l : List UInt8) (j : Nat) (h : j < fx l) : 128 ≤ (l[j]?.getD 0).toNat := by
  have hl : j < l.length := Nat.lt_of_lt_of_le h (fx_le l)
  have := List.not_of_lt_findIdx (p := fun b : UInt8 => decide (b.toNat < 128)) (xs := l) h
  rw [List.getElem?_eq_getElem hl]
  simp at this ⊢
  omega

theorem fx_at (l : List UInt8) (h : fx l < l.length) : (l[fx l]?.getD 0).toNat < 128 := by
  have := List.findIdx_getElem (p := fun b : UInt8 => decide (b.toNat < 128)) (xs := l) (w := h)
  rw [List.getElem?_eq_getElem h, Option.getD_some]
  exact of_decide_eq_true this

/-- What fixes fx. -/
theorem fx_eq (l : List UInt8) (k : Nat) (hk : k < l.length) (h1 : ∀ j, j < k → 128 ≤ (l[j]?.getD 0).toNat) (h2 : (l[k]?.getD 0).toNat < 128) : fx l = k := by
  rcases Nat.lt_trichotomy (fx l) k with h | h | h
  · have := h1 _ h; have := fx_at l (by omega); omega
  · exact h
  · have := fx_before l k h; omega

theorem num_lt (l : List UInt8) : num l < 128 ^ l.length := by
  induction l with
  | nil => simp [num]
  | cons b r ih => simp only [num, List.length_cons, Nat.pow_succ]; omega

theorem num_append (l : List UInt8) (b : UInt8) : num (l ++ [b]) = num l + b.toNat % 128 * 128 ^ l.length := by
  induction l with
  | nil => simp [num]
  | cons c r ih =>
    simp only [List.cons_append, num, ih, List.length_cons, Nat.pow_succ, Nat.mul_add]
    rw [← Nat.add_assoc, Nat.mul_left_comm, Nat.mul_comm (128 ^ r.length) 128]

theorem num_take (l : List UInt8) (i : Nat) (h : i < l.length) : num (l.take (i + 1)) = num (l.take i) + (l[i]?.getD 0).toNat % 128 * 128 ^ i := by
  rw [List.take_succ_eq_append_getElem h, num_append, List.getElem?_eq_getElem h]
  simp [Nat.min_eq_left (Nat.le_of_lt h)]

theorem num_drop (l : List UInt8) (i : Nat) (h : i < l.length) : num (l.drop i) = (l[i]?.getD 0).toNat % 128 + 128 * num (l.drop (i + 1)) := by
  rw [List.drop_eq_getElem_cons h, num, List.getElem?_eq_getElem h]
  simp

theorem pow_le5 (i : Nat) (h : i ≤ 5) : 128 ^ i ≤ 34359738368 := by
  have : 128 ^ i ≤ 128 ^ 5 := Nat.pow_le_pow_right (by decide) h
  simpa using this

theorem num_le5 (l : List UInt8) (h : l.length ≤ 5) : num l < 34359738368 :=
  Nat.lt_of_lt_of_le (num_lt l) (pow_le5 _ h)

/-! ### the bytes of a number -/
theorem u8_lt {n : Nat} (h : n < 256) : (UInt8.ofNat n).toNat = n := by simp; omega

theorem encK_ne (k n : Nat) : encK (k + 1) n ≠ [] := by unfold encK; split <;> simp

theorem encK_len (k n : Nat) : (encK k n).length ≤ k := by
  induction k generalizing n with
  | zero => simp [encK]
  | succ k ih => unfold encK; split; · simp
                 · have := ih (n / 128); simp; omega

theorem encK_num (k n : Nat) (h : n < 128 ^ k) : num (encK k n) = n := by
  induction k generalizing n with
  | zero => simp at h; subst h; rfl
  | succ k ih =>
    unfold encK
    split
    · rename_i hn; simp only [num]; rw [u8_lt (by omega)]; omega
    · rename_i hn
      have hd : n / 128 < 128 ^ k := by rw [Nat.div_lt_iff_lt_mul (by decide)]; rw [Nat.pow_succ] at h; exact h
      simp only [num]; rw [u8_lt (by omega), ih _ hd]; omega

/-- All but the last are 128 at least, the last is less; and it is not nought if it is not the first. -/
theorem encK_fx (k n : Nat) (h : n < 128 ^ k) (hk : 0 < k) (b : List UInt8) : fx (encK k n ++ b) + 1 = (encK k n).length := by
  induction k generalizing n with
  | zero => omega
  | succ k ih =>
    unfold encK
    split
    · rename_i hn
      have : fx ([UInt8.ofNat n] ++ b) = 0 := fx_eq _ 0 (by simp) (by intro j hj; omega) (by simp; omega)
      rw [this]; simp
    · rename_i hn
      have hd : n / 128 < 128 ^ k := by rw [Nat.div_lt_iff_lt_mul (by decide)]; rw [Nat.pow_succ] at h; exact h
      have hk0 : 0 < k := by
        rcases Nat.eq_zero_or_pos k with h0 | h0
        · subst h0; simp at hd; omega
        · exact h0
      have := ih (n / 128) hd hk0
      have e : fx (UInt8.ofNat (n % 128 + 128) :: encK k (n / 128) ++ b) = fx (encK k (n / 128) ++ b) + 1 := by
        unfold fx
        rw [List.cons_append, List.findIdx_cons, u8_lt (by omega), show decide (n % 128 + 128 < 128) = false from by simp]
        rfl
      rw [e, this]; simp

theorem encK_last (k n : Nat) (h : n < 128 ^ k) (hn : 128 ≤ n) : ((encK k n).getLast?.getD 1).toNat ≠ 0 := by
  induction k generalizing n with
  | zero => simp at h; omega
  | succ k ih =>
    unfold encK
    rw [if_neg (by omega)]
    have hd : n / 128 < 128 ^ k := by rw [Nat.div_lt_iff_lt_mul (by decide)]; rw [Nat.pow_succ] at h; exact h
    cases k with
    | zero => simp at hd; omega
    | succ k =>
      rw [List.getLast?_cons_of_ne_nil (encK_ne k _)]
      by_cases hs : n / 128 < 128
      · unfold encK; rw [if_pos hs]; simp; omega
      · exact ih _ hd (by omega)

theorem encK_one (k n : Nat) (h : n < 128) : encK (k + 1) n = [UInt8.ofNat n] := by unfold encK; rw [if_pos h]

/-- What was taken is what is put. -/
theorem encK_back (k : Nat) (l : List UInt8) (hl : l.length ≤ k) (h0 : fx l + 1 = l.length) (hz : 0 < fx l → (l[fx l]?.getD 0).toNat ≠ 0) : encK k (num l) = l := by
  induction k generalizing l with
  | zero => omega
  | succ k ih =>
    cases l with
    | nil => simp at h0
    | cons b r =>
      by_cases hb : b.toNat < 128
      · have e : fx (b :: r) = 0 := fx_eq _ 0 (by simp) (by intro j hj; omega) (by simpa using hb)
        rw [e] at h0
        have : r = [] := by simpa using h0
        subst this
        simp only [num]
        rw [show b.toNat % 128 + 128 * 0 = b.toNat from by omega, encK_one _ _ hb]
        simp
      · have e : fx (b :: r) = fx r + 1 := by unfold fx; rw [List.findIdx_cons]; simp [hb]
        rw [e] at h0 hz
        have hr : fx r + 1 = r.length := by simpa using h0
        have hz' := hz (by omega)
        rw [List.getElem?_cons_succ] at hz'
        have ih' := ih r (by simpa using hl) hr (fun _ => hz')
        have hnr : num r ≠ 0 := by
          intro h
          rw [h] at ih'
          cases k with
          | zero => simp [encK] at ih'; subst ih'; simp at hr
          | succ k =>
            rw [encK_one _ _ (by omega)] at ih'
            subst ih'
            have : fx [UInt8.ofNat 0] = 0 := by decide
            rw [this] at hz'
            simp at hz'
        have hb2 : b.toNat < 256 := b.toNat_lt
        simp only [num]
        unfold encK
        rw [if_neg (by omega), show (b.toNat % 128 + 128 * num r) % 128 + 128 = b.toNat from by omega, show (b.toNat % 128 + 128 * num r) / 128 = num r from by omega, ih']
        simp

theorem encK_mono (k a b : Nat) (h : a ≤ b) : (encK k a).length ≤ (encK k b).length := by
  induction k generalizing a b with
  | zero => simp [encK]
  | succ k ih =>
    unfold encK
    by_cases hb : b < 128
    · rw [if_pos hb, if_pos (by omega)]; simp
    · by_cases ha : a < 128
      · rw [if_pos ha, if_neg hb]; simp
      · rw [if_neg ha, if_neg hb]; have := ih (a / 128) (b / 128) (Nat.div_le_div_right h); simpa using this

theorem encK_pos (k n : Nat) : 1 ≤ (encK (k + 1) n).length := by
  have := encK_ne k n
  cases h : encK (k + 1) n with
  | nil => exact (this h).elim
  | cons => simp

/-! ### put, take -/
theorem putL_no (n : Int) (h : n < 0 ∨ 1073741824 < n) : putL n = [] := by unfold putL; rw [if_neg (by omega)]
theorem putL_yes (n : Int) (h0 : 0 ≤ n) (h1 : n ≤ 1073741824) : putL n = encK 5 n.toNat := by unfold putL; rw [if_pos ⟨h0, h1⟩]
theorem putL_len (n : Int) : (putL n).length ≤ 5 := by unfold putL; split; · exact encK_len _ _
                                                       · simp

theorem putL_small (n : Int) (h0 : 0 ≤ n) (h1 : n < 128) : putL n = [UInt8.ofNat n.toNat] := by
  rw [putL_yes n h0 (by omega), encK_one _ _ (by omega)]

theorem encK_more (k n : Nat) (h : n < 128 ^ k) : encK (k + 1) n = encK k n ∨ (k = 0) := by
  induction k generalizing n with
  | zero => exact .inr rfl
  | succ k ih =>
    refine .inl ?_
    by_cases hn : n < 128
    · rw [encK_one _ _ hn, encK_one _ _ hn]
    · have e1 : encK (k + 1 + 1) n = UInt8.ofNat (n % 128 + 128) :: encK (k + 1) (n / 128) := by conv => lhs; unfold encK
                                                                                                 rw [if_neg hn]
      have e2 : encK (k + 1) n = UInt8.ofNat (n % 128 + 128) :: encK k (n / 128) := by conv => lhs; unfold encK
                                                                                       rw [if_neg hn]
      rw [e1, e2]
      have hd : n / 128 < 128 ^ k := by rw [Nat.div_lt_iff_lt_mul (by decide)]; rw [Nat.pow_succ] at h; exact h
      rcases ih (n / 128) hd with e | e
      · rw [e]
      · subst e; simp at hd; omega

theorem putL_big (n : Int) (h0 : 128 ≤ n) (h1 : n ≤ 1073741824) : putL n = UInt8.ofNat (n.toNat % 128 + 128) :: putL (n / 128) := by
  rw [putL_yes n (by omega) h1, putL_yes (n / 128) (by omega) (by omega), encK, if_neg (by omega)]
  have : (n / 128).toNat = n.toNat / 128 := by omega
  rw [this]
  rcases encK_more 4 (n.toNat / 128) (by omega) with e | e
  · rw [e]
  · omega

theorem takeF_put (n : Int) (h0 : 0 ≤ n) (h1 : n ≤ 1073741824) (b : List UInt8) : takeF (putL n ++ b) = (n, ((putL n).length : Int), 0) := by
  rw [putL_yes n h0 h1]
  have hlt : n.toNat < 128 ^ 5 := by omega
  have hf := encK_fx 5 n.toNat hlt (by decide) b
  have hn := encK_num 5 n.toNat hlt
  have hl := encK_len 5 n.toNat
  unfold takeF
  rw [if_pos (by omega), if_pos (by simp; omega)]
  have ht : (encK 5 n.toNat ++ b).take (fx (encK 5 n.toNat ++ b) + 1) = encK 5 n.toNat := by rw [hf]; simp
  have hlast : ¬ (0 < fx (encK 5 n.toNat ++ b) ∧ ((encK 5 n.toNat ++ b)[fx (encK 5 n.toNat ++ b)]?.getD 0).toNat = 0) := by
    rintro ⟨hp, hz⟩
    have hbig : 128 ≤ n.toNat := by
      rcases Nat.lt_or_ge n.toNat 128 with h | h
      · have h1' : (encK 5 n.toNat).length = 1 := by rw [encK_one 4 _ h]; rfl
        omega
      · exact h
    have := encK_last 5 n.toNat hlt hbig
    rw [List.getElem?_append_left (by omega)] at hz
    rw [List.getLast?_eq_getElem?, show (encK 5 n.toNat).length - 1 = fx (encK 5 n.toNat ++ b) from by omega] at this
    rw [List.getElem?_eq_getElem (by omega)] at hz this
    simp at hz this
    exact this hz
  rw [if_neg hlast, ht, hn, if_neg (by omega)]
  refine Prod.ext ?_ (Prod.ext ?_ rfl)
  · show ((n.toNat : Nat) : Int) = n; omega
  · show ((fx (encK 5 n.toNat ++ b) + 1 : Nat) : Int) = _; rw [hf]

theorem takeF_err (l : List UInt8) (h : (takeF l).2.2 ≠ 0) : (takeF l).1 = 0 ∧ (takeF l).2.1 = 0 := by
  unfold takeF at h ⊢
  split
  · split
    · split
      · exact ⟨rfl, rfl⟩
      · split
        · exact ⟨rfl, rfl⟩
        · rename_i a b c d
          rw [if_pos a, if_pos b, if_neg c, if_neg d] at h
          exact (h rfl).elim
    · exact ⟨rfl, rfl⟩
  · exact ⟨rfl, rfl⟩

/-- What a taken number is put as. -/
theorem takeF_ok (l : List UInt8) (h : (takeF l).2.2 = 0) : 1 ≤ (takeF l).2.1 ∧ (takeF l).2.1 ≤ l.length ∧ putL (takeF l).1 = l.take (takeF l).2.1.toNat := by
  by_cases h5 : fx l < 5
  · by_cases hl : fx l < l.length
    · by_cases hz : 0 < fx l ∧ (l[fx l]?.getD 0).toNat = 0
      · simp only [takeF, if_pos h5, if_pos hl, if_pos hz] at h; simp at h
      · by_cases hm : 1073741824 < num (l.take (fx l + 1))
        · simp only [takeF, if_pos h5, if_pos hl, if_neg hz, if_pos hm] at h; simp at h
        · simp only [takeF, if_pos h5, if_pos hl, if_neg hz, if_neg hm]
          refine ⟨by omega, by omega, ?_⟩
          rw [putL_yes _ (by omega) (by omega)]
          simp only [Int.toNat_natCast]
          have hlen : (l.take (fx l + 1)).length = fx l + 1 := by simp; omega
          have hg : ∀ j, j ≤ fx l → (l.take (fx l + 1))[j]? = l[j]? := by
            intro j hj; rw [List.getElem?_take]; rw [if_pos (by omega)]
          have hfx : fx (l.take (fx l + 1)) = fx l := by
            refine fx_eq _ _ (by omega) (fun j hj => ?_) ?_
            · rw [hg j (by omega)]; exact fx_before l j hj
            · rw [hg _ (Nat.le_refl _)]; exact fx_at l hl
          refine encK_back 5 _ (by omega) (by omega) ?_
          rw [hfx, hg _ (Nat.le_refl _)]
          intro hp hz'
          exact hz ⟨hp, hz'⟩
    · simp [takeF, h5, hl] at h
  · simp [takeF, h5] at h

theorem putL_mono (a b : Int) (ha : 0 ≤ a) (hab : a ≤ b) (hb : b ≤ 1073741824) : (putL a).length ≤ (putL b).length ∧ 1 ≤ (putL a).length := by
  rw [putL_yes a ha (by omega), putL_yes b (by omega) hb]
  exact ⟨encK_mono _ _ _ (by omega), encK_pos _ _⟩

end Go.Proofs.YtklkacmeopfmhaaGreat.Cnt
