/-
  Plain facts on the common sum of 32 bits over rows of bytes: its step is linear and loses nothing; what is turned within four bytes is seen. No Go, no world.
-/
namespace Go.Proofs.Ythecijjmgfempaa.Cr.Crc

def F (v : Nat) : Nat := if v % 2 = 1 then v / 2 ^^^ 3988292384 else v / 2
def Fn : Nat → Nat → Nat
  | 0, v => v
  | k + 1, v => F (Fn k v)
def feed (v : Nat) (b : UInt8) : Nat := Fn 8 (v ^^^ b.toNat)
def reg (v : Nat) (l : List UInt8) : Nat := l.foldl feed v
def sum (l : List UInt8) : Nat := 4294967295 - reg 4294967295 l
def le : Nat → Nat → List UInt8
  | 0, _ => []
  | k + 1, x => UInt8.ofNat (x % 256) :: le k (x / 256)

theorem F_odd (v : Nat) (h : v % 2 = 1) : F v = v / 2 ^^^ 3988292384 := by unfold F; rw [if_pos h]
theorem F_even (v : Nat) (h : v % 2 = 0) : F v = v / 2 := by unfold F; rw [if_neg (by omega)]

theorem F_lt (v : Nat) (h : v < 4294967296) : F v < 4294967296 := by
  unfold F
  split
  · exact Nat.xor_lt_two_pow (n := 32) (by omega) (by decide)
  · omega

theorem Fn_lt (k v : Nat) (h : v < 4294967296) : Fn k v < 4294967296 := by
  induction k with
  | zero => exact h
  | succ k ih => exact F_lt _ ih

theorem F_xor (a b : Nat) : F (a ^^^ b) = F a ^^^ F b := by
  have hd : (a ^^^ b) / 2 = a / 2 ^^^ b / 2 := Nat.xor_div_two
  have hm := @Nat.xor_mod_two_eq_one a b
  unfold F
  rw [hd]
  rcases Nat.mod_two_eq_zero_or_one a with ha | ha <;> rcases Nat.mod_two_eq_zero_or_one b with hb | hb
  · rw [if_neg (by rw [hm]; omega), if_neg (by omega), if_neg (by omega)]
  · rw [if_pos (by rw [hm]; omega), if_neg (by omega), if_pos hb, Nat.xor_assoc]
  · rw [if_pos (by rw [hm]; omega), if_pos ha, if_neg (by omega), Nat.xor_assoc, Nat.xor_assoc, Nat.xor_comm (b / 2)]
  · rw [if_neg (by rw [hm]; omega), if_pos ha, if_pos hb, Nat.xor_assoc, Nat.xor_comm (b / 2) _, ← Nat.xor_assoc 3988292384, Nat.xor_self, Nat.zero_xor]

theorem Fn_xor (k a b : Nat) : Fn k (a ^^^ b) = Fn k a ^^^ Fn k b := by
  induction k with
  | zero => rfl
  | succ k ih => show F _ = F _ ^^^ F _; rw [ih, F_xor]

theorem xor_zero_eq (a b : Nat) (h : a ^^^ b = 0) : a = b := by
  have h2 : a ^^^ b ^^^ b = 0 ^^^ b := by rw [h]
  rwa [Nat.xor_assoc, Nat.xor_self, Nat.xor_zero, Nat.zero_xor] at h2

theorem F_zero (v : Nat) (hv : v < 4294967296) (h : F v = 0) : v = 0 := by
  unfold F at h
  split at h
  · have := xor_zero_eq _ _ h; omega
  · omega

theorem Fn_zero (k v : Nat) (hv : v < 4294967296) (h : Fn k v = 0) : v = 0 := by
  induction k with
  | zero => exact h
  | succ k ih => exact ih (F_zero _ (Fn_lt k v hv) h)

theorem Fn_inj (k a b : Nat) (ha : a < 4294967296) (hb : b < 4294967296) (h : Fn k a = Fn k b) : a = b := by
  have h0 : Fn k (a ^^^ b) = 0 := by rw [Fn_xor, h, Nat.xor_self]
  exact xor_zero_eq _ _ (Fn_zero k _ (Nat.xor_lt_two_pow (n := 32) ha hb) h0)

theorem Fn_add (j k v : Nat) : Fn (j + k) v = Fn j (Fn k v) := by
  induction j with
  | zero => rw [Nat.zero_add]; rfl
  | succ j ih => rw [Nat.succ_add]; show F _ = F _; rw [ih]

theorem F_two (y : Nat) : F (y * 2) = y := by rw [F_even _ (by omega)]; omega

theorem Fn_up (k y : Nat) : Fn k (y * 2 ^ k) = y := by
  induction k generalizing y with
  | zero => simp [Fn]
  | succ k ih =>
    show F (Fn k _) = y
    rw [Nat.pow_succ, Nat.mul_comm (2 ^ k) 2, ← Nat.mul_assoc, ih, F_two]

theorem feed_lt (v : Nat) (b : UInt8) (h : v < 4294967296) : feed v b < 4294967296 :=
  Fn_lt 8 _ (Nat.xor_lt_two_pow (n := 32) h (by have := b.toNat_lt; omega))

theorem reg_lt (l : List UInt8) : ∀ v, v < 4294967296 → reg v l < 4294967296 := by
  induction l with
  | nil => exact fun _ h => h
  | cons b r ih => exact fun v h => ih _ (feed_lt v b h)

theorem reg_append (v : Nat) (l m : List UInt8) : reg v (l ++ m) = reg (reg v l) m := by simp [reg]
theorem reg_snoc (v : Nat) (l : List UInt8) (b : UInt8) : reg v (l ++ [b]) = feed (reg v l) b := by rw [reg_append]; rfl

theorem feed_xor (u v : Nat) (a b : UInt8) : feed (u ^^^ v) (a ^^^ b) = feed u a ^^^ feed v b := by
  unfold feed
  rw [← Fn_xor, UInt8.toNat_xor]
  congr 1
  ac_rfl

theorem reg_xor (l : List UInt8) : ∀ (m : List UInt8) (u v : Nat), l.length = m.length → reg (u ^^^ v) (List.zipWith (· ^^^ ·) l m) = reg u l ^^^ reg v m := by
  induction l with
  | nil => intro m u v h; cases m with | nil => rfl | cons => cases h
  | cons a r ih =>
    intro m u v h
    cases m with
    | nil => cases h
    | cons b s =>
      show reg (feed (u ^^^ v) (a ^^^ b)) _ = reg (feed u a) r ^^^ reg (feed v b) s
      rw [feed_xor]
      exact ih s _ _ (by simpa using h)

theorem low_high (x : Nat) : x % 256 ^^^ x / 256 * 2 ^ 8 = x := by
  apply Nat.eq_of_testBit_eq
  intro i
  rw [Nat.testBit_xor, show (256 : Nat) = 2 ^ 8 from rfl, Nat.testBit_mod_two_pow, Nat.testBit_mul_two_pow, Nat.testBit_div_two_pow]
  by_cases h : i < 8
  · simp [h, Nat.not_le.2 h]
  · have : 8 ≤ i := by omega
    simp [h, this]

theorem reg_le (k : Nat) : ∀ (v x : Nat), x < 256 ^ k → reg v (le k x) = Fn (8 * k) (v ^^^ x) := by
  induction k with
  | zero => intro v x h; obtain rfl : x = 0 := by simpa using h
            rw [Nat.xor_zero]; rfl
  | succ k ih =>
    intro v x h
    have hb : (UInt8.ofNat (x % 256)).toNat = x % 256 := by rw [UInt8.toNat_ofNat']; exact Nat.mod_eq_of_lt (Nat.mod_lt _ (by decide))
    show reg (Fn 8 (v ^^^ (UInt8.ofNat (x % 256)).toNat)) (le k (x / 256)) = _
    rw [ih _ _ (by rw [Nat.pow_succ] at h; omega), hb, Nat.mul_succ, Fn_add]
    congr 1
    have e : Fn 8 (x / 256 * 2 ^ 8) = x / 256 := Fn_up 8 _
    rw [show Fn 8 (v ^^^ x % 256) ^^^ x / 256 = Fn 8 (v ^^^ x % 256) ^^^ Fn 8 (x / 256 * 2 ^ 8) from by rw [e], ← Fn_xor, Nat.xor_assoc, low_high]

theorem compl_xor (r : Nat) (h : r < 4294967296) : 4294967295 - r = r ^^^ 4294967295 := by
  apply Nat.eq_of_testBit_eq
  intro i
  have h1 := @Nat.testBit_two_pow_sub_succ r 32 h i
  have e : (2 : Nat) ^ 32 - (r + 1) = 4294967295 - r := by omega
  rw [e] at h1
  rw [h1, Nat.testBit_xor, show (4294967295 : Nat) = 2 ^ 32 - 1 from rfl, Nat.testBit_two_pow_sub_one]
  by_cases hi : i < 32
  · simp [hi]
  · have hr : r.testBit i = false := Nat.testBit_lt_two_pow (Nat.lt_of_lt_of_le h (Nat.pow_le_pow_right (n := 2) (by decide) (by omega : 32 ≤ i)))
    simp [hi, hr]

theorem sum_lt (l : List UInt8) : sum l < 4294967296 := by unfold sum; omega

theorem sum_xor (l : List UInt8) : sum l = reg 4294967295 l ^^^ 4294967295 := compl_xor _ (reg_lt l _ (by decide))

theorem together (a b c : List UInt8) (h1 : a.length = b.length) (h2 : b.length = c.length) :
    sum (List.zipWith (· ^^^ ·) (List.zipWith (· ^^^ ·) a b) c) = sum a ^^^ sum b ^^^ sum c := by
  have e : reg 4294967295 (List.zipWith (· ^^^ ·) (List.zipWith (· ^^^ ·) a b) c) = reg 4294967295 a ^^^ reg 4294967295 b ^^^ reg 4294967295 c := by
    have := reg_xor (List.zipWith (· ^^^ ·) a b) c (4294967295 ^^^ 4294967295) 4294967295 (by simp; omega)
    rw [reg_xor a b _ _ h1] at this
    rw [← this]; congr 1
  rw [sum_xor, sum_xor, sum_xor, sum_xor, e]
  generalize reg 4294967295 a = x
  generalize reg 4294967295 b = y
  generalize reg 4294967295 c = z
  generalize 4294967295 = m
  have k : m ^^^ (y ^^^ m) = y := by rw [Nat.xor_comm y, ← Nat.xor_assoc, Nat.xor_self, Nat.zero_xor]
  rw [Nat.xor_assoc x m, k, Nat.xor_assoc (x ^^^ y) z m]

/-- The sealed text. -/
def sealL (l : List UInt8) : List UInt8 := l ++ le 4 (sum l)

theorem le_len (k x : Nat) : (le k x).length = k := by
  induction k generalizing x with
  | zero => rfl
  | succ k ih => show (le k _).length + 1 = _; rw [ih]

theorem seal_reg (l : List UInt8) (x : Nat) (hx : x < 4294967296) : reg 4294967295 (l ++ le 4 x) = Fn 32 (reg 4294967295 l ^^^ x) := by
  rw [reg_append, reg_le 4 _ _ hx]

theorem reg_sum (l : List UInt8) : reg 4294967295 l ^^^ sum l = 4294967295 := by
  rw [sum_xor, ← Nat.xor_assoc, Nat.xor_self, Nat.zero_xor]

theorem le_inj (k : Nat) : ∀ (x y : Nat), x < 256 ^ k → y < 256 ^ k → le k x = le k y → x = y := by
  induction k with
  | zero => intro x y hx hy _; simp at hx hy; omega
  | succ k ih =>
    intro x y hx hy h
    have hb : ∀ z, (UInt8.ofNat (z % 256)).toNat = z % 256 := fun z => by rw [UInt8.toNat_ofNat']; exact Nat.mod_eq_of_lt (Nat.mod_lt _ (by decide))
    simp only [le, List.cons.injEq] at h
    have h1 := congrArg UInt8.toNat h.1
    rw [hb, hb] at h1
    have h2 := ih _ _ (by rw [Nat.pow_succ] at hx; omega) (by rw [Nat.pow_succ] at hy; omega) h.2
    omega

theorem reg_zeros (n v : Nat) : reg v (List.replicate n 0) = Fn (8 * n) v := by
  induction n generalizing v with
  | zero => rfl
  | succ n ih =>
    show reg (feed v 0) (List.replicate n 0) = _
    rw [ih, Nat.mul_succ, Fn_add]
    show _ = Fn (8 * n) (Fn 8 v)
    unfold feed
    rw [show (0 : UInt8).toNat = 0 from rfl, Nat.xor_zero]

theorem Fn_of_zero (k : Nat) : Fn k 0 = 0 := by
  induction k with
  | zero => rfl
  | succ k ih => show F _ = 0; rw [ih]; rfl

/-- A sealed text that was turned within four bytes is no sealed text. -/
theorem burst (l t : List UInt8) (i r m x : Nat) (hm : m < 4294967296) (hm0 : m ≠ 0) (hx : x < 4294967296) (hl : (sealL l).length = i + 4 + r)
    (h : List.zipWith (· ^^^ ·) (sealL l) (List.replicate i 0 ++ le 4 m ++ List.replicate r 0) = t ++ le 4 x) : sum t ≠ x := by
  intro hs
  subst hs
  have e1 := seal_reg t (sum t) (sum_lt t)
  have e2 := seal_reg l (sum l) (sum_lt l)
  rw [reg_sum] at e1 e2
  have e3 := reg_xor (sealL l) (List.replicate i 0 ++ le 4 m ++ List.replicate r 0) 4294967295 0 (by simp [le_len]; omega)
  rw [Nat.xor_zero, h, e1, show reg 4294967295 (sealL l) = _ from e2, reg_append, reg_append, reg_zeros, reg_zeros, Fn_of_zero, reg_le 4 _ _ hm, Nat.zero_xor] at e3
  have e4 : Fn (8 * r) (Fn (8 * 4) m) = 0 := by
    have : Fn 32 4294967295 ^^^ Fn 32 4294967295 = Fn 32 4294967295 ^^^ (Fn 32 4294967295 ^^^ Fn (8 * r) (Fn (8 * 4) m)) := congrArg _ e3
    rw [Nat.xor_self, ← Nat.xor_assoc, Nat.xor_self, Nat.zero_xor] at this
    exact this.symm
  exact hm0 (Fn_zero _ _ hm (Fn_zero _ _ (Fn_lt _ _ hm) e4))

theorem sum_nine : sum [49, 50, 51, 52, 53, 54, 55, 56, 57] = 3421780262 := by decide +kernel
theorem sum_nil : sum [] = 0 := by decide
end Go.Proofs.Ythecijjmgfempaa.Cr.Crc
