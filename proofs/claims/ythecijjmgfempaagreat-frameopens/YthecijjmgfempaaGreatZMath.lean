/-
  Plain facts on the common sum of 32 bits over rows of bytes: its step is linear and loses nothing; what is turned within four bytes is seen. No Go, no world.
-/
import Derived.Test.YthecijjmgfempaaGreatRows
import Derived.WalkKit
import Derived.WalkSpells
import Derived.WalkLawsBesides
import Derived.Laws.BitsAllLaws
import Derived.Outline
import Derived.RangeFuncBox
import Derived.OwnWalk
import Derived.Lib.QuietBelow
import Derived.Lib.Strings
import Derived.Lib.ConvBytes
import Derived.Deep.OwnRows
namespace Go.Proofs.YthecijjmgfempaaGreat.Cr.Crc

def F (v : Nat) : Nat := if v % 2 = 1 then v / 2 ^^^ 3988292384 else v / 2
def Fn : Nat → Nat → Nat
  | 0, v => v
  | k + 1, v => F (Fn k v)
def feed (v : Nat) (b : UInt8) : Nat := Fn 8 (v ^^^ b.toNat)
def reg (v : Nat) (l : List UInt8) : Nat := l.foldl feed v
def sum (l : List UInt8) : Nat := 4294967295 - reg 4294967295 l
def le : Nat → Nat → List UInt8
  | 0, _ => []
  | k + 1, x => UInt8.ofNat (x % 256) :: le k (x / 256)

theorem F_odd (v : Nat) (h : v % 2 = 1) : F v = v / 2 ^^^ 3988292384 := by unfold F; rw [if_pos h]
theorem F_even (v : Nat) (h : v % 2 = 0) : F v = v / 2 := by unfold F; rw [if_neg (by omega)]

theorem F_lt (v : Nat) (h : v < 4294967296) : F v < 4294967296 := by
  unfold F
  split
  · exact Nat.xor_lt_two_pow (n := 32) (by omega) (by decide)
  · omega

theorem Fn_lt (k v : Nat) (h : v < 4294967296) : Fn k v < 4294967296 := by
  induction k with
  | zero => exact h
  | succ k ih => exact F_lt _ ih

theorem F_xor (a b : Nat) : F (a ^^^ b) = F a ^^^ F b := by
  have hd : (a ^^^ b) / 2 = a / 2 ^^^ b / 2 := Nat.xor_div_two
  have hm := @Nat.xor_mod_two_eq_one a b
  unfold F
  rw [hd]
  rcases Nat.mod_two_eq_zero_or_one a with ha | ha <;> rcases Nat.mod_two_eq_zero_or_one b with hb | hb
  · rw [if_neg (by rw [hm]; omega), if_neg (by omega), if_neg (by omega)]
  · rw [if_pos (by rw [hm]; omega), if_neg (by omega), if_pos hb, Nat.xor_assoc]
  · rw [if_pos (by rw [hm]; omega), if_pos ha, if_neg (by omega), Nat.xor_assoc, Nat.xor_assoc, Nat.xor_comm (b / 2)]
  · rw [if_neg (by rw [hm]; omega), if_pos ha, if_pos hb, Nat.xor_assoc, Nat.xor_comm (b / 2) _, ← Nat.xor_assoc 3988292384, Nat.xor_self, Nat.zero_xor]

theorem Fn_xor (k a b : Nat) : Fn k (a ^^^ b) = Fn k a ^^^ Fn k b := by
  induction k with
  | zero => rfl
  | succ k ih => show F _ = F _ ^^^ F _; rw [ih, F_xor]

theorem xor_zero_eq (a b : Nat) (h : a ^^^ b = 0) : a = b := by
  have h2 : a ^^^ b ^^^ b = 0 ^^^ b := by rw [h]
  rwa [Nat.xor_assoc, Nat.xor_self, Nat.xor_zero, Nat.zero_xor] at h2

theorem F_zero (v : Nat) (hv : v < 4294967296) (h : F v = 0) : v = 0 := by
  unfold F at h
  split at h
  · have := xor_zero_eq _ _ h; omega
  · omega

theorem Fn_zero (k v : Nat) (hv : v < 4294967296) (h : Fn k v = 0) : v = 0 := by
  induction k with
  | zero => exact h
  | succ k ih => exact ih (F_zero _ (Fn_lt k v hv) h)

theorem Fn_inj (k a b : Nat) (ha : a < 4294967296) (hb : b < 4294967296) (h : Fn k a = Fn k b) : a = b := by
  have h0 : Fn k (a ^^^ b) = 0 := by rw [Fn_xor, h, Nat.xor_self]
  exact xor_zero_eq _ _ (Fn_zero k _ (Nat.xor_lt_two_pow (n := 32) ha hb) h0)

theorem Fn_add (j k v : Nat) : Fn (j + k) v = Fn j (Fn k v) := by
  induction j with
  | zero => rw [Nat.zero_add]; rfl
  | succ j ih => rw [Nat.succ_add]; show F _ = F _; rw [ih]

theorem F_two (y : Nat) : F (y * 2) = y := by rw [F_even _ (by omega)]; omega

theorem Fn_up (k y : Nat) : Fn k (y * 2 ^ k) = y := by
  induction k generalizing y with
  | zero => simp [Fn]
  | succ k ih =>
    show F (Fn k _) = y
    rw [Nat.pow_succ, Nat.mul_comm (2 ^ k) 2, ← Nat.mul_assoc, ih, F_two]

theorem feed_lt (v : Nat) (b : UInt8) (h : v < 4294967296) : feed v b < 4294967296 :=
  Fn_lt 8 _ (Nat.xor_lt_two_pow (n := 32) h (by have := b.toNat_lt; omega))

theorem reg_lt (l : List UInt8) : ∀ v, v < 4294967296 → reg v l < 4294967296 := by
  induction l with
  | nil => exact fun _ h => h
  | cons b r ih => exact fun v h => ih _ (feed_lt v b h)

theorem reg_append (v : Nat) (l m : List UInt8) : reg v (l ++ m) = reg (reg v l) m := by simp [reg]
theorem reg_snoc (v : Nat) (l : List UInt8) (b : UInt8) : reg v (l ++ [b]) = feed (reg v l) b := by rw [reg_append]; rfl

theorem feed_xor (u v : Nat) (a b : UInt8) : feed (u ^^^ v) (a ^^^ b) = feed u a ^^^ feed v b := by
  unfold feed
  rw [← Fn_xor, UInt8.toNat_xor]
  congr 1
  ac_rfl

theorem reg_xor (l : List UInt8) : ∀ (m : List UInt8) (u v : Nat), l.length = m.length → reg (u ^^^ v) (List.zipWith (· ^^^ ·) l m) = reg u l ^^^ reg v m := by
  induction l with
  | nil => intro m u v h; cases m with | nil => rfl | cons => cases h
  | cons a r ih =>
    intro m u v h
    cases m with
    | nil => cases h
    | cons b s =>
      show reg (feed (u ^^^ v) (a ^^^ b)) _ = reg (feed u a) r ^^^ reg (feed v b) s
      rw [feed_xor]
      exact ih s _ _ (by simpa using h)

theorem low_high (x : Nat) : x % 256 ^^^ x / 256 * 2 ^ 8 = x := by
  apply Nat.eq_of_testBit_eq
  intro i
  rw [Nat.testBit_xor, show (256 : Nat) = 2 ^ 8 from rfl, Nat.testBit_mod_two_pow, Nat.testBit_mul_two_pow, Nat.testBit_div_two_pow]
  by_cases h : i < 8
  · simp [h, Nat.not_le.2 h]
  · have : 8 ≤ i := by omega
    simp [h, this]

theorem reg_le (k : Nat) : ∀ (v x : Nat), x < 256 ^ k → reg v (le k x) = Fn (8 * k) (v ^^^ x) := by
  induction k with
  | zero => intro v x h; obtain rfl : x = 0 := by simpa using h
            rw [Nat.xor_zero]; rfl
  | succ k ih =>
    intro v x h
    have hb : (UInt8.ofNat (x % 256)).toNat = x % 256 := by rw [UInt8.toNat_ofNat']; exact Nat.mod_eq_of_lt (Nat.mod_lt _ (by decide))
    show reg (Fn 8 (v ^^^ (UInt8.ofNat (x % 256)).toNat)) (le k (x / 256)) = _
    rw [ih _ _ (by rw [Nat.pow_succ] at h; omega), hb, Nat.mul_succ, Fn_add]
    congr 1
    have e : Fn 8 (x / 256 * 2 ^ 8) = x / 256 := Fn_up 8 _
    rw [show Fn 8 (v ^^^ x % 256) ^^^ x / 256 = Fn 8 (v ^^^ x % 256) ^^^ Fn 8 (x / 256 * 2 ^ 8) from by rw [e], ← Fn_xor, Nat.xor_assoc, low_high]

theorem compl_xor (r : Nat) (h : r < 4294967296) : 4294967295 - r = r ^^^ 4294967295 := by
  apply Nat.eq_of_testBit_eq
  intro i
  have h1 := @Nat.testBit_two_pow_sub_succ r 32 h i
  have e : (2 : Nat) ^ 32 - (r + 1) = 4294967295 - r := by omega
  rw [e] at h1
  rw [h1, Nat.testBit_xor, show (4294967295 : Nat) = 2 ^ 32 - 1 from rfl, Nat.testBit_two_pow_sub_one]
  by_cases hi : i < 32
  · simp [hi]
  · have hr : r.testBit i = false := Nat.testBit_lt_two_pow (Nat.lt_of_lt_of_le h (Nat.pow_le_pow_right (n := 2) (by decide) (by omega : 32 ≤ i)))
    simp [hi, hr]

theorem sum_lt (l : List UInt8) : sum l < 4294967296 := by unfold sum; omega

theorem sum_xor (l : List UInt8) : sum l = reg 4294967295 l ^^^ 4294967295 := compl_xor _ (reg_lt l _ (by decide))

theorem together (a b c : List UInt8) (h1 : a.length = b.length) (h2 : b.length = c.length) :
    sum (List.zipWith (· ^^^ ·) (List.zipWith (· ^^^ ·) a b) c) = sum a ^^^ sum b ^^^ sum c := by
  have e : reg 4294967295 (List.zipWith (· ^^^ ·) (List.zipWith (· ^^^ ·) a b) c) = reg 4294967295 a ^^^ reg 4294967295 b ^^^ reg 4294967295 c := by
    have := reg_xor (List.zipWith (· ^^^ ·) a b) c (4294967295 ^^^ 4294967295) 4294967295 (by simp; omega)
    rw [reg_xor a b _ _ h1] at this
    rw [← this]; congr 1
  rw [sum_xor, sum_xor, sum_xor, sum_xor, e]
  generalize reg 4294967295 a = x
  generalize reg 4294967295 b = y
  generalize reg 4294967295 c = z
  generalize 4294967295 = m
  have k : m ^^^ (y ^^^ m) = y := by rw [Nat.xor_comm y, ← Nat.xor_assoc, Nat.xor_self, Nat.zero_xor]
  rw [Nat.xor_assoc x m, k, Nat.xor_assoc (x ^^^ y) z m]

/-- The sealed text. -/
def sealL (l : List UInt8) : List UInt8 := l ++ le 4 (sum l)

theorem le_len (k x : Nat) : (le k x).length = k := by
  induction k generalizing x with
  | zero => rfl
  | succ k ih => show (le k _).length + 1 = _; rw [ih]

theorem seal_reg (l : List UInt8) (x : Nat) (hx : x < 4294967296) : reg 4294967295 (l ++ le 4 x) = Fn 32 (reg 4294967295 l ^^^ x) := by
  rw [reg_append, reg_le 4 _ _ hx]

theorem reg_sum (l : List UInt8) : reg 4294967295 l ^^^ sum l = 4294967295 := by
  rw [sum_xor, ← Nat.xor_assoc, Nat.xor_self, Nat.zero_xor]

theorem le_inj (k : Nat) : ∀ (x y : Nat), x < 256 ^ k → y < 256 ^ k → le k x = le k y → x = y := by
  induction k with
  | zero => intro x y hx hy _; simp at hx hy; omega
  | succ k ih =>
    intro x y hx hy h
    have hb : ∀ z, (UInt8.ofNat (z % 256)).toNat = z % 256 := fun z => by rw [UInt8.toNat_ofNat']; exact Nat.mod_eq_of_lt (Nat.mod_lt _ (by decide))
    simp only [le, List.cons.injEq] at h
    have h1 := congrArg UInt8.toNat h.1
    rw [hb, hb] at h1
    have h2 := ih _ _ (by rw [Nat.pow_succ] at hx; omega) (by rw [Nat.pow_succ] at hy; omega) h.2
    omega

theorem reg_zeros (n v : Nat) : reg v (List.replicate n 0) = Fn (8 * n) v := by
  induction n generalizing v with
  | zero => rfl
  | succ n ih =>
    show reg (feed v 0) (List.replicate n 0) = _
    rw [ih, Nat.mul_succ, Fn_add]
    show _ = Fn (8 * n) (Fn 8 v)
    unfold feed
    rw [show (0 : UInt8).toNat = 0 from rfl, Nat.xor_zero]

theorem Fn_of_zero (k : Nat) : Fn k 0 = 0 := by
  induction k with
  | zero => rfl
  | succ k ih => show F _ = 0; rw [ih]; rfl

/-- A sealed text that was turned within four bytes is no sealed text. -/
theorem burst (l t : List UInt8) (i r m x : Nat) (hm : m < 4294967296) (hm0 : m ≠ 0) (hx : x < 4294967296) (hl : (sealL l).length = i + 4 + r)
    (h : List.zipWith (· ^^^ ·) (sealL l) (List.replicate i 0 ++ le 4 m ++ List.replicate r 0) = t ++ le 4 x) : sum t ≠ x := by
  intro hs
  subst hs
  have e1 := seal_reg t (sum t) (sum_lt t)
  have e2 := seal_reg l (sum l) (sum_lt l)
  rw [reg_sum] at e1 e2
  have e3 := reg_xor (sealL l) (List.replicate i 0 ++ le 4 m ++ List.replicate r 0) 4294967295 0 (by simp [le_len]; omega)
  rw [Nat.xor_zero, h, e1, show reg 4294967295 (sealL l) = _ from e2, reg_append, reg_append, reg_zeros, reg_zeros, Fn_of_zero, reg_le 4 _ _ hm, Nat.zero_xor] at e3
  have e4 : Fn (8 * r) (Fn (8 * 4) m) = 0 := by
    have : Fn 32 4294967295 ^^^ Fn 32 4294967295 = Fn 32 4294967295 ^^^ (Fn 32 4294967295 ^^^ Fn (8 * r) (Fn (8 * 4) m)) := congrArg _ e3
    rw [Nat.xor_self, ← Nat.xor_assoc, Nat.xor_self, Nat.zero_xor] at this
    exact this.symm
  exact hm0 (Fn_zero _ _ hm (Fn_zero _ _ (Fn_lt _ _ hm) e4))

theorem sum_nine : sum [49, 50, 51, 52, 53, 54, 55, 56, 57] = 3421780262 := by decide +kernel
theorem sum_nil : sum [] = 0 := by decide
end Go.Proofs.YthecijjmgfempaaGreat.Cr.Crc

namespace Go.Proofs.YthecijjmgfempaaGreat.Cr
open Go.RowKit

theorem hide {p : Prop} (h : p) : Hid p := h
theorem unhide {p : Prop} (h : Hid p) : p := h

theorem ret_int {k : IntKind} {a b : Int} (h : a = b) : Ending.returned (.int k a) = .returned (.int k b) := by rw [h]

theorem take_snoc (s : ByteArray) (k : Nat) (h : k < s.size) : s.data.toList.take (k + 1) = s.data.toList.take k ++ [s[k]] := by
  rw [List.take_succ_eq_append_getElem (by simpa using h)]; rfl

set_option maxRecDepth 100000 in
set_option maxHeartbeats 400000 in
theorem refOf_any (s : ByteArray) (w : World) (hs : s.size ≤ maxLen) :
    Calls Tryz.prog 53 #[.string s] w fun e w' => e = .returned (.int .u32 (Crc.sum s.data.toList : Nat)) ∧ w' = w := by
  unfold maxLen at hs
  go_enter Tryz.func53, Tryz.ntmps53
  go_wp2
  go_loop [3, 4] (fun v i => ∃ k : Nat, k ≤ s.size ∧ i = .int .i64 k ∧ v = .int .u32 (Crc.reg 4294967295 (s.data.toList.take k) : Nat)) (fun _ i => s.size - (intOf i).toNat)
  case atStart => exact ⟨0, Nat.zero_le _, rfl, rfl⟩
  case round =>
    obtain ⟨k, hk, rfl, rfl⟩ := hrel
    have hlt4 := Crc.reg_lt (s.data.toList.take k) 4294967295 (by decide)
    by_cases hlt : k < s.size
    · have hsn : Crc.reg 4294967295 (s.data.toList.take (k + 1)) = Crc.Fn 8 (Crc.reg 4294967295 (s.data.toList.take k) ^^^ s[k].toNat) := by
        rw [take_snoc s k hlt, Crc.reg_snoc]; rfl
      have HS := hide hsn
      clear hsn
      generalize Crc.reg 4294967295 (s.data.toList.take k) = V at hlt4 HS ⊢
      have e1 : bits .xor .u32 (V : Int) ((s[k].toNat : Int) % 4294967296) = ((V ^^^ s[k].toNat : Nat) : Int) := by
        have := s[k].toNat_lt
        rw [show (s[k].toNat : Int) % 4294967296 = (s[k].toNat : Int) from by omega]
        exact u32_xor_nat _ _ hlt4 (by omega)
      have hX : V ^^^ s[k].toNat < 4294967296 := Nat.xor_lt_two_pow (n := 32) hlt4 (by have := s[k].toNat_lt; omega)
      generalize V ^^^ s[k].toNat = X at e1 HS hX
      go_wp2
      clear e1
      go_loop [3, 5] (fun v i => ∃ j : Nat, j ≤ 8 ∧ i = .int .i64 j ∧ v = .int .u32 (Crc.Fn j X : Nat)) (fun _ i => 8 - (intOf i).toNat)
      case atStart => exact ⟨0, Nat.zero_le _, rfl, rfl⟩
      case round =>
        obtain ⟨j, hj, rfl, rfl⟩ := hrel
        by_cases hj8 : j < 8
        · have hf : Crc.Fn (j + 1) X = Crc.F (Crc.Fn j X) := rfl
          have hy := Crc.Fn_lt j X hX
          generalize Crc.Fn j X = Y at hf hy ⊢
          rcases Nat.mod_two_eq_zero_or_one Y with hm | hm
          · have HF := hide (hf.trans (Crc.F_even Y hm))
            clear hf
            go_wp2
            go_round
            case rel => exact ⟨j + 1, by omega, by go_num, by rw [unhide HF]; go_num⟩
            case measure => simp [intOf]; omega
          · have HF := hide (hf.trans (Crc.F_odd Y hm))
            clear hf
            have e2 : bits .xor .u32 ((Y : Int) / 2) 3988292384 = ((Y / 2 ^^^ 3988292384 : Nat) : Int) := u32_xor_nat (Y / 2) 3988292384 (by omega) (by decide)
            go_wp2
            go_round
            case rel => exact ⟨j + 1, by omega, by go_num, by rw [unhide HF]⟩
            case measure => simp [intOf]; omega
        · have hj' : j = 8 := by omega
          subst hj'
          rw [← unhide HS]
          go_wp2
          go_round
          case rel => exact ⟨k + 1, by omega, by go_num, rfl⟩
          case measure => simp [intOf]; omega
    · have hk' : s.data.toList.take k = s.data.toList := List.take_of_length_le (by simp; omega)
      rw [hk'] at hlt4 ⊢
      clear hk'
      have HS : Hid (Crc.sum s.data.toList = _) := hide rfl
      go_wp2
      go_ret
      exact ⟨ret_int (by unfold Crc.sum; omega), rfl⟩
end Go.Proofs.YthecijjmgfempaaGreat.Cr

namespace Go.Proofs.YthecijjmgfempaaGreat.Cr
open Go.RowKit

theorem not_u32 (v : Nat) (h : v < 4294967296) : bits .xor .u32 IntKind.u32.max (v : Int) = 4294967295 - (v : Int) := by
  have h1 : bits .xor .u32 ((4294967295 : Nat) : Int) (v : Int) = ((4294967295 ^^^ v : Nat) : Int) := u32_xor_nat 4294967295 v (by decide) h
  have h2 : (4294967295 : Nat) ^^^ v = 4294967295 - v := by rw [Nat.xor_comm, ← Crc.compl_xor v h]
  rw [h2] at h1
  refine Eq.trans h1 ?_
  omega

theorem not_u32_back (v : Nat) (h : v < 4294967296) : bits .xor .u32 IntKind.u32.max (4294967295 - (v : Int)) = (v : Int) := by
  have e : (4294967295 - (v : Int)) = ((4294967295 - v : Nat) : Int) := by omega
  rw [e, not_u32 _ (by omega)]
  omega

theorem and_one_u32 (v : Nat) (h : v < 4294967296) : bits .and .u32 (v : Int) 1 = ((v % 2 : Nat) : Int) := by
  have h1 : bits .and .u32 (v : Int) ((1 : Nat) : Int) = ((v &&& 1 : Nat) : Int) := u32_and_nat v 1 h (by decide)
  rw [Nat.and_one_is_mod] at h1
  exact h1

set_option maxRecDepth 100000 in
set_option maxHeartbeats 400000 in
theorem step_any (B : Nat) (x : UInt8) (r : Nat) (hr : r < 4294967296) (w : World) (hc : w.cell? ⟨B, 0, none⟩ = some (.int .u32 (4294967295 - (r : Int)))) (hf : w.frozen? ⟨B, 0, none⟩ = false) :
    Calls Tryz.prog 76 #[.pointer (some ⟨B, 0, none⟩), .int .u8 (x.toNat : Int)] w fun e w' => e = .returned (.tuple #[]) ∧ w' = w.setCell ⟨B, 0, none⟩ (.int .u32 (4294967295 - (Crc.feed r x : Int))) := by
  have hx := x.toNat_lt
  have hX : r ^^^ x.toNat < 4294967296 := Nat.xor_lt_two_pow (n := 32) hr (by omega)
  have e0 := not_u32_back r hr
  have e1 : bits .xor .u32 (r : Int) (x.toNat : Int) = ((r ^^^ x.toNat : Nat) : Int) := u32_xor_nat _ _ hr (by omega)
  have HS : Hid (Crc.feed r x = Crc.Fn 8 (r ^^^ x.toNat)) := hide rfl
  generalize Crc.feed r x = S at HS ⊢
  generalize r ^^^ x.toNat = X at e1 hX HS
  go_enter Tryz.func76, Tryz.ntmps76
  go_wp2
  clear e0 e1
  go_loop [4, 14] (fun v i => ∃ j : Nat, j ≤ 8 ∧ i = .int .i64 j ∧ v = .int .u32 (Crc.Fn j X : Nat)) (fun _ i => 8 - (intOf i).toNat)
  case atStart => exact ⟨0, Nat.zero_le _, rfl, rfl⟩
  case round =>
    obtain ⟨j, hj, rfl, rfl⟩ := hrel
    by_cases hj8 : j < 8
    · have hF : Crc.Fn (j + 1) X = Crc.F (Crc.Fn j X) := rfl
      have hy := Crc.Fn_lt j X hX
      generalize Crc.Fn j X = Y at hF hy ⊢
      have e2 := and_one_u32 Y hy
      rcases Nat.mod_two_eq_zero_or_one Y with hm | hm
      · have HF := hide (hF.trans (Crc.F_even Y hm))
        rw [hm] at e2
        clear hF
        go_wp2
        go_round
        case rel => exact ⟨j + 1, by omega, by go_num, by rw [unhide HF]; go_num⟩
        case measure => simp [intOf]; omega
      · have HF := hide (hF.trans (Crc.F_odd Y hm))
        rw [hm] at e2
        clear hF
        have e3 : bits .xor .u32 ((Y : Int) / 2) 3988292384 = ((Y / 2 ^^^ 3988292384 : Nat) : Int) := u32_xor_nat (Y / 2) 3988292384 (by omega) (by decide)
        go_wp2
        go_round
        case rel => exact ⟨j + 1, by omega, by go_num, by rw [unhide HF]⟩
        case measure => simp [intOf]; omega
    · have hj' : j = 8 := by omega
      subst hj'
      rw [← unhide HS]
      have hy := Crc.Fn_lt 8 X hX
      rw [← unhide HS] at hy
      have e4 := not_u32 S hy
      go_wp2
      go_end0
      exact ⟨rfl, rfl⟩

set_option maxRecDepth 100000 in
set_option maxHeartbeats 400000 in
theorem Write_any (B n₀ : Nat) (hB : n₀ ≤ B) (s : ByteArray) (hs : s.size ≤ maxLen) (r : Nat) (hr : r < 4294967296) (w : World) (hb : Boxed w B 111 (.int .u32 (4294967295 - (r : Int)))) :
    Calls Tryz.prog 63 #[.pointer (some ⟨B, 0, none⟩), .string s] w fun e w' => e = .returned (.tuple #[]) ∧ Boxed w' B 111 (.int .u32 (4294967295 - (Crc.reg r s.data.toList : Int))) ∧ Below n₀ w w' := by
  unfold maxLen at hs
  go_enter Tryz.func63, Tryz.ntmps63
  go_wp2
  go_loopw [12] (fun i wr => ∃ k : Nat, k ≤ s.size ∧ i = .int .i64 k ∧ Boxed wr B 111 (.int .u32 (4294967295 - (Crc.reg r (s.data.toList.take k) : Int))) ∧ Below n₀ w wr) (fun i _ => s.size - (intOf i).toNat)
  case atStart => exact ⟨0, Nat.zero_le _, rfl, hb, Below.refl _ _⟩
  case round =>
    obtain ⟨k, hk, rfl, hbx, hbl⟩ := hrel
    by_cases hlt : k < s.size
    · have hsn : Crc.reg r (s.data.toList.take (k + 1)) = Crc.feed (Crc.reg r (s.data.toList.take k)) s[k] := by rw [take_snoc s k hlt, Crc.reg_snoc]
      have HS := hide hsn
      have hl4 := Crc.reg_lt (s.data.toList.take k) r hr
      clear hsn
      have HC := hide hbx.cell
      have HF := hide hbx.frozen
      go_wp2_with fail
      refine (step_any B s[k] _ hl4 _ (unhide HC) (unhide HF)).mono ?_
      rintro e w' ⟨rfl, rfl⟩
      rw [← unhide HS]
      go_wp2
      go_roundw
      case rel => exact ⟨k + 1, by omega, by go_num, hbx.set _, hbl.setCell (p := ⟨B, 0, none⟩) hB _⟩
      case measure => simp [intOf]; omega
    · have hk' : s.data.toList.take k = s.data.toList := List.take_of_length_le (by simp; omega)
      rw [hk'] at hbx
      clear hk'
      go_wp2
      go_end0
      exact ⟨rfl, hbx, hbl⟩

theorem Write_nil (s : ByteArray) (w : World) :
    Calls Tryz.prog 63 #[.pointer none, .string s] w fun e w' => e = .returned (.tuple #[]) ∧ w' = w := by
  go_enter Tryz.func63, Tryz.ntmps63
  go_wp2
  refine bodyPost_ret (results_none rfl _ _ _) rfl ?_
  exact ⟨rfl, rfl⟩

theorem Value_any (B : Nat) (v : Int) (w : World) (hb : Boxed w B 111 (.int .u32 v)) :
    Calls Tryz.prog 64 #[.pointer (some ⟨B, 0, none⟩)] w fun e w' => e = .returned (.int .u32 v) ∧ w' = w := by
  have hc := hb.cell
  go_enter Tryz.func64, Tryz.ntmps64
  go_wp2
  go_ret
  exact ⟨rfl, rfl⟩

theorem Value_nil (w : World) :
    Calls Tryz.prog 64 #[.pointer none] w fun e w' => e = .returned (.int .u32 0) ∧ w' = w := by
  go_enter Tryz.func64, Tryz.ntmps64
  go_wp2
  go_ret
  exact ⟨rfl, rfl⟩

set_option maxRecDepth 100000 in
set_option maxHeartbeats 400000 in
theorem Of_any (s : ByteArray) (hs : s.size ≤ maxLen) (w : World) :
    Calls Tryz.prog 45 #[.string s] w fun e w' => e = .returned (.int .u32 (Crc.sum s.data.toList : Nat)) ∧ Below w.heap.size w w' := by
  have hs' := hide hs
  unfold maxLen at hs
  go_enter Tryz.func45, Tryz.ntmps45
  go_wp2_with fail
  refine (Write_any w.heap.size w.heap.size (Nat.le_refl _) s (unhide hs') 4294967295 (by decide) _ (Boxed.new w 111 (.int .u32 0))).mono ?_
  rintro e w1 ⟨rfl, hb1, hl1⟩
  go_wp2_with fail
  refine (Value_any w.heap.size _ w1 hb1).mono ?_
  rintro e w2 ⟨rfl, rfl⟩
  go_wp2
  go_ret
  refine ⟨ret_int ?_, ((Below.refl w.heap.size w).alloc (Nat.le_refl _) _).trans hl1⟩
  have := Crc.reg_lt s.data.toList 4294967295 (by decide)
  unfold Crc.sum
  omega
end Go.Proofs.YthecijjmgfempaaGreat.Cr

namespace Go.Proofs.YthecijjmgfempaaGreat.Cr
open Go.RowKit

theorem le4 (v : Nat) : Crc.le 4 v = [UInt8.ofNat (v % 256), UInt8.ofNat (v / 256 % 256), UInt8.ofNat (v / 256 / 256 % 256), UInt8.ofNat (v / 256 / 256 / 256 % 256)] := rfl

theorem u8_of (n : Nat) (h : n < 256) : (UInt8.ofNat n).toNat = n := by rw [UInt8.toNat_ofNat']; exact Nat.mod_eq_of_lt h

theorem run_four (v : Nat) (hv : v < 4294967296) (w : World) :
    (convert 39 9 (.slice (some ⟨w.heap.size, 0, none⟩) 4 4)).run Tryz.prog (w.alloc (.cells #[.int .u8 ((v : Int) % 256), .int .u8 ((v : Int) / 256 % 256), .int .u8 ((v : Int) / 65536 % 256), .int .u8 ((v : Int) / 16777216)] 5))
      = .ok (.string ⟨(Crc.le 4 v).toArray⟩) (w.alloc (.cells #[.int .u8 ((v : Int) % 256), .int .u8 ((v : Int) / 256 % 256), .int .u8 ((v : Int) / 65536 % 256), .int .u8 ((v : Int) / 16777216)] 5)) := by
  refine run_convert_bytes_back _ 39 9 5 ⟨w.heap.size, 0, none⟩ 4 (Crc.le 4 v) Tryz.underlying39 Tryz.underlying5 Tryz.underlying9 fun j hj => ?_
  have hj4 : j < 4 := hj
  have e0 := u8_of (v % 256) (by omega)
  have e1 := u8_of (v / 256 % 256) (by omega)
  have e2 := u8_of (v / 256 / 256 % 256) (by omega)
  have e3 := u8_of (v / 256 / 256 / 256 % 256) (by omega)
  rcases j with _ | _ | _ | _ | j
  · simp [Addr.add, le4, e0]
  · simp [Addr.add, le4, e1]
  · simp [Addr.add, le4, e2]; omega
  · simp [Addr.add, le4, e3]; omega
  · omega

set_option maxRecDepth 100000 in
set_option maxHeartbeats 400000 in
theorem bytesOf_any (v : Nat) (hv : v < 4294967296) (w : World) :
    Calls Tryz.prog 44 #[.int .u32 (v : Int)] w fun e w' => e = .returned (.string ⟨(Crc.le 4 v).toArray⟩) ∧ Below w.heap.size w w' := by
  have hcv := run_four v hv
  go_enter Tryz.func44, Tryz.ntmps44
  go_wp2
  go_ret
  exact ⟨rfl, (Below.refl _ _).alloc (Nat.le_refl _) _⟩

theorem cat_seal (s : ByteArray) (h : ByteArray) (l m : List UInt8) (hs : s.data.toList = l) (hm : h = ⟨m.toArray⟩) : s ++ h = ⟨(l ++ m).toArray⟩ := by
  subst hm hs
  apply ByteArray.ext
  apply Array.toList_inj.1
  simp [ByteArray.data_append]

theorem le4_size (v : Nat) : (ByteArray.mk (Crc.le 4 v).toArray).size = 4 := by simp [ByteArray.size, Crc.le_len]

theorem ret_seal {s : ByteArray} {v : Nat} (h : Crc.sum s.data.toList = v) : Ending.returned (.string (s ++ ⟨(Crc.le 4 v).toArray⟩)) = .returned (.string ⟨(Crc.sealL s.data.toList).toArray⟩) := by
  rw [cat_seal s _ s.data.toList (Crc.le 4 v) rfl rfl, ← h]; rfl

set_option maxRecDepth 100000 in
set_option maxHeartbeats 400000 in
theorem refSeal_any (s : ByteArray) (hs : s.size ≤ 140737488351232) (w : World) :
    Calls Tryz.prog 34 #[.string s] w fun e w' => e = .returned (.string ⟨(Crc.sealL s.data.toList).toArray⟩) ∧ Below w.heap.size w w' := by
  have hv := Crc.sum_lt s.data.toList
  go_enter Tryz.func34, Tryz.ntmps34
  go_wp2_with fail
  refine (refOf_any s _ (by unfold maxLen; omega)).mono ?_
  rintro e w1 ⟨rfl, rfl⟩
  obtain ⟨v, hV⟩ : ∃ v, Crc.sum s.data.toList = v := ⟨_, rfl⟩
  rw [hV] at hv ⊢
  have HV := hide hV
  clear hV
  have hcv := run_four v hv
  have hcat : ¬ (s.size + ByteArray.size ⟨(Crc.le 4 v).toArray⟩ > 9223372036854775807) := by rw [le4_size]; omega
  go_wp2
  go_ret
  exact ⟨ret_seal (unhide HV), (Below.refl _ _).alloc (Nat.le_refl _) _⟩

set_option maxRecDepth 100000 in
set_option maxHeartbeats 400000 in
theorem Seal_any (s : ByteArray) (hs : s.size ≤ 140737488351232) (w : World) :
    Calls Tryz.prog 26 #[.string s] w fun e w' => e = .returned (.string ⟨(Crc.sealL s.data.toList).toArray⟩) ∧ Below w.heap.size w w' := by
  have hv := Crc.sum_lt s.data.toList
  obtain ⟨v, hV⟩ : ∃ v, Crc.sum s.data.toList = v := ⟨_, rfl⟩
  rw [hV] at hv
  have HV := hide hV
  clear hV
  have hcat : ¬ (s.size + ByteArray.size ⟨(Crc.le 4 v).toArray⟩ > 9223372036854775807) := by rw [le4_size]; omega
  go_enter Tryz.func26, Tryz.ntmps26
  go_wp2_with fail
  refine (Of_any s (by unfold maxLen; omega) _).mono ?_
  rintro e w1 ⟨rfl, hb1⟩
  rw [unhide HV]
  go_wp2_with fail
  refine (bytesOf_any v hv _).mono ?_
  rintro e w2 ⟨rfl, hb2⟩
  go_wp2
  go_ret
  exact ⟨ret_seal (unhide HV), hb1.trans (hb2.mono hb1.size)⟩
end Go.Proofs.YthecijjmgfempaaGreat.Cr

namespace Go.Proofs.YthecijjmgfempaaGreat.Cr
open Go.RowKit

def Sealed (l : List UInt8) (n : Nat) : Prop := l.drop n = Crc.le 4 (Crc.sum (l.take n))

theorem sealed_eq (s : ByteArray) (n : Nat) (hq : Sealed s.data.toList n) : ((s.extract n s.size).toList == Crc.le 4 (Crc.sum (List.take n s.data.toList))) = true := by
  rw [Go.Lib.extract_toList, ← hq, List.take_of_length_le (by simp)]
  exact beq_self_eq_true _
theorem sealed_ne (s : ByteArray) (n : Nat) (hq : ¬ Sealed s.data.toList n) : ((s.extract n s.size).toList == Crc.le 4 (Crc.sum (List.take n s.data.toList))) = false := by
  rw [Go.Lib.extract_toList, List.take_of_length_le (by simp)]
  exact beq_eq_false_iff_ne.2 hq

theorem sealL_iff (l : List UInt8) (n : Nat) : Crc.sealL (l.take n) = l ↔ Sealed l n := by
  unfold Crc.sealL Sealed
  constructor
  · intro h
    have h2 : l.take n ++ Crc.le 4 (Crc.sum (l.take n)) = l.take n ++ l.drop n := by rw [h, List.take_append_drop]
    exact (List.append_cancel_left h2).symm
  · intro h
    rw [← h, List.take_append_drop]

set_option maxRecDepth 100000 in
set_option maxHeartbeats 400000 in
theorem Open_short (s : ByteArray) (hs : s.size < 4) (w : World) :
    Calls Tryz.prog 28 #[.string s] w fun e w' => e = .returned (.tuple #[.string ⟨#[]⟩, .bool false]) ∧ w' = w := by
  go_enter Tryz.func28, Tryz.ntmps28
  go_wp2
  go_ret2
  exact ⟨rfl, rfl⟩

set_option maxRecDepth 100000 in
set_option maxHeartbeats 400000 in
theorem Open_yes (s : ByteArray) (n : Nat) (hs : s.size ≤ 140737488351232) (hn : n + 4 = s.size) (hq : Sealed s.data.toList n) (w : World) :
    Calls Tryz.prog 28 #[.string s] w fun e w' => e = .returned (.tuple #[.string (s.extract 0 n), .bool true]) ∧ Below w.heap.size w w' := by
  have he : (s.size : Int) - 4 = (n : Int) := by omega
  have hn1 : n ≤ s.size := by omega
  have h4 : 4 ≤ s.size := by omega
  have hb := sealed_eq s n hq
  have HN := hide hn
  clear hn hq
  go_enter Tryz.func28, Tryz.ntmps28
  go_wp2_with fail
  refine wp_region_quiet_below (by kernel_rfl) (by kernel_rfl) ?_
  repeat (quiet_step (first | (go_at_call 45; exact Calls.regrown_of (Of_any _ (by unfold maxLen; simp; omega) _)) | (go_at_call 44; exact Calls.regrown_of (bytesOf_any _ (Crc.sum_lt _) _))))
  refine wpQuiet_nil ?_
  intro _ hw'
  obtain ⟨⟨dq, osq⟩, hw''⟩ := hw'
  subst hw''
  go_wp2_with fail
  go_ret2
  exact ⟨rfl, below_regrown w dq osq⟩

set_option maxRecDepth 100000 in
set_option maxHeartbeats 400000 in
theorem Open_no (s : ByteArray) (n : Nat) (hs : s.size ≤ 140737488351232) (hn : n + 4 = s.size) (hq : ¬ Sealed s.data.toList n) (w : World) :
    Calls Tryz.prog 28 #[.string s] w fun e w' => e = .returned (.tuple #[.string ⟨#[]⟩, .bool false]) ∧ Below w.heap.size w w' := by
  have he : (s.size : Int) - 4 = (n : Int) := by omega
  have hn1 : n ≤ s.size := by omega
  have h4 : 4 ≤ s.size := by omega
  have hb := sealed_ne s n hq
  have HN := hide hn
  clear hn hq
  go_enter Tryz.func28, Tryz.ntmps28
  go_wp2_with fail
  refine wp_region_quiet_below (by kernel_rfl) (by kernel_rfl) ?_
  repeat (quiet_step (first | (go_at_call 45; exact Calls.regrown_of (Of_any _ (by unfold maxLen; simp; omega) _)) | (go_at_call 44; exact Calls.regrown_of (bytesOf_any _ (Crc.sum_lt _) _))))
  refine wpQuiet_nil ?_
  intro _ hw'
  obtain ⟨⟨dq, osq⟩, hw''⟩ := hw'
  subst hw''
  go_wp2_with fail
  go_ret2
  exact ⟨rfl, below_regrown w dq osq⟩

set_option maxRecDepth 100000 in
set_option maxHeartbeats 400000 in
theorem refOpen_short (s : ByteArray) (hs : s.size < 4) (w : World) :
    Calls Tryz.prog 19 #[.string s] w fun e w' => e = .returned (.tuple #[.string ⟨#[]⟩, .bool false]) ∧ w' = w := by
  go_enter Tryz.func19, Tryz.ntmps19
  go_wp2_with fail
  go_ret2
  exact ⟨rfl, rfl⟩

theorem ext_data (s : ByteArray) (k : Nat) : (s.extract 0 k).data.toList = s.data.toList.take k := by simp

set_option maxRecDepth 100000 in
set_option maxHeartbeats 400000 in
theorem refOpen_yes (s : ByteArray) (n : Nat) (hs : s.size ≤ 140737488351232) (hn : n + 4 = s.size) (hq : Sealed s.data.toList n) (w : World) :
    Calls Tryz.prog 19 #[.string s] w fun e w' => e = .returned (.tuple #[.string (s.extract 0 n), .bool true]) ∧ Below w.heap.size w w' := by
  have he : (s.size : Int) - 4 = (n : Int) := by omega
  have hn1 : n ≤ s.size := by omega
  have h4 : 4 ≤ s.size := by omega
  have HQ := hide ((sealL_iff _ _).2 hq)
  have HN := hide hn
  clear hn hq
  go_enter Tryz.func19, Tryz.ntmps19
  go_wp2_with fail
  refine (refSeal_any _ (by simp; omega) _).mono ?_
  rintro e w1 ⟨rfl, hb1⟩
  rw [ext_data, unhide HQ]
  go_wp2_with fail
  go_ret2
  exact ⟨rfl, hb1⟩

set_option maxRecDepth 100000 in
set_option maxHeartbeats 400000 in
theorem refOpen_no (s : ByteArray) (n : Nat) (hs : s.size ≤ 140737488351232) (hn : n + 4 = s.size) (hq : ¬ Sealed s.data.toList n) (w : World) :
    Calls Tryz.prog 19 #[.string s] w fun e w' => e = .returned (.tuple #[.string ⟨#[]⟩, .bool false]) ∧ Below w.heap.size w w' := by
  have he : (s.size : Int) - 4 = (n : Int) := by omega
  have hn1 : n ≤ s.size := by omega
  have h4 : 4 ≤ s.size := by omega
  have hq1 : (Crc.sealL (List.take n s.data.toList) == s.toList) = false := by
    rw [Go.Lib.toList_data]; exact beq_eq_false_iff_ne.2 fun h => hq ((sealL_iff _ _).1 h)
  have HN := hide hn
  clear hn hq
  go_enter Tryz.func19, Tryz.ntmps19
  go_wp2_with fail
  refine (refSeal_any _ (by simp; omega) _).mono ?_
  rintro e w1 ⟨rfl, hb1⟩
  rw [ext_data]
  go_wp2_with fail
  go_ret2
  exact ⟨rfl, hb1⟩

end Go.Proofs.YthecijjmgfempaaGreat.Cr

namespace Go.Proofs.YthecijjmgfempaaGreat.Cr.Crc

def byteAt (m i : Nat) : UInt8 := UInt8.ofNat (m / 2 ^ (8 * i) % 256)

/-- The row l, with the first k bytes of m put to it from f on. -/
def Turned (l : List UInt8) (f m k : Nat) (bs : List UInt8) : Prop :=
  bs.length = l.length ∧ ∀ j x, l[j]? = some x → bs[j]? = some (if f ≤ j ∧ j < f + k then x ^^^ byteAt m (j - f) else x)

theorem turned_none (l : List UInt8) (f m : Nat) : Turned l f m 0 l := ⟨rfl, fun j x h => by rw [h, if_neg (by omega)]⟩

theorem turned_step (l : List UInt8) (f m k : Nat) (bs : List UInt8) (x : UInt8) (h : Turned l f m k bs) (hx : bs[f + k]? = some x) : Turned l f m (k + 1) (bs.set (f + k) (x ^^^ byteAt m k)) := by
  obtain ⟨h1, h2⟩ := h
  refine ⟨by rw [List.length_set, h1], fun j y hy => ?_⟩
  have hb := h2 j y hy
  by_cases e : f + k = j
  · subst e
    obtain ⟨hl, _⟩ := List.getElem?_eq_some_iff.1 hx
    rw [List.getElem?_set_self hl, if_pos (by omega)]
    rw [hx, if_neg (by omega)] at hb
    have hxy : x = y := by simpa using hb
    rw [hxy, Nat.add_sub_cancel_left]
  · rw [List.getElem?_set_ne e, hb]
    by_cases hc : f ≤ j ∧ j < f + k
    · rw [if_pos hc, if_pos (by omega)]
    · rw [if_neg hc, if_neg (by omega)]

theorem byteAt_le (m i : Nat) (h : i < 4) : (le 4 m)[i]? = some (byteAt m i) := by
  have h2 : m / 256 / 256 = m / 65536 := by omega
  have h3 : m / 256 / 256 / 256 = m / 16777216 := by omega
  rcases i with _ | _ | _ | _ | i
  · simp [le, byteAt]
  · simp [le, byteAt]
  · simp [le, byteAt, h2]
  · simp [le, byteAt, h3]
  · omega

theorem turned_all (l : List UInt8) (f m r : Nat) (bs : List UInt8) (hl : l.length = f + 4 + r) (h : Turned l f m 4 bs) :
    List.zipWith (· ^^^ ·) l (List.replicate f 0 ++ le 4 m ++ List.replicate r 0) = bs := by
  obtain ⟨h1, h2⟩ := h
  apply List.ext_getElem?
  intro j
  by_cases hj : j < l.length
  · have hx := List.getElem?_eq_getElem hj
    rw [h2 j _ hx, List.getElem?_zipWith, hx]
    by_cases hc : f ≤ j ∧ j < f + 4
    · have hE : (List.replicate f (0 : UInt8) ++ le 4 m ++ List.replicate r 0)[j]? = some (byteAt m (j - f)) := by
        rw [List.append_assoc, List.getElem?_append_right (by simp; omega), List.getElem?_append_left (by rw [le_len]; simp; omega), List.length_replicate, byteAt_le m _ (by omega)]
      rw [hE, if_pos hc]
    · have hE : (List.replicate f (0 : UInt8) ++ le 4 m ++ List.replicate r 0)[j]? = some 0 := by
        rw [List.append_assoc]
        by_cases hf : j < f
        · rw [List.getElem?_append_left (by simpa using hf), List.getElem?_replicate, if_pos hf]
        · rw [List.getElem?_append_right (by simp; omega), List.getElem?_append_right (by rw [le_len]; simp; omega), List.getElem?_replicate, if_pos (by rw [le_len]; simp; omega)]
      rw [hE, if_neg hc]
      simp
  · rw [List.getElem?_eq_none (by simp; omega), List.getElem?_eq_none (by omega)]

theorem turned_zero (l : List UInt8) (f : Nat) (bs : List UInt8) (h : Turned l f 0 4 bs) : bs = l := by
  obtain ⟨h1, h2⟩ := h
  apply List.ext_getElem?
  intro j
  by_cases hj : j < l.length
  · have hx := List.getElem?_eq_getElem hj
    rw [h2 j _ hx, hx]
    simp [byteAt]
  · rw [List.getElem?_eq_none (by omega), List.getElem?_eq_none (by omega)]

/-- Behind the turning of at least one bit: no sealed text. -/
theorem turned_seen (l : List UInt8) (f m : Nat) (bs : List UInt8) (hf : f ≤ l.length) (hm : m < 4294967296) (hm0 : m ≠ 0) (h : Turned (sealL l) f m 4 bs) :
    bs.drop l.length ≠ le 4 (sum (bs.take l.length)) := by
  intro hs
  have hl : (sealL l).length = f + 4 + (l.length - f) := by unfold sealL; rw [List.length_append, le_len]; omega
  refine burst l (bs.take l.length) f (l.length - f) m (sum (bs.take l.length)) hm hm0 (sum_lt _) hl ?_ rfl
  rw [turned_all _ f m _ bs hl h, ← hs, List.take_append_drop]

end Go.Proofs.YthecijjmgfempaaGreat.Cr.Crc

namespace Go.Proofs.YthecijjmgfempaaGreat.Cr
open Go.RowKit

def Bytes (W : World) (B : Nat) (bs : List UInt8) : Prop :=
  ∃ cs fz, W.heap[B]? = some (.cells cs 5 fz) ∧ bs.length ≤ fz.1 ∧ ∀ j (h : j < bs.length), cs[j]? = some (.int .u8 (bs[j].toNat : Int))

theorem Bytes.cell {W : World} {B : Nat} {bs : List UInt8} (h : Bytes W B bs) (k : Nat) (hk : k < bs.length) : W.cell? ⟨B, k, none⟩ = some (.int .u8 (bs[k].toNat : Int)) := by
  obtain ⟨cs, fz, h1, h2, h3⟩ := h
  simp [World.cell?, h1, h3 k hk]
theorem Bytes.frozen {W : World} {B : Nat} {bs : List UInt8} (h : Bytes W B bs) (k : Nat) (hk : k < bs.length) : W.frozen? ⟨B, k, none⟩ = false := by
  obtain ⟨cs, ⟨lo, hi⟩, h1, h2, h3⟩ := h
  have h2 : bs.length ≤ lo := h2
  simp [World.frozen?, h1]
  omega
theorem Bytes.set {W : World} {B : Nat} {bs : List UInt8} (h : Bytes W B bs) (k : Nat) (b : UInt8) : Bytes (W.setCell ⟨B, k, none⟩ (.int .u8 (b.toNat : Int))) B (bs.set k b) := by
  obtain ⟨cs, fz, h1, h2, h3⟩ := h
  obtain ⟨hlt, hk⟩ := Array.getElem?_eq_some_iff.1 h1
  refine ⟨cs.setIfInBounds k (.int .u8 (b.toNat : Int)), fz, ?_, by rw [List.length_set]; exact h2, fun j hj => ?_⟩
  · show (W.heap.modify B _)[B]? = _
    rw [Array.getElem?_eq_getElem (by rw [Array.size_modify]; exact hlt), Array.getElem_modify_self, hk]
    simp
  · rw [List.length_set] at hj
    have hc := h3 j hj
    have hcl := (Array.getElem?_eq_some_iff.1 hc).1
    by_cases e : k = j
    · subst e
      rw [Array.getElem?_setIfInBounds_self_of_lt hcl, List.getElem_set_self]
    · rw [Array.getElem?_setIfInBounds_ne e, List.getElem_set_ne e, hc]
theorem Bytes.lt {W : World} {B : Nat} {bs : List UInt8} (h : Bytes W B bs) : B < W.heap.size := by
  obtain ⟨cs, fz, h1, h2, h3⟩ := h
  exact (Array.getElem?_eq_some_iff.1 h1).1
theorem Bytes.text {W : World} {B : Nat} {bs : List UInt8} (h : Bytes W B bs) (cap : Nat) :
    (convert 39 9 (.slice (some ⟨B, 0, none⟩) bs.length cap)).run Tryz.prog W = .ok (.string ⟨bs.toArray⟩) W := by
  refine run_convert_bytes_back W 39 9 5 ⟨B, 0, none⟩ cap bs Tryz.underlying39 Tryz.underlying5 Tryz.underlying9 fun j hj => ?_
  have e3 : (⟨B, 0, none⟩ : Addr).add j = ⟨B, j, none⟩ := by simp [Addr.add]; exact fun h => h.symm
  rw [e3]
  exact h.cell j hj
theorem Bytes.new (W : World) (s : ByteArray) : Bytes (Go.Lib.bytesWorld W 5 s) W.heap.size s.data.toList := by
  refine ⟨_, _, Go.Lib.bytesWorld_at_new W 5 s, ?_, fun j hj => ?_⟩
  · simp [Go.Lib.bytesCells]
  · have hj' : j < s.size := by simpa using hj
    simp [Go.Lib.bytesCells, Array.getElem?_append, hj']
theorem first_at (a1 : Int) (n : Nat) (hn : n ≤ 3000) : ∃ F : Nat, F ≤ n ∧ wrap64 ((IntKind.u64.wrap a1).tmod ((n : Int) + 4 - 3)) = (F : Int) := by
  rw [IntKind.wrap_u64]
  have h0 : 0 ≤ a1 % 18446744073709551616 := Int.emod_nonneg _ (by decide)
  generalize a1 % 18446744073709551616 = x at h0
  rw [Int.tmod_eq_emod_of_nonneg h0, show (n : Int) + 4 - 3 = (n : Int) + 1 from by omega]
  have h1 := Int.emod_nonneg x (show (n : Int) + 1 ≠ 0 by omega)
  have h2 := Int.emod_lt_of_pos x (show 0 < (n : Int) + 1 by omega)
  refine ⟨(x % ((n : Int) + 1)).toNat, by omega, ?_⟩
  generalize x % ((n : Int) + 1) = y at h1 h2
  rw [Int.toNat_of_nonneg h1]
  simp only [wrap64]
  omega
theorem below_bytes (W : World) (s : ByteArray) : Below W.heap.size W (Go.Lib.bytesWorld W 5 s) :=
  ⟨rfl, rfl, rfl, by rw [Go.Lib.bytesWorld_size]; omega, fun k hk => Go.Lib.bytesWorld_at_old W 5 s k hk⟩

end Go.Proofs.YthecijjmgfempaaGreat.Cr
