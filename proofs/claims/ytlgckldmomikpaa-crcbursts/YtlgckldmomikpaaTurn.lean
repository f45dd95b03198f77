/-
  Plain facts on a row of bytes that is turned within four bytes: a sealed text that was turned so is no sealed text. No Go, no world.
-/
import Derived.Test.YtlgckldmomikpaaMath
namespace Go.Proofs.Ytlgckldmomikpaa.Crc

def byteAt (m i : Nat) : UInt8 := UInt8.ofNat (m / 2 ^ (8 * i) % 256)

/-- The row l, with the first k bytes of m put to it from f on. -/
def Turned (l : List UInt8) (f m k : Nat) (bs : List UInt8) : Prop :=
  bs.length = l.length ∧ ∀ j x, l[j]? = some x → bs[j]? = some (if f ≤ j ∧ j < f + k then x ^^^ byteAt m (j - f) else x)

theorem turned_none (l : List UInt8) (f m : Nat) : Turned l f m 0 l := ⟨rfl, fun j x h => by rw [h, if_neg (by omega)]⟩

theorem turned_step (l : List UInt8) (f m k : Nat) (bs : List UInt8) (x : UInt8) (h : Turned l f m k bs) (hx : bs[f + k]? = some x) : Turned l f m (k + 1) (bs.set (f + k) (x ^^^ byteAt m k)) := by
  obtain ⟨h1, h2⟩ := h
  refine ⟨by rw [List.length_set, h1], fun j y hy => ?_⟩
  have hb := h2 j y hy
  by_cases e : f + k = j
  · subst e
    obtain ⟨hl, _⟩ := List.getElem?_eq_some_iff.1 hx
    rw [List.getElem?_set_self hl, if_pos (by omega)]
    rw [hx, if_neg (by omega)] at hb
    have hxy : x = y := by simpa using hb
    rw [hxy, Nat.add_sub_cancel_left]
  · rw [List.getElem?_set_ne e, hb]
    by_cases hc : f ≤ j ∧ j < f + k
    · rw [if_pos hc, if_pos (by omega)]
    · rw [if_neg hc, if_neg (by omega)]

theorem byteAt_le (m i : Nat) (h : i < 4) : (le 4 m)[i]? = some (byteAt m i) := by
  have h2 : m / 256 / 256 = m / 65536 := by omega
  have h3 : m / 256 / 256 / 256 = m / 16777216 := by omega
  rcases i with _ | _ | _ | _ | i
  · simp [le, byteAt]
  · simp [le, byteAt]
  · simp [le, byteAt, h2]
  · simp [le, byteAt, h3]
  · omega

theorem turned_all (l : List UInt8) (f m r : Nat) (bs : List UInt8) (hl : l.length = f + 4 + r) (h : Turned l f m 4 bs) :
    List.zipWith (· ^^^ ·) l (List.replicate f 0 ++ le 4 m ++ List.replicate r 0) = bs := by
  obtain ⟨h1, h2⟩ := h
  apply List.ext_getElem?
  intro j
  by_cases hj : j < l.length
  · have hx := List.getElem?_eq_getElem hj
    rw [h2 j _ hx, List.getElem?_zipWith, hx]
    by_cases hc : f ≤ j ∧ j < f + 4
    · have hE : (List.replicate f (0 : UInt8) ++ le 4 m ++ List.replicate r 0)[j]? = some (byteAt m (j - f)) := by
        rw [List.append_assoc, List.getElem?_append_right (by simp; omega), List.getElem?_append_left (by rw [le_len]; simp; omega), List.length_replicate, byteAt_le m _ (by omega)]
      rw [hE, if_pos hc]
    · have hE : (List.replicate f (0 : UInt8) ++ le 4 m ++ List.replicate r 0)[j]? = some 0 := by
        rw [List.append_assoc]
        by_cases hf : j < f
        · rw [List.getElem?_append_left (by simpa using hf), List.getElem?_replicate, if_pos hf]
        · rw [List.getElem?_append_right (by simp; omega), List.getElem?_append_right (by rw [le_len]; simp; omega), List.getElem?_replicate, if_pos (by rw [le_len]; simp; omega)]
      rw [hE, if_neg hc]
      simp
  · rw [List.getElem?_eq_none (by simp; omega), List.getElem?_eq_none (by omega)]

theorem turned_zero (l : List UInt8) (f : Nat) (bs : List UInt8) (h : Turned l f 0 4 bs) : bs = l := by
  obtain ⟨h1, h2⟩ := h
  apply List.ext_getElem?
  intro j
  by_cases hj : j < l.length
  · have hx := List.getElem?_eq_getElem hj
    rw [h2 j _ hx, hx]
    simp [byteAt]
  · rw [List.getElem?_eq_none (by omega), List.getElem?_eq_none (by omega)]

/-- Behind the turning of at least one bit: no sealed text. -/
theorem turned_seen (l : List UInt8) (f m : Nat) (bs : List UInt8) (hf : f ≤ l.length) (hm : m < 4294967296) (hm0 : m ≠ 0) (h : Turned (sealL l) f m 4 bs) :
    bs.drop l.length ≠ le 4 (sum (bs.take l.length)) := by
  intro hs
  have hl : (sealL l).length = f + 4 + (l.length - f) := by unfold sealL; rw [List.length_append, le_len]; omega
  refine burst l (bs.take l.length) f (l.length - f) m (sum (bs.take l.length)) hm hm0 (sum_lt _) hl ?_ rfl
  rw [turned_all _ f m _ bs hl h, ← hs, List.take_append_drop]

end Go.Proofs.Ytlgckldmomikpaa.Crc
