/-
  Plain facts on digests in signs. No Go, no world.
-/
import Derived.Test.YtkdhpnijcgegbaaDoorFill
namespace Go.Proofs.YtkdhpnijcgegbaaDoor.Sha

theorem mid_setQ {α : Type} (L S : List α) (k : Nat) (x : α) (hx : L[k]? = some x) (hS : k < S.length) : (L.take k ++ S.drop k).set k x = L.take (k + 1) ++ S.drop (k + 1) := by
  obtain ⟨h, rfl⟩ := List.getElem?_eq_some_iff.1 hx
  exact mid_set L S k h hS

theorem hex_cons (b : UInt8) (d : List UInt8) : hex (b :: d) = sign (b.toNat / 16) :: sign (b.toNat % 16) :: hex d := rfl
theorem hex_len (d : List UInt8) : (hex d).length = 2 * d.length := by
  induction d with
  | nil => rfl
  | cons b d ih => rw [hex_cons, List.length_cons, List.length_cons, List.length_cons, ih]; omega

theorem hex_at (d : List UInt8) (k : Nat) (b : UInt8) (h : d[k]? = some b) : (hex d)[2 * k]? = some (sign (b.toNat / 16)) ∧ (hex d)[2 * k + 1]? = some (sign (b.toNat % 16)) := by
  induction d generalizing k with
  | nil => simp at h
  | cons c d ih =>
    rw [hex_cons]
    cases k with
    | zero =>
      simp only [List.getElem?_cons_zero, Option.some.injEq] at h
      subst h
      exact ⟨rfl, rfl⟩
    | succ k =>
      rw [List.getElem?_cons_succ] at h
      have := ih k h
      rw [show 2 * (k + 1) = 2 * k + 1 + 1 by omega]
      simp only [List.getElem?_cons_succ]
      exact this

/-- A sign's number is the sign's own. -/
theorem num_sign (n : Nat) (h : n < 16) : num (sign n) = some n := by
  have : n = 0 ∨ n = 1 ∨ n = 2 ∨ n = 3 ∨ n = 4 ∨ n = 5 ∨ n = 6 ∨ n = 7 ∨ n = 8 ∨ n = 9 ∨ n = 10 ∨ n = 11 ∨ n = 12 ∨ n = 13 ∨ n = 14 ∨ n = 15 := by omega
  rcases this with rfl | rfl | rfl | rfl | rfl | rfl | rfl | rfl | rfl | rfl | rfl | rfl | rfl | rfl | rfl | rfl <;> decide

theorem num_lt (c : UInt8) (n : Nat) (h : num c = some n) : n < 16 := by
  unfold num at h
  split at h
  · simp at h; omega
  · split at h
    · simp at h; omega
    · simp at h

theorem sign_num (c : UInt8) (n : Nat) (h : num c = some n) : sign n = c := by
  have hc := c.toNat_lt
  unfold num at h
  split at h
  · simp at h
    unfold sign
    rw [if_pos (by omega)]
    apply UInt8.toNat_inj.1
    rw [UInt8.toNat_ofNat']
    omega
  · split at h
    · simp at h
      unfold sign
      rw [if_neg (by omega)]
      apply UInt8.toNat_inj.1
      rw [UInt8.toNat_ofNat']
      omega
    · simp at h

theorem val_lt (s : List UInt8) (i : Nat) : val s i < 16 := by
  unfold val
  cases h : num (s.getD i 0) with
  | none => simp
  | some n => simpa using num_lt _ _ h

theorem part_len (s : List UInt8) (i : Nat) : (part s i).length = 32 := by simp [part]

theorem part_zero (s : List UInt8) : part s 0 = zeros := by
  apply List.ext_getElem
  · simp [part, zeros]
  · intro j h1 h2
    simp only [part, zeros, List.getElem_map, List.getElem_range, List.getElem_replicate]
    rw [if_neg (by omega), if_neg (by omega)]

/-- One sign more. -/
theorem part_set (s : List UInt8) (i n : Nat) (hn : num (s.getD i 0) = some n) (x : UInt8) (hx : (part s i)[i / 2]? = some x) :
    (part s i).set (i / 2) (UInt8.ofNat ((x.toNat * 16 + n) % 256)) = part s (i + 1) := by
  have hv : val s i = n := by unfold val; rw [hn]; rfl
  have hn16 := num_lt _ _ hn
  apply List.ext_getElem
  · simp [part]
  · intro j h1 h2
    rw [List.getElem_set]
    have hj : j < 32 := by simpa [part] using h2
    have hxe : x = if 2 * (i / 2) + 1 < i then UInt8.ofNat (val s (2 * (i / 2)) * 16 + val s (2 * (i / 2) + 1)) else if 2 * (i / 2) < i then UInt8.ofNat (val s (2 * (i / 2))) else 0 := by
      obtain ⟨h, e⟩ := List.getElem?_eq_some_iff.1 hx
      rw [← e]
      simp [part]
    split
    · rename_i hij
      subst hij
      rw [if_neg (by omega)] at hxe
      rcases Nat.mod_two_eq_zero_or_one i with hm | hm
      · rw [if_neg (by omega)] at hxe
        subst hxe
        have e2 : 2 * (i / 2) = i := by omega
        simp only [part, List.getElem_map, List.getElem_range, e2]
        rw [if_neg (by omega), if_pos (by omega), hv, show ((0 : UInt8).toNat * 16 + n) % 256 = n by rw [show (0 : UInt8).toNat = 0 from rfl]; omega]
      · rw [if_pos (by omega)] at hxe
        have hv2 := val_lt s (2 * (i / 2))
        have ex : x.toNat = val s (2 * (i / 2)) := by rw [hxe, UInt8.toNat_ofNat']; omega
        have e2 : 2 * (i / 2) + 1 = i := by omega
        simp only [part, List.getElem_map, List.getElem_range]
        rw [if_pos (by omega), ex, e2, hv, Nat.mod_eq_of_lt (by omega)]
    · rename_i hij
      simp only [part, List.getElem_map, List.getElem_range]
      by_cases h3 : 2 * j + 1 < i
      · rw [if_pos h3, if_pos (by omega)]
      · rw [if_neg h3, if_neg (show ¬ 2 * j < i by omega), if_neg (show ¬ 2 * j + 1 < i + 1 by omega), if_neg (show ¬ 2 * j < i + 1 by omega)]

theorem bad_iff (s : List UInt8) : bad s = true ↔ ∃ i, i < 64 ∧ i < s.length ∧ num (s.getD i 0) = none := by
  unfold bad
  rw [List.any_eq_true]
  constructor
  · rintro ⟨c, hc, h⟩
    obtain ⟨i, hi, rfl⟩ := List.mem_iff_getElem.1 hc
    have hi2 := hi
    rw [List.length_take] at hi2
    refine ⟨i, by omega, by omega, ?_⟩
    have e : s.getD i 0 = (s.take 64)[i] := by simp [List.getD, show i < s.length by omega]
    rw [e]
    simpa using h
  · rintro ⟨i, h1, h2, h⟩
    refine ⟨s[i], List.mem_iff_getElem.2 ⟨i, by simp; omega, by simp⟩, ?_⟩
    have e : s.getD i 0 = s[i] := by simp [List.getD, h2]
    rw [e] at h
    simp [h]

/-- A digest in signs is read as it was. -/
theorem unhex_hex (d : List UInt8) (hd : d.length = 32) : unhex (hex d) = (d, 0) := by
  have hl : (hex d).length = 64 := by rw [hex_len, hd]
  have hat : ∀ j, (hj : j < 32) → num ((hex d).getD (2 * j) 0) = some ((d[j]'(by omega)).toNat / 16) ∧ num ((hex d).getD (2 * j + 1) 0) = some ((d[j]'(by omega)).toNat % 16) := by
    intro j hj
    obtain ⟨h1, h2⟩ := hex_at d j (d[j]'(by omega)) (List.getElem?_eq_getElem _)
    have hb := (d[j]'(by omega)).toNat_lt
    simp only [List.getD, h1, h2, Option.getD_some]
    exact ⟨num_sign _ (by omega), num_sign _ (by omega)⟩
  have hb : bad (hex d) = false := by
    cases h : bad (hex d) with
    | false => rfl
    | true =>
      obtain ⟨i, h1, _, h3⟩ := (bad_iff _).1 h
      have := hat (i / 2) (by omega)
      rcases Nat.mod_two_eq_zero_or_one i with hm | hm
      · rw [show 2 * (i / 2) = i by omega, h3] at this; simp at this
      · rw [show 2 * (i / 2) + 1 = i by omega, h3] at this; simp at this
  unfold unhex
  rw [hb, hl]
  simp only [Bool.false_eq_true, if_false, Nat.lt_irrefl, Prod.mk.injEq, and_true]
  apply List.ext_getElem
  · simp [part, hd]
  · intro j h1 h2
    have hj : j < 32 := by omega
    obtain ⟨e1, e2⟩ := hat j hj
    have hbd := (d[j]'(by omega)).toNat_lt
    simp only [part, List.getElem_map, List.getElem_range]
    rw [if_pos (by omega)]
    apply UInt8.toNat_inj.1
    rw [UInt8.toNat_ofNat']
    simp only [val, e1, e2, Option.getD_some]
    omega

/-- Signs that are read are those that are written. -/
theorem hex_unhex (s b : List UInt8) (h : unhex s = (b, 0)) : hex b = s := by
  unfold unhex at h
  split at h
  · simp at h
  · rename_i hbad
    split at h
    · simp at h
    · split at h
      · simp at h
      · simp only [Prod.mk.injEq, and_true] at h
        subst h
        have hl : s.length = 64 := by omega
        have hall : ∀ i, i < 64 → ∃ n, num (s.getD i 0) = some n := by
          intro i hi
          cases hn : num (s.getD i 0) with
          | some n => exact ⟨n, rfl⟩
          | none => exact absurd ((bad_iff s).2 ⟨i, hi, by omega, hn⟩) hbad
        apply List.ext_getElem?
        intro i
        by_cases hi : i < 64
        · have hj : i / 2 < 32 := by omega
          have hx : (part s 64)[i / 2]? = some (UInt8.ofNat (val s (2 * (i / 2)) * 16 + val s (2 * (i / 2) + 1))) := by
            rw [List.getElem?_eq_getElem (by rw [part_len]; exact hj)]
            simp only [part, List.getElem_map, List.getElem_range]
            rw [if_pos (by omega)]
          obtain ⟨h1, h2⟩ := hex_at _ _ _ hx
          have l1 := val_lt s (2 * (i / 2))
          have l2 := val_lt s (2 * (i / 2) + 1)
          have et : (UInt8.ofNat (val s (2 * (i / 2)) * 16 + val s (2 * (i / 2) + 1))).toNat = val s (2 * (i / 2)) * 16 + val s (2 * (i / 2) + 1) := by rw [UInt8.toNat_ofNat']; omega
          rw [et] at h1 h2
          have hs : s[i]? = some (s.getD i 0) := by rw [List.getElem?_eq_getElem (by omega)]; simp [List.getD, show i < s.length by omega]
          obtain ⟨n, hn⟩ := hall i hi
          have hv : val s i = n := by unfold val; rw [hn]; rfl
          rcases Nat.mod_two_eq_zero_or_one i with hm | hm
          · rw [show 2 * (i / 2) = i by omega] at h1 l1
            rw [h1, hs, show (val s i * 16 + val s (i + 1)) / 16 = val s i by rw [show 2 * (i / 2) = i by omega] at l2; omega, hv, sign_num _ _ hn]
          · rw [show 2 * (i / 2) + 1 = i by omega] at h2 l2
            rw [h2, hs, show (val s (2 * (i / 2)) * 16 + val s i) % 16 = val s i by omega, hv, sign_num _ _ hn]
        · rw [List.getElem?_eq_none (by rw [hex_len, part_len]; omega), List.getElem?_eq_none (by omega)]
end Go.Proofs.YtkdhpnijcgegbaaDoor.Sha
