/-
  What the Go functions count.sizeAhead, count.numberOf, count.Take and the document's Take answer, for every string: they only compute.
-/
import Derived.Test.YtklkacmeopfmhaaGreatCMath
import Derived.Test.YtklkacmeopfmhaaGreatLeaf
import Derived.WalkKit
import Derived.WalkSpells
import Derived.WalkLawsBesides
namespace Go.Proofs.YtklkacmeopfmhaaGreat
open Go.RowKit

theorem at_data (s : ByteArray) (k : Nat) (h : k < s.size) : s.data.toList[k]?.getD 0 = s[k] := by
  have h' : k < s.data.toList.length := by simpa using h
  rw [List.getElem?_eq_getElem h']
  rfl

theorem ret2_int {k j : IntKind} {a b c d : Int} (h : a = b) (h' : c = d) : Ending.returned (.tuple #[.int k a, .int j c]) = .returned (.tuple #[.int k b, .int j d]) := by rw [h, h']

def aheadF (l : List UInt8) : Int × Int :=
  if Cnt.fx l < 5 then if Cnt.fx l < l.length then ((Cnt.fx l + 1 : Nat), 0) else (0, 5) else (0, 2)

theorem aheadF_yes (l : List UInt8) (k : Nat) (h : Cnt.fx l = k) (h5 : k < 5) (hl : k < l.length) : aheadF l = ((k : Int) + 1, 0) := by
  unfold aheadF; rw [h, if_pos h5, if_pos hl]; rfl
theorem aheadF_short (l : List UInt8) (h : Cnt.fx l = l.length) (h5 : l.length < 5) : aheadF l = (0, 5) := by
  unfold aheadF; rw [h, if_pos h5, if_neg (by omega)]
theorem aheadF_long (l : List UInt8) (h : 5 ≤ Cnt.fx l) : aheadF l = (0, 2) := by
  unfold aheadF; rw [if_neg (by omega)]

set_option maxRecDepth 100000 in
set_option maxHeartbeats 400000 in
theorem sizeAhead_any (s : ByteArray) (w : World) (hs : s.size ≤ maxLen) :
    Calls Tryz.prog 99 #[.string s] w fun e w' => e = .returned (.tuple #[.int .i64 (aheadF s.data.toList).1, .int .i64 (aheadF s.data.toList).2]) ∧ w' = w := by
  unfold maxLen at hs
  have hfl := Cnt.fx_le s.data.toList
  have hlen : s.data.toList.length = s.size := by simp
  have hb := Cnt.fx_before s.data.toList
  have ha := Cnt.fx_at s.data.toList
  rw [hlen] at hfl ha
  have HB := hide hb
  have HA := hide ha
  have HL := hide hlen
  clear hb ha hlen
  go_enter Tryz.func99, Tryz.ntmps99
  go_wp2
  go_loop [5] (fun c => ∃ k : Nat, k ≤ 5 ∧ k ≤ Cnt.fx s.data.toList ∧ c = .int .i64 k) (fun c => (5 - (intOf c).toNat))
  case atStart => exact ⟨0, by omega, Nat.zero_le _, rfl⟩
  case round =>
    obtain ⟨k, hk5, hkf, rfl⟩ := hrel
    by_cases hlt : k < 5
    · by_cases hend : k < s.size
      · by_cases hlow : s[k].toNat < 128
        · have hfx : Cnt.fx s.data.toList = k := by
            rcases Nat.lt_or_ge k (Cnt.fx s.data.toList) with h | h
            · have := (unhide HB) k h; rw [at_data s k hend] at this; omega
            · omega
          have HF := hide (aheadF_yes _ k hfx hlt (by rw [unhide HL]; exact hend))
          clear hfx
          go_wp2
          go_ret2
          rw [unhide HF]
          exact ⟨rfl, rfl⟩
        · have hfx : k + 1 ≤ Cnt.fx s.data.toList := by
            rcases Nat.lt_or_ge k (Cnt.fx s.data.toList) with h | h
            · omega
            · have e : Cnt.fx s.data.toList = k := by omega
              have := (unhide HA) (by omega); rw [e, at_data s k hend] at this; omega
          go_wp2
          go_round
          case rel => exact ⟨k + 1, by omega, hfx, by go_num⟩
          case measure => simp [intOf]; omega
      · have hfx : Cnt.fx s.data.toList = s.data.toList.length := by rw [unhide HL]; omega
        have HF := hide (aheadF_short _ hfx (by rw [unhide HL]; omega))
        clear hfx
        have hbe : ((k : Int) == (s.size : Int)) = true := beq_iff_eq.2 (by omega)
        go_wp2
        go_ret2
        rw [unhide HF]
        exact ⟨rfl, rfl⟩
    · have HF := hide (aheadF_long s.data.toList (by omega))
      go_wp2
      go_ret2
      rw [unhide HF]
      exact ⟨rfl, rfl⟩

set_option maxRecDepth 100000 in
set_option maxHeartbeats 400000 in
theorem numberOf_any (s : ByteArray) (w : World) (hs : s.size ≤ 5) :
    Calls Tryz.prog 100 #[.string s] w fun e w' => e = .returned (.int .u64 (Cnt.num s.data.toList)) ∧ w' = w := by
  have hlen : s.data.toList.length = s.size := by simp
  have HL := hide hlen
  clear hlen
  go_enter Tryz.func100, Tryz.ntmps100
  go_wp2
  go_loop [3, 4] (fun n i => ∃ k : Nat, k ≤ s.size ∧ i = .int .i64 ((k : Int) - 1) ∧ n = .int .u64 (Cnt.num (s.data.toList.drop k))) (fun _ i => (intOf i + 1).toNat)
  case atStart => exact ⟨s.size, Nat.le_refl _, rfl, by rw [List.drop_of_length_le (by rw [unhide HL]; exact Nat.le_refl _)]; rfl⟩
  case round =>
    obtain ⟨k, hk, rfl, rfl⟩ := hrel
    cases k with
    | zero =>
      go_wp2
      go_ret
      exact ⟨rfl, rfl⟩
    | succ k =>
      have hd := Cnt.num_drop s.data.toList k (by rw [unhide HL]; omega)
      have hb1 := Cnt.num_le5 (s.data.toList.drop (k + 1)) (by simp; omega)
      have hb0 := Cnt.num_le5 (s.data.toList.drop k) (by simp; omega)
      rw [at_data s k (by omega)] at hd
      have HD := hide hd
      clear hd
      go_wp2
      go_round
      case rel => exact ⟨k, by omega, by go_num, by rw [unhide HD]; go_num⟩
      case measure => simp [intOf]

theorem ext_data (s : ByteArray) (k : Nat) : (s.extract 0 k).data.toList = s.data.toList.take k := by simp
theorem ext_size (s : ByteArray) (k : Nat) (h : k ≤ s.size) : (s.extract 0 k).size = k := by simp; omega

theorem takeF_of (l : List UInt8) (a b c : Int) (h : Cnt.takeF l = (a, b, c)) : Ending.returned (.tuple #[.int .i64 a, .int .i64 b, .int .i64 c]) = .returned (.tuple #[.int .i64 (Cnt.takeF l).1, .int .i64 (Cnt.takeF l).2.1, .int .i64 (Cnt.takeF l).2.2]) := by rw [h]
theorem takeF_short (l : List UInt8) (h : Cnt.fx l = l.length) (h5 : l.length < 5) : Cnt.takeF l = (0, 0, 5) := by
  unfold Cnt.takeF; rw [h, if_pos h5, if_neg (by omega)]
theorem takeF_long (l : List UInt8) (h : 5 ≤ Cnt.fx l) : Cnt.takeF l = (0, 0, 2) := by
  unfold Cnt.takeF; rw [if_neg (by omega)]
theorem takeF_form (l : List UInt8) (k : Nat) (h : Cnt.fx l = k) (h5 : k < 5) (hl : k < l.length) (hz : 0 < k ∧ (l[k]?.getD 0).toNat = 0) : Cnt.takeF l = (0, 0, 7) := by
  unfold Cnt.takeF; rw [h, if_pos h5, if_pos hl, if_pos hz]
theorem takeF_great (l : List UInt8) (k : Nat) (h : Cnt.fx l = k) (h5 : k < 5) (hl : k < l.length) (hz : ¬ (0 < k ∧ (l[k]?.getD 0).toNat = 0)) (hm : 1073741824 < Cnt.num (l.take (k + 1))) : Cnt.takeF l = (0, 0, 2) := by
  unfold Cnt.takeF; rw [h, if_pos h5, if_pos hl, if_neg hz, if_pos hm]
theorem takeF_good (l : List UInt8) (k : Nat) (h : Cnt.fx l = k) (h5 : k < 5) (hl : k < l.length) (hz : ¬ (0 < k ∧ (l[k]?.getD 0).toNat = 0)) (hm : ¬ 1073741824 < Cnt.num (l.take (k + 1))) : Cnt.takeF l = ((Cnt.num (l.take (k + 1)) : Int), (k : Int) + 1, 0) := by
  unfold Cnt.takeF; rw [h, if_pos h5, if_pos hl, if_neg hz, if_neg hm]; rfl

set_option maxRecDepth 100000 in
set_option maxHeartbeats 400000 in
theorem Take_any (s : ByteArray) (w : World) (hs : s.size ≤ maxLen) :
    Calls Tryz.prog 88 #[.string s] w fun e w' => e = .returned (.tuple #[.int .i64 (Cnt.takeF s.data.toList).1, .int .i64 (Cnt.takeF s.data.toList).2.1, .int .i64 (Cnt.takeF s.data.toList).2.2]) ∧ w' = w := by
  have hs' := hs
  unfold maxLen at hs
  have hfl := Cnt.fx_le s.data.toList
  have hlen : s.data.toList.length = s.size := by simp
  rw [hlen] at hfl
  by_cases h5 : Cnt.fx s.data.toList < 5
  · by_cases hl : Cnt.fx s.data.toList < s.size
    · obtain ⟨k, hk⟩ : ∃ k, Cnt.fx s.data.toList = k := ⟨_, rfl⟩
      have hA := aheadF_yes _ k hk (by omega) (by rw [hlen]; omega)
      rw [hk] at h5 hl hfl
      have HL := hide hlen
      have HK := hide hk
      have HA := hide hA
      clear hk hA hlen
      by_cases hz : 0 < k ∧ (s[k]).toNat = 0
      · have HF := hide (takeF_form _ k (unhide HK) h5 (by rw [unhide HL]; exact hl) (by rw [at_data s k hl]; exact hz))
        obtain ⟨hz1, hz2⟩ := hz
        have HZ := hide hz2
        clear hz2
        go_enter Tryz.func88, Tryz.ntmps88
        go_wp2_with fail
        refine (sizeAhead_any s _ hs').mono ?_
        rintro e w' ⟨rfl, rfl⟩
        rw [unhide HA]
        have hzz : ((s[k].toNat : Int) == 0) = true := by rw [unhide HZ]; rfl
        have hkk : ((k : Int) + 1 - 1) = k := by omega
        go_wp2_with fail
        go_ret3
        exact ⟨takeF_of _ _ _ _ (unhide HF), rfl⟩
      · have hz' : k = 0 ∨ (0 < k ∧ ((s[k].toNat : Int) == 0) = false) := by
          rcases Nat.eq_zero_or_pos k with h | h
          · exact .inl h
          · exact .inr ⟨h, beq_eq_false_iff_ne.2 (by omega)⟩
        have hz2 : ¬ (0 < k ∧ (s.data.toList[k]?.getD 0).toNat = 0) := by rw [at_data s k hl]; exact hz
        clear hz
        go_enter Tryz.func88, Tryz.ntmps88
        go_wp2_with fail
        refine (sizeAhead_any s _ hs').mono ?_
        rintro e w' ⟨rfl, rfl⟩
        rw [unhide HA]
        have hkk : ((k : Int) + 1 - 1) = k := by omega
        obtain ⟨N, hN⟩ : ∃ N, Cnt.num (s.data.toList.take (k + 1)) = N := ⟨_, rfl⟩
        have hb := Cnt.num_le5 (s.data.toList.take (k + 1)) (by simp; omega)
        have hG := takeF_great _ k (unhide HK) h5 (by rw [unhide HL]; exact hl) hz2
        have hO := takeF_good _ k (unhide HK) h5 (by rw [unhide HL]; exact hl) hz2
        rw [hN] at hb hG hO
        have HG := hide hG
        have HO := hide hO
        have HN := hide hN
        clear hN hG hO hz2
        rcases hz' with rfl | ⟨hk0, hzz⟩
        all_goals
          go_wp2_with fail
          refine (numberOf_any _ _ (by rw [ext_size _ _ (by omega)]; omega)).mono ?_
          rintro e w'' ⟨rfl, rfl⟩
          rw [ext_data, unhide HN]
          by_cases hm : 1073741824 < N
        · have HF := hide ((unhide HG) hm)
          go_wp2
          go_ret3
          exact ⟨takeF_of _ _ _ _ (unhide HF), rfl⟩
        · have HF := hide ((unhide HO) hm)
          go_wp2
          go_ret3
          exact ⟨takeF_of _ _ _ _ (unhide HF), rfl⟩
        · have HF := hide ((unhide HG) hm)
          go_wp2
          go_ret3
          exact ⟨takeF_of _ _ _ _ (unhide HF), rfl⟩
        · have HF := hide ((unhide HO) hm)
          go_wp2
          go_ret3
          exact ⟨takeF_of _ _ _ _ (unhide HF), rfl⟩
    · have hk : Cnt.fx s.data.toList = s.data.toList.length := by rw [hlen]; omega
      have HA := hide (aheadF_short _ hk (by rw [hlen]; omega))
      have HF := hide (takeF_short _ hk (by rw [hlen]; omega))
      clear hk hlen
      go_enter Tryz.func88, Tryz.ntmps88
      go_wp2_with fail
      refine (sizeAhead_any s _ hs').mono ?_
      rintro e w' ⟨rfl, rfl⟩
      rw [unhide HA]
      go_wp2
      go_ret3
      exact ⟨takeF_of _ _ _ _ (unhide HF), rfl⟩
  · have HA := hide (aheadF_long s.data.toList (by omega))
    have HF := hide (takeF_long s.data.toList (by omega))
    clear hlen
    go_enter Tryz.func88, Tryz.ntmps88
    go_wp2_with fail
    refine (sizeAhead_any s _ hs').mono ?_
    rintro e w' ⟨rfl, rfl⟩
    rw [unhide HA]
    go_wp2
    go_ret3
    exact ⟨takeF_of _ _ _ _ (unhide HF), rfl⟩

set_option maxRecDepth 100000 in
set_option maxHeartbeats 400000 in
theorem refTake_any (s : ByteArray) (w : World) (hs : s.size ≤ maxLen) :
    Calls Tryz.prog 76 #[.string s] w fun e w' => e = .returned (.tuple #[.int .i64 (Cnt.takeF s.data.toList).1, .int .i64 (Cnt.takeF s.data.toList).2.1, .int .i64 (Cnt.takeF s.data.toList).2.2]) ∧ w' = w := by
  unfold maxLen at hs
  have hfl := Cnt.fx_le s.data.toList
  have hlen : s.data.toList.length = s.size := by simp
  have hb := Cnt.fx_before s.data.toList
  have ha := Cnt.fx_at s.data.toList
  rw [hlen] at hfl ha
  have HB := hide hb
  have HA := hide ha
  have HL := hide hlen
  clear hb ha hlen
  go_enter Tryz.func76, Tryz.ntmps76
  go_wp2
  go_loop [5, 6, 7] (fun n u i => ∃ k : Nat, k ≤ 5 ∧ k ≤ Cnt.fx s.data.toList ∧ i = .int .i64 k ∧ n = .int .i64 (Cnt.num (s.data.toList.take k) : Nat) ∧ u = .int .i64 (128 ^ k : Nat)) (fun _ _ i => (5 - (intOf i).toNat))
  case atStart => exact ⟨0, by omega, Nat.zero_le _, rfl, rfl, rfl⟩
  case round =>
    obtain ⟨k, hk5, hkf, rfl, rfl, rfl⟩ := hrel
    by_cases hlt : k < 5
    · by_cases hend : k < s.size
      · have hn0 := Cnt.num_le5 (s.data.toList.take k) (by simp; omega)
        have hn1 := Cnt.num_le5 (s.data.toList.take (k + 1)) (by simp; omega)
        have hnt := Cnt.num_take s.data.toList k (by rw [unhide HL]; exact hend)
        rw [at_data s k hend] at hnt
        have hp0 := Cnt.pow_le5 k (by omega)
        have hp1 := Cnt.pow_le5 (k + 1) (by omega)
        have hps : 128 ^ (k + 1) = 128 ^ k * 128 := Nat.pow_succ ..
        obtain ⟨N, hN⟩ : ∃ N, Cnt.num (s.data.toList.take k) = N := ⟨_, rfl⟩
        obtain ⟨M, hM⟩ : ∃ M, Cnt.num (s.data.toList.take (k + 1)) = M := ⟨_, rfl⟩
        obtain ⟨U, hU⟩ : ∃ U, 128 ^ k = U := ⟨_, rfl⟩
        obtain ⟨V, hV⟩ : ∃ V, 128 ^ (k + 1) = V := ⟨_, rfl⟩
        rw [hN] at hn0 hnt
        rw [hM] at hn1 hnt
        rw [hU] at hp0 hps hnt
        rw [hV] at hp1 hps
        rw [hN, hU]
        have hb256 : s[k].toNat < 256 := s[k].toNat_lt
        have hmi : ((s[k].toNat : Int) % 128 * (U : Int)) = ((s[k].toNat % 128 * U : Nat) : Int) := by simp
        have hm0 : 0 ≤ ((s[k].toNat : Int) % 128 * (U : Int)) := by omega
        have hm1 : ((s[k].toNat : Int) % 128 * (U : Int)) ≤ 34359738368 := by omega
        have hsum : (N : Int) + ((s[k].toNat : Int) % 128 * (U : Int)) = (M : Int) := by omega
        have hsum' : (U : Int) * 128 = (V : Int) := by omega
        have HS := hide hsum
        have HU := hide hsum'
        have HV := hide hV
        have HM := hide hM
        clear hmi hsum hsum' hps hnt hN hM hU hV
        by_cases hlow : s[k].toNat < 128
        · have hfx : Cnt.fx s.data.toList = k := by
            rcases Nat.lt_or_ge k (Cnt.fx s.data.toList) with h | h
            · have := (unhide HB) k h; rw [at_data s k hend] at this; omega
            · omega
          by_cases hz : s[k].toNat = 0
          · have hzz : ((s[k].toNat : Int) == 0) = true := beq_iff_eq.2 (by omega)
            by_cases hk0 : 0 < k
            · have HF := hide (takeF_form _ k hfx hlt (by rw [unhide HL]; exact hend) (by rw [at_data s k hend]; exact ⟨hk0, hz⟩))
              clear hfx hz
              go_wp2
              go_ret3
              exact ⟨takeF_of _ _ _ _ (unhide HF), rfl⟩
            · have hz2 : ¬ (0 < k ∧ (s.data.toList[k]?.getD 0).toNat = 0) := by omega
              by_cases hm : 1073741824 < M
              · have HF := hide (takeF_great _ k hfx hlt (by rw [unhide HL]; exact hend) hz2 (by rw [unhide HM]; exact hm))
                clear hfx hz hz2
                have hmm : 1073741824 < (N : Int) + ((s[k].toNat : Int) % 128 * (U : Int)) := by rw [unhide HS]; omega
                go_wp2
                go_ret3
                exact ⟨takeF_of _ _ _ _ (unhide HF), rfl⟩
              · have hO := takeF_good _ k hfx hlt (by rw [unhide HL]; exact hend) hz2 (by rw [unhide HM]; exact hm)
                rw [unhide HM] at hO
                have HF := hide hO
                clear hfx hz hz2 hO
                have hmm : (N : Int) + ((s[k].toNat : Int) % 128 * (U : Int)) ≤ 1073741824 := by rw [unhide HS]; omega
                go_wp2
                go_ret3
                exact ⟨takeF_of _ _ _ _ (by rw [unhide HF, ← unhide HS]), rfl⟩
          · have hzz : ((s[k].toNat : Int) == 0) = false := beq_eq_false_iff_ne.2 (by omega)
            have hz2 : ¬ (0 < k ∧ (s.data.toList[k]?.getD 0).toNat = 0) := by rw [at_data s k hend]; omega
            by_cases hm : 1073741824 < M
            · have HF := hide (takeF_great _ k hfx hlt (by rw [unhide HL]; exact hend) hz2 (by rw [unhide HM]; exact hm))
              clear hfx hz hz2
              have hmm : 1073741824 < (N : Int) + ((s[k].toNat : Int) % 128 * (U : Int)) := by rw [unhide HS]; omega
              go_wp2
              go_ret3
              exact ⟨takeF_of _ _ _ _ (unhide HF), rfl⟩
            · have hO := takeF_good _ k hfx hlt (by rw [unhide HL]; exact hend) hz2 (by rw [unhide HM]; exact hm)
              rw [unhide HM] at hO
              have HF := hide hO
              clear hfx hz hz2 hO
              have hmm : (N : Int) + ((s[k].toNat : Int) % 128 * (U : Int)) ≤ 1073741824 := by rw [unhide HS]; omega
              go_wp2
              go_ret3
              exact ⟨takeF_of _ _ _ _ (by rw [unhide HF, ← unhide HS]), rfl⟩
        · have hfx : k + 1 ≤ Cnt.fx s.data.toList := by
            rcases Nat.lt_or_ge k (Cnt.fx s.data.toList) with h | h
            · omega
            · have e : Cnt.fx s.data.toList = k := by omega
              have := (unhide HA) (by omega); rw [e, at_data s k hend] at this; omega
          go_wp2
          go_round
          case rel => exact ⟨k + 1, by omega, hfx, by go_num, by rw [unhide HM, ← unhide HS], by rw [unhide HV, ← unhide HU]⟩
          case measure => simp [intOf]; omega
      · have hfx : Cnt.fx s.data.toList = s.data.toList.length := by rw [unhide HL]; omega
        have HF := hide (takeF_short _ hfx (by rw [unhide HL]; omega))
        clear hfx
        have hbe : ((k : Int) == (s.size : Int)) = true := beq_iff_eq.2 (by omega)
        go_wp2
        go_ret3
        exact ⟨takeF_of _ _ _ _ (unhide HF), rfl⟩
    · have HF := hide (takeF_long s.data.toList (by omega))
      go_wp2
      go_ret3
      exact ⟨takeF_of _ _ _ _ (unhide HF), rfl⟩
end Go.Proofs.YtklkacmeopfmhaaGreat
