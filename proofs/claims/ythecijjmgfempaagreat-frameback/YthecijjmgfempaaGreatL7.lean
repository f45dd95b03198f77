/-
  The walk of a law: what is sealed is opened, and what is opened is what is sealed.
-/
import Derived.Test.YthecijjmgfempaaGreatMathF
import Derived.Test.YthecijjmgfempaaGreatF4
import Derived.Test.YthecijjmgfempaaGreatL5
namespace Go.Proofs.YthecijjmgfempaaGreat
open Go.RowKit

theorem seal_small {m : Msg} (hr : m.root.length = 32) (h : checkM m = 0) : (bytesM m).1.length ≤ 1000000 := by
  have h1 := encM_len h hr
  rw [bytesM_ok h]
  dsimp only
  omega

set_option maxRecDepth 100000 in
set_option maxHeartbeats 4000000 in
theorem fback_walk (m : Msg) (a b : Option Addr) (c d : Nat) (hr : m.root.length = 32) (hn : m.rows.length ≤ 9223372036854775807) (s : ByteArray) (hs : s.size ≤ 9223372036854775807) (w : World) (s1 : Sl w a m.ctx) (s2 : RL w b m.rows) :
    Calls Tryz.prog 4 #[.agg (mL m a c b d).toArray, .string s] w fun e w' => e = .returned (.bool true) ∧ Below w.heap.size w w' := by
  have HR := hide (VRow.new w 28 (mL m a c b d))
  have HB := hide (below_alloc' (w := w) (.cells (mL m a c b d).toArray 28))
  have HL := hide (mL_len hr a c b d)
  have HS1 := hide (s1.after (unhide HB))
  have HS2 := hide (s2.after (unhide HB))
  have KG := hide (great_any m a b c d _ hr hn (unhide HS2))
  obtain ⟨G, hG⟩ : ∃ G, greatM m = G := ⟨_, rfl⟩
  rw [hG] at KG
  cases G with
  | true =>
    clear hr hn s1 s2 hG
    go_enter Tryz.func4, Tryz.ntmps4
    go_wp2_with ((with_reducible refine at27 ?_); (refine load_msg (by rfl) (.tmp 2) (by rfl) w.heap.size (by rfl) _ (unhide HR) (unhide HL) ?_))
    refine (unhide KG).mono ?_
    rintro e w1 ⟨rfl, hb⟩
    have HB1 := hide (below_grow (unhide HB) (Nat.le_refl _) hb)
    have HR1 := hide ((unhide HR).after hb)
    have HT1 := hide ((unhide HS1).after hb)
    have HT2 := hide ((unhide HS2).after hb)
    clear hb
    go_wp2_with fail
    refine (awake_any _).mono ?_
    rintro e w90 ⟨rfl, hb⟩
    have HB90 := hide (below_grow (unhide HB1) (Nat.le_refl _) hb)
    clear hb
    go_wp2_with fail
    go_ret
    exact ⟨rfl, unhide HB90⟩
  | false =>
    have hf := few_of hG hr
    obtain ⟨g1, g2, g3, g4, g5⟩ := greatM_no hG
    by_cases h8 : 140000 < s.size
    · clear hr hn s1 s2 hG hf g1 g2 g3 g4 g5
      go_enter Tryz.func4, Tryz.ntmps4
      go_wp2_with ((with_reducible refine at27 ?_); (refine load_msg (by rfl) (.tmp 2) (by rfl) w.heap.size (by rfl) _ (unhide HR) (unhide HL) ?_))
      refine (unhide KG).mono ?_
      rintro e w1 ⟨rfl, hb⟩
      have HB1 := hide (below_grow (unhide HB) (Nat.le_refl _) hb)
      have HR1 := hide ((unhide HR).after hb)
      have HT1 := hide ((unhide HS1).after hb)
      have HT2 := hide ((unhide HS2).after hb)
      clear hb
      go_wp2_with fail
      refine (awake_any _).mono ?_
      rintro e w90 ⟨rfl, hb⟩
      have HB90 := hide (below_grow (unhide HB1) (Nat.le_refl _) hb)
      clear hb
      go_wp2_with fail
      go_ret
      exact ⟨rfl, unhide HB90⟩
    have HF := hide hf
    have KB := hide fun W h1 h2 => seal_any m a b c d W hf (bytesM_len m hr g1) h1 h2
    have KS := hide fun W => open_any s.data.toList (by rw [size_data]; omega) W
    rw [str_of] at KS
    have HFX := hide (openF_few s.data.toList)
    have hone := @seal_open s.data.toList
    have herr := sealF_err m
    have hlen := fun h => (sealF_len (m := m) h hr).2
    have hback := fun h => open_seal (m := m) h hr
    have hsm := fun h => seal_small (m := (openF s.data.toList).1) (openF_few s.data.toList).root h
    generalize openF s.data.toList = X at KS HFX hone hsm
    obtain ⟨x, E⟩ := X
    dsimp only at hone HFX hsm
    generalize sealF m = Y at KB hlen herr hback
    obtain ⟨t, E2⟩ := Y
    dsimp only at KB hlen herr hback
    subst herr
    clear hr hn s1 s2 hG hf g1 g2 g3 g4 g5
    by_cases hc : checkM m = 0
    · have KR := hide fun W => open_any t (by have := hlen hc; omega) W
      rw [hback hc] at KR
      rw [hc] at KB
      clear hback hlen hc
      generalize str t = TT at KB KR
      by_cases he : E = 0
      · subst he
        have ho := hone rfl
        have KX := hide fun W a7 b7 c7 d7 h1 h2 => seal_any x a7 b7 c7 d7 W (unhide HFX) (hsm (by have h9 := sealF_err x; rw [ho] at h9; exact h9.symm)) h1 h2
        rw [ho] at KX
        dsimp only at KX
        rw [str_of] at KX
        clear hone hsm ho
        go_enter Tryz.func4, Tryz.ntmps4
        go_wp2_with ((with_reducible refine at27 ?_); (refine load_msg (by rfl) (.tmp 2) (by rfl) w.heap.size (by rfl) _ (unhide HR) (unhide HL) ?_))
        refine (unhide KG).mono ?_
        rintro e w1 ⟨rfl, hb⟩
        have HB1 := hide (below_grow (unhide HB) (Nat.le_refl _) hb)
        have HR1 := hide ((unhide HR).after hb)
        have HT1 := hide ((unhide HS1).after hb)
        have HT2 := hide ((unhide HS2).after hb)
        clear hb
        go_wp2_with ((with_reducible refine at27 ?_); (refine load_msg (by rfl) (.tmp 2) (by rfl) w.heap.size (by rfl) _ (unhide HR1) (unhide HL) ?_))
        refine (unhide KB _ (unhide HT1) (unhide HT2)).mono ?_
        rintro e w3 ⟨rfl, hb⟩
        have HB3 := hide (below_grow (unhide HB1) (Nat.le_refl _) hb)
        have HR3 := hide ((unhide HR1).after hb)
        have HV1 := hide ((unhide HT1).after hb)
        have HV2 := hide ((unhide HT2).after hb)
        clear hb
        go_wp2_with fail
        refine (unhide KR _).mono ?_
        rintro e w4 ⟨a4, c4, b4, d4, rfl, _, _, h1, h2, hb⟩
        dsimp only at h1 h2
        have HB4 := hide (below_grow (unhide HB3) (Nat.le_refl _) hb)
        have HR4 := hide ((unhide HR3).after hb)
        have HW1 := hide ((unhide HV1).after hb)
        have HW2 := hide ((unhide HV2).after hb)
        have HX1 := hide h1
        have HX2 := hide h2
        have HL4 := hide (mL_len (unhide HF).root a4 c4 b4 d4)
        have HO4 := hide (mL_one m a4 c4 b4 d4)
        have HZ4 : Hid (VRow (w4.alloc (.cells #[.int .i64 0, .int .i64 0, .int .i64 0, .int .i64 0, .bool false, .string ⟨#[]⟩, .int .u8 0, .int .u8 0, .int .u8 0, .int .u8 0, .int .u8 0, .int .u8 0, .int .u8 0, .int .u8 0, .int .u8 0, .int .u8 0, .int .u8 0, .int .u8 0, .int .u8 0, .int .u8 0, .int .u8 0, .int .u8 0, .int .u8 0, .int .u8 0, .int .u8 0, .int .u8 0, .int .u8 0, .int .u8 0, .int .u8 0, .int .u8 0, .int .u8 0, .int .u8 0, .int .u8 0, .int .u8 0, .int .u8 0, .int .u8 0, .int .u8 0, .int .u8 0, .slice none 0 0, .slice none 0 0, .string ⟨#[]⟩] 28)) w4.heap.size 28 mZ) := hide (by rw [mZ_lit]; exact VRow.new w4 28 [.int .i64 0, .int .i64 0, .int .i64 0, .int .i64 0, .bool false, .string ⟨#[]⟩, .int .u8 0, .int .u8 0, .int .u8 0, .int .u8 0, .int .u8 0, .int .u8 0, .int .u8 0, .int .u8 0, .int .u8 0, .int .u8 0, .int .u8 0, .int .u8 0, .int .u8 0, .int .u8 0, .int .u8 0, .int .u8 0, .int .u8 0, .int .u8 0, .int .u8 0, .int .u8 0, .int .u8 0, .int .u8 0, .int .u8 0, .int .u8 0, .int .u8 0, .int .u8 0, .int .u8 0, .int .u8 0, .int .u8 0, .int .u8 0, .int .u8 0, .int .u8 0, .slice none 0 0, .slice none 0 0, .string ⟨#[]⟩])
        clear hb h1 h2
        go_wp2_with (first
          | ((with_reducible refine atS27 ?_); (refine store_row (by rfl) 28 (.tmp 7) (.tmp 31) (by rfl) w4.heap.size (mL m a4 c4 b4 d4) (by rfl) (by rfl) 28 mZ (unhide HZ4) 41 sizeM (unhide HL4) mZ_len (unhide HO4) ?_); intro w5 ho5 hr5; have HR5 := hide hr5; have HO5 := hide ho5; have HR50 := hide (row_keep (unhide HR4) ho5); clear ho5 hr5)
          | ((with_reducible refine at27 ?_); (refine load_msg_want' (by rfl) (.tmp 7) (by rfl) w4.heap.size (by rfl) _ (unhide HR5) (unhide HL4) ?_))
          | ((with_reducible refine at27 ?_); (refine load_msg_want' (by rfl) (.tmp 2) (by rfl) w.heap.size (by rfl) _ (unhide HR50) (unhide HL) ?_)))
        have HB5 := hide (((unhide HB4).trans ((below_alloc' (w := w4) (.cells #[.int .i64 0, .int .i64 0, .int .i64 0, .int .i64 0, .bool false, .string ⟨#[]⟩, .int .u8 0, .int .u8 0, .int .u8 0, .int .u8 0, .int .u8 0, .int .u8 0, .int .u8 0, .int .u8 0, .int .u8 0, .int .u8 0, .int .u8 0, .int .u8 0, .int .u8 0, .int .u8 0, .int .u8 0, .int .u8 0, .int .u8 0, .int .u8 0, .int .u8 0, .int .u8 0, .int .u8 0, .int .u8 0, .int .u8 0, .int .u8 0, .int .u8 0, .int .u8 0, .int .u8 0, .int .u8 0, .int .u8 0, .int .u8 0, .int .u8 0, .int .u8 0, .slice none 0 0, .slice none 0 0, .string ⟨#[]⟩] 28)).mono (unhide HB4).size)).trans ((unhide HO5).below (unhide HB4).size))
        refine (refSameM_any m m a4 b4 a b c4 d4 c d _ (unhide HF) (unhide HF) (sl_keep (unhide HX1) (unhide HO5)) (rl_keep (unhide HX2) (unhide HO5)) (sl_keep (unhide HW1) (unhide HO5)) (rl_keep (unhide HW2) (unhide HO5)) true (by simp)).mono ?_
        rintro e w6 ⟨rfl, hb⟩
        have HB6 := hide (below_grow (unhide HB5) (Nat.le_refl _) hb)
        clear hb
        go_wp2_with fail
        refine (unhide KS _).mono ?_
        rintro e w7 ⟨a7, c7, b7, d7, rfl, _, _, h1, h2, hb⟩
        dsimp only at h1 h2
        have HB7 := hide (below_grow (unhide HB6) (Nat.le_refl _) hb)
        have HY1 := hide h1
        have HY2 := hide h2
        have HL7 := hide (mL_len (unhide HFX).root a7 c7 b7 d7)
        have HO7 := hide (mL_one x a7 c7 b7 d7)
        have HZ7 : Hid (VRow (w7.alloc (.cells #[.int .i64 0, .int .i64 0, .int .i64 0, .int .i64 0, .bool false, .string ⟨#[]⟩, .int .u8 0, .int .u8 0, .int .u8 0, .int .u8 0, .int .u8 0, .int .u8 0, .int .u8 0, .int .u8 0, .int .u8 0, .int .u8 0, .int .u8 0, .int .u8 0, .int .u8 0, .int .u8 0, .int .u8 0, .int .u8 0, .int .u8 0, .int .u8 0, .int .u8 0, .int .u8 0, .int .u8 0, .int .u8 0, .int .u8 0, .int .u8 0, .int .u8 0, .int .u8 0, .int .u8 0, .int .u8 0, .int .u8 0, .int .u8 0, .int .u8 0, .int .u8 0, .slice none 0 0, .slice none 0 0, .string ⟨#[]⟩] 28)) w7.heap.size 28 mZ) := hide (by rw [mZ_lit]; exact VRow.new w7 28 [.int .i64 0, .int .i64 0, .int .i64 0, .int .i64 0, .bool false, .string ⟨#[]⟩, .int .u8 0, .int .u8 0, .int .u8 0, .int .u8 0, .int .u8 0, .int .u8 0, .int .u8 0, .int .u8 0, .int .u8 0, .int .u8 0, .int .u8 0, .int .u8 0, .int .u8 0, .int .u8 0, .int .u8 0, .int .u8 0, .int .u8 0, .int .u8 0, .int .u8 0, .int .u8 0, .int .u8 0, .int .u8 0, .int .u8 0, .int .u8 0, .int .u8 0, .int .u8 0, .int .u8 0, .int .u8 0, .int .u8 0, .int .u8 0, .int .u8 0, .int .u8 0, .slice none 0 0, .slice none 0 0, .string ⟨#[]⟩])
        clear hb h1 h2
        go_wp2_with (first
          | ((with_reducible refine atS27 ?_); (refine store_row (by rfl) 28 (.tmp 9) (.tmp 44) (by rfl) w7.heap.size (mL x a7 c7 b7 d7) (by rfl) (by rfl) 28 mZ (unhide HZ7) 41 sizeM (unhide HL7) mZ_len (unhide HO7) ?_); intro w8 ho8 hr8; have HR8 := hide hr8; have HO8 := hide ho8; clear ho8 hr8)
          | ((with_reducible refine at27 ?_); (refine load_msg (by rfl) (.tmp 9) (by rfl) w7.heap.size (by rfl) _ (unhide HR8) (unhide HL7) ?_)))
        have HB8 := hide (((unhide HB7).trans ((below_alloc' (w := w7) (.cells #[.int .i64 0, .int .i64 0, .int .i64 0, .int .i64 0, .bool false, .string ⟨#[]⟩, .int .u8 0, .int .u8 0, .int .u8 0, .int .u8 0, .int .u8 0, .int .u8 0, .int .u8 0, .int .u8 0, .int .u8 0, .int .u8 0, .int .u8 0, .int .u8 0, .int .u8 0, .int .u8 0, .int .u8 0, .int .u8 0, .int .u8 0, .int .u8 0, .int .u8 0, .int .u8 0, .int .u8 0, .int .u8 0, .int .u8 0, .int .u8 0, .int .u8 0, .int .u8 0, .int .u8 0, .int .u8 0, .int .u8 0, .int .u8 0, .int .u8 0, .int .u8 0, .slice none 0 0, .slice none 0 0, .string ⟨#[]⟩] 28)).mono (unhide HB7).size)).trans ((unhide HO8).below (unhide HB7).size))
        refine (unhide KX _ a7 b7 c7 d7 (sl_keep (unhide HY1) (unhide HO8)) (rl_keep (unhide HY2) (unhide HO8))).mono ?_
        rintro e w9 ⟨rfl, hb⟩
        have HB9 := hide (below_grow (unhide HB8) (Nat.le_refl _) hb)
        clear hb
        go_wp2_with fail
        refine (awake_any _).mono ?_
        rintro e w90 ⟨rfl, hb⟩
        have HB90 := hide (below_grow (unhide HB9) (Nat.le_refl _) hb)
        clear hb
        go_wp2_with fail
        go_ret
        exact ⟨rfl, unhide HB90⟩
      · have hne : (E != 0) = true := bne_iff_ne.2 he
        have hne2 : (E == 0) = false := beq_eq_false_iff_ne.2 he
        clear hone hsm
        go_enter Tryz.func4, Tryz.ntmps4
        go_wp2_with ((with_reducible refine at27 ?_); (refine load_msg (by rfl) (.tmp 2) (by rfl) w.heap.size (by rfl) _ (unhide HR) (unhide HL) ?_))
        refine (unhide KG).mono ?_
        rintro e w1 ⟨rfl, hb⟩
        have HB1 := hide (below_grow (unhide HB) (Nat.le_refl _) hb)
        have HR1 := hide ((unhide HR).after hb)
        have HT1 := hide ((unhide HS1).after hb)
        have HT2 := hide ((unhide HS2).after hb)
        clear hb
        go_wp2_with ((with_reducible refine at27 ?_); (refine load_msg (by rfl) (.tmp 2) (by rfl) w.heap.size (by rfl) _ (unhide HR1) (unhide HL) ?_))
        refine (unhide KB _ (unhide HT1) (unhide HT2)).mono ?_
        rintro e w3 ⟨rfl, hb⟩
        have HB3 := hide (below_grow (unhide HB1) (Nat.le_refl _) hb)
        have HR3 := hide ((unhide HR1).after hb)
        have HV1 := hide ((unhide HT1).after hb)
        have HV2 := hide ((unhide HT2).after hb)
        clear hb
        go_wp2_with fail
        refine (unhide KR _).mono ?_
        rintro e w4 ⟨a4, c4, b4, d4, rfl, _, _, h1, h2, hb⟩
        dsimp only at h1 h2
        have HB4 := hide (below_grow (unhide HB3) (Nat.le_refl _) hb)
        have HR4 := hide ((unhide HR3).after hb)
        have HW1 := hide ((unhide HV1).after hb)
        have HW2 := hide ((unhide HV2).after hb)
        have HX1 := hide h1
        have HX2 := hide h2
        have HL4 := hide (mL_len (unhide HF).root a4 c4 b4 d4)
        have HO4 := hide (mL_one m a4 c4 b4 d4)
        have HZ4 : Hid (VRow (w4.alloc (.cells #[.int .i64 0, .int .i64 0, .int .i64 0, .int .i64 0, .bool false, .string ⟨#[]⟩, .int .u8 0, .int .u8 0, .int .u8 0, .int .u8 0, .int .u8 0, .int .u8 0, .int .u8 0, .int .u8 0, .int .u8 0, .int .u8 0, .int .u8 0, .int .u8 0, .int .u8 0, .int .u8 0, .int .u8 0, .int .u8 0, .int .u8 0, .int .u8 0, .int .u8 0, .int .u8 0, .int .u8 0, .int .u8 0, .int .u8 0, .int .u8 0, .int .u8 0, .int .u8 0, .int .u8 0, .int .u8 0, .int .u8 0, .int .u8 0, .int .u8 0, .int .u8 0, .slice none 0 0, .slice none 0 0, .string ⟨#[]⟩] 28)) w4.heap.size 28 mZ) := hide (by rw [mZ_lit]; exact VRow.new w4 28 [.int .i64 0, .int .i64 0, .int .i64 0, .int .i64 0, .bool false, .string ⟨#[]⟩, .int .u8 0, .int .u8 0, .int .u8 0, .int .u8 0, .int .u8 0, .int .u8 0, .int .u8 0, .int .u8 0, .int .u8 0, .int .u8 0, .int .u8 0, .int .u8 0, .int .u8 0, .int .u8 0, .int .u8 0, .int .u8 0, .int .u8 0, .int .u8 0, .int .u8 0, .int .u8 0, .int .u8 0, .int .u8 0, .int .u8 0, .int .u8 0, .int .u8 0, .int .u8 0, .int .u8 0, .int .u8 0, .int .u8 0, .int .u8 0, .int .u8 0, .int .u8 0, .slice none 0 0, .slice none 0 0, .string ⟨#[]⟩])
        clear hb h1 h2
        go_wp2_with (first
          | ((with_reducible refine atS27 ?_); (refine store_row (by rfl) 28 (.tmp 7) (.tmp 31) (by rfl) w4.heap.size (mL m a4 c4 b4 d4) (by rfl) (by rfl) 28 mZ (unhide HZ4) 41 sizeM (unhide HL4) mZ_len (unhide HO4) ?_); intro w5 ho5 hr5; have HR5 := hide hr5; have HO5 := hide ho5; have HR50 := hide (row_keep (unhide HR4) ho5); clear ho5 hr5)
          | ((with_reducible refine at27 ?_); (refine load_msg_want' (by rfl) (.tmp 7) (by rfl) w4.heap.size (by rfl) _ (unhide HR5) (unhide HL4) ?_))
          | ((with_reducible refine at27 ?_); (refine load_msg_want' (by rfl) (.tmp 2) (by rfl) w.heap.size (by rfl) _ (unhide HR50) (unhide HL) ?_)))
        have HB5 := hide (((unhide HB4).trans ((below_alloc' (w := w4) (.cells #[.int .i64 0, .int .i64 0, .int .i64 0, .int .i64 0, .bool false, .string ⟨#[]⟩, .int .u8 0, .int .u8 0, .int .u8 0, .int .u8 0, .int .u8 0, .int .u8 0, .int .u8 0, .int .u8 0, .int .u8 0, .int .u8 0, .int .u8 0, .int .u8 0, .int .u8 0, .int .u8 0, .int .u8 0, .int .u8 0, .int .u8 0, .int .u8 0, .int .u8 0, .int .u8 0, .int .u8 0, .int .u8 0, .int .u8 0, .int .u8 0, .int .u8 0, .int .u8 0, .int .u8 0, .int .u8 0, .int .u8 0, .int .u8 0, .int .u8 0, .int .u8 0, .slice none 0 0, .slice none 0 0, .string ⟨#[]⟩] 28)).mono (unhide HB4).size)).trans ((unhide HO5).below (unhide HB4).size))
        refine (refSameM_any m m a4 b4 a b c4 d4 c d _ (unhide HF) (unhide HF) (sl_keep (unhide HX1) (unhide HO5)) (rl_keep (unhide HX2) (unhide HO5)) (sl_keep (unhide HW1) (unhide HO5)) (rl_keep (unhide HW2) (unhide HO5)) true (by simp)).mono ?_
        rintro e w6 ⟨rfl, hb⟩
        have HB6 := hide (below_grow (unhide HB5) (Nat.le_refl _) hb)
        clear hb
        go_wp2_with fail
        refine (unhide KS _).mono ?_
        rintro e w7 ⟨a7, c7, b7, d7, rfl, _, _, h1, h2, hb⟩
        dsimp only at h1 h2
        have HB7 := hide (below_grow (unhide HB6) (Nat.le_refl _) hb)
        have HY1 := hide h1
        have HY2 := hide h2
        have HL7 := hide (mL_len (unhide HFX).root a7 c7 b7 d7)
        have HO7 := hide (mL_one x a7 c7 b7 d7)
        have HZ7 : Hid (VRow (w7.alloc (.cells #[.int .i64 0, .int .i64 0, .int .i64 0, .int .i64 0, .bool false, .string ⟨#[]⟩, .int .u8 0, .int .u8 0, .int .u8 0, .int .u8 0, .int .u8 0, .int .u8 0, .int .u8 0, .int .u8 0, .int .u8 0, .int .u8 0, .int .u8 0, .int .u8 0, .int .u8 0, .int .u8 0, .int .u8 0, .int .u8 0, .int .u8 0, .int .u8 0, .int .u8 0, .int .u8 0, .int .u8 0, .int .u8 0, .int .u8 0, .int .u8 0, .int .u8 0, .int .u8 0, .int .u8 0, .int .u8 0, .int .u8 0, .int .u8 0, .int .u8 0, .int .u8 0, .slice none 0 0, .slice none 0 0, .string ⟨#[]⟩] 28)) w7.heap.size 28 mZ) := hide (by rw [mZ_lit]; exact VRow.new w7 28 [.int .i64 0, .int .i64 0, .int .i64 0, .int .i64 0, .bool false, .string ⟨#[]⟩, .int .u8 0, .int .u8 0, .int .u8 0, .int .u8 0, .int .u8 0, .int .u8 0, .int .u8 0, .int .u8 0, .int .u8 0, .int .u8 0, .int .u8 0, .int .u8 0, .int .u8 0, .int .u8 0, .int .u8 0, .int .u8 0, .int .u8 0, .int .u8 0, .int .u8 0, .int .u8 0, .int .u8 0, .int .u8 0, .int .u8 0, .int .u8 0, .int .u8 0, .int .u8 0, .int .u8 0, .int .u8 0, .int .u8 0, .int .u8 0, .int .u8 0, .int .u8 0, .slice none 0 0, .slice none 0 0, .string ⟨#[]⟩])
        clear hb h1 h2
        go_wp2_with (first
          | ((with_reducible refine atS27 ?_); (refine store_row (by rfl) 28 (.tmp 9) (.tmp 44) (by rfl) w7.heap.size (mL x a7 c7 b7 d7) (by rfl) (by rfl) 28 mZ (unhide HZ7) 41 sizeM (unhide HL7) mZ_len (unhide HO7) ?_); intro w8 ho8 hr8; have HR8 := hide hr8; have HO8 := hide ho8; clear ho8 hr8)
          | ((with_reducible refine at27 ?_); (refine load_msg (by rfl) (.tmp 9) (by rfl) w7.heap.size (by rfl) _ (unhide HR8) (unhide HL7) ?_)))
        have HB8 := hide (((unhide HB7).trans ((below_alloc' (w := w7) (.cells #[.int .i64 0, .int .i64 0, .int .i64 0, .int .i64 0, .bool false, .string ⟨#[]⟩, .int .u8 0, .int .u8 0, .int .u8 0, .int .u8 0, .int .u8 0, .int .u8 0, .int .u8 0, .int .u8 0, .int .u8 0, .int .u8 0, .int .u8 0, .int .u8 0, .int .u8 0, .int .u8 0, .int .u8 0, .int .u8 0, .int .u8 0, .int .u8 0, .int .u8 0, .int .u8 0, .int .u8 0, .int .u8 0, .int .u8 0, .int .u8 0, .int .u8 0, .int .u8 0, .int .u8 0, .int .u8 0, .int .u8 0, .int .u8 0, .int .u8 0, .int .u8 0, .slice none 0 0, .slice none 0 0, .string ⟨#[]⟩] 28)).mono (unhide HB7).size)).trans ((unhide HO8).below (unhide HB7).size))
        refine (awake_any _).mono ?_
        rintro e w90 ⟨rfl, hb⟩
        have HB90 := hide (below_grow (unhide HB8) (Nat.le_refl _) hb)
        clear hb
        go_wp2_with fail
        go_ret
        exact ⟨rfl, unhide HB90⟩
    · have hce : (checkM m == 0) = false := beq_eq_false_iff_ne.2 hc
      generalize checkM m = V at KB hce hc
      clear hback hlen
      generalize str t = TT at KB
      by_cases he : E = 0
      · subst he
        have ho := hone rfl
        have KX := hide fun W a7 b7 c7 d7 h1 h2 => seal_any x a7 b7 c7 d7 W (unhide HFX) (hsm (by have h9 := sealF_err x; rw [ho] at h9; exact h9.symm)) h1 h2
        rw [ho] at KX
        dsimp only at KX
        rw [str_of] at KX
        clear hone hsm ho
        go_enter Tryz.func4, Tryz.ntmps4
        go_wp2_with ((with_reducible refine at27 ?_); (refine load_msg (by rfl) (.tmp 2) (by rfl) w.heap.size (by rfl) _ (unhide HR) (unhide HL) ?_))
        refine (unhide KG).mono ?_
        rintro e w1 ⟨rfl, hb⟩
        have HB1 := hide (below_grow (unhide HB) (Nat.le_refl _) hb)
        have HR1 := hide ((unhide HR).after hb)
        have HT1 := hide ((unhide HS1).after hb)
        have HT2 := hide ((unhide HS2).after hb)
        clear hb
        go_wp2_with ((with_reducible refine at27 ?_); (refine load_msg (by rfl) (.tmp 2) (by rfl) w.heap.size (by rfl) _ (unhide HR1) (unhide HL) ?_))
        refine (unhide KB _ (unhide HT1) (unhide HT2)).mono ?_
        rintro e w3 ⟨rfl, hb⟩
        have HB3 := hide (below_grow (unhide HB1) (Nat.le_refl _) hb)
        have HR3 := hide ((unhide HR1).after hb)
        have HV1 := hide ((unhide HT1).after hb)
        have HV2 := hide ((unhide HT2).after hb)
        clear hb
        go_wp2_with fail
        refine (unhide KS _).mono ?_
        rintro e w7 ⟨a7, c7, b7, d7, rfl, _, _, h1, h2, hb⟩
        dsimp only at h1 h2
        have HB7 := hide (below_grow (unhide HB3) (Nat.le_refl _) hb)
        have HY1 := hide h1
        have HY2 := hide h2
        have HL7 := hide (mL_len (unhide HFX).root a7 c7 b7 d7)
        have HO7 := hide (mL_one x a7 c7 b7 d7)
        have HZ7 : Hid (VRow (w7.alloc (.cells #[.int .i64 0, .int .i64 0, .int .i64 0, .int .i64 0, .bool false, .string ⟨#[]⟩, .int .u8 0, .int .u8 0, .int .u8 0, .int .u8 0, .int .u8 0, .int .u8 0, .int .u8 0, .int .u8 0, .int .u8 0, .int .u8 0, .int .u8 0, .int .u8 0, .int .u8 0, .int .u8 0, .int .u8 0, .int .u8 0, .int .u8 0, .int .u8 0, .int .u8 0, .int .u8 0, .int .u8 0, .int .u8 0, .int .u8 0, .int .u8 0, .int .u8 0, .int .u8 0, .int .u8 0, .int .u8 0, .int .u8 0, .int .u8 0, .int .u8 0, .int .u8 0, .slice none 0 0, .slice none 0 0, .string ⟨#[]⟩] 28)) w7.heap.size 28 mZ) := hide (by rw [mZ_lit]; exact VRow.new w7 28 [.int .i64 0, .int .i64 0, .int .i64 0, .int .i64 0, .bool false, .string ⟨#[]⟩, .int .u8 0, .int .u8 0, .int .u8 0, .int .u8 0, .int .u8 0, .int .u8 0, .int .u8 0, .int .u8 0, .int .u8 0, .int .u8 0, .int .u8 0, .int .u8 0, .int .u8 0, .int .u8 0, .int .u8 0, .int .u8 0, .int .u8 0, .int .u8 0, .int .u8 0, .int .u8 0, .int .u8 0, .int .u8 0, .int .u8 0, .int .u8 0, .int .u8 0, .int .u8 0, .int .u8 0, .int .u8 0, .int .u8 0, .int .u8 0, .int .u8 0, .int .u8 0, .slice none 0 0, .slice none 0 0, .string ⟨#[]⟩])
        clear hb h1 h2
        go_wp2_with (first
          | ((with_reducible refine atS27 ?_); (refine store_row (by rfl) 28 (.tmp 9) (.tmp 44) (by rfl) w7.heap.size (mL x a7 c7 b7 d7) (by rfl) (by rfl) 28 mZ (unhide HZ7) 41 sizeM (unhide HL7) mZ_len (unhide HO7) ?_); intro w8 ho8 hr8; have HR8 := hide hr8; have HO8 := hide ho8; clear ho8 hr8)
          | ((with_reducible refine at27 ?_); (refine load_msg (by rfl) (.tmp 9) (by rfl) w7.heap.size (by rfl) _ (unhide HR8) (unhide HL7) ?_)))
        have HB8 := hide (((unhide HB7).trans ((below_alloc' (w := w7) (.cells #[.int .i64 0, .int .i64 0, .int .i64 0, .int .i64 0, .bool false, .string ⟨#[]⟩, .int .u8 0, .int .u8 0, .int .u8 0, .int .u8 0, .int .u8 0, .int .u8 0, .int .u8 0, .int .u8 0, .int .u8 0, .int .u8 0, .int .u8 0, .int .u8 0, .int .u8 0, .int .u8 0, .int .u8 0, .int .u8 0, .int .u8 0, .int .u8 0, .int .u8 0, .int .u8 0, .int .u8 0, .int .u8 0, .int .u8 0, .int .u8 0, .int .u8 0, .int .u8 0, .int .u8 0, .int .u8 0, .int .u8 0, .int .u8 0, .int .u8 0, .int .u8 0, .slice none 0 0, .slice none 0 0, .string ⟨#[]⟩] 28)).mono (unhide HB7).size)).trans ((unhide HO8).below (unhide HB7).size))
        refine (unhide KX _ a7 b7 c7 d7 (sl_keep (unhide HY1) (unhide HO8)) (rl_keep (unhide HY2) (unhide HO8))).mono ?_
        rintro e w9 ⟨rfl, hb⟩
        have HB9 := hide (below_grow (unhide HB8) (Nat.le_refl _) hb)
        clear hb
        go_wp2_with fail
        refine (awake_any _).mono ?_
        rintro e w90 ⟨rfl, hb⟩
        have HB90 := hide (below_grow (unhide HB9) (Nat.le_refl _) hb)
        clear hb
        go_wp2_with fail
        go_ret
        exact ⟨rfl, unhide HB90⟩
      · have hne : (E != 0) = true := bne_iff_ne.2 he
        have hne2 : (E == 0) = false := beq_eq_false_iff_ne.2 he
        clear hone hsm
        go_enter Tryz.func4, Tryz.ntmps4
        go_wp2_with ((with_reducible refine at27 ?_); (refine load_msg (by rfl) (.tmp 2) (by rfl) w.heap.size (by rfl) _ (unhide HR) (unhide HL) ?_))
        refine (unhide KG).mono ?_
        rintro e w1 ⟨rfl, hb⟩
        have HB1 := hide (below_grow (unhide HB) (Nat.le_refl _) hb)
        have HR1 := hide ((unhide HR).after hb)
        have HT1 := hide ((unhide HS1).after hb)
        have HT2 := hide ((unhide HS2).after hb)
        clear hb
        go_wp2_with ((with_reducible refine at27 ?_); (refine load_msg (by rfl) (.tmp 2) (by rfl) w.heap.size (by rfl) _ (unhide HR1) (unhide HL) ?_))
        refine (unhide KB _ (unhide HT1) (unhide HT2)).mono ?_
        rintro e w3 ⟨rfl, hb⟩
        have HB3 := hide (below_grow (unhide HB1) (Nat.le_refl _) hb)
        have HR3 := hide ((unhide HR1).after hb)
        have HV1 := hide ((unhide HT1).after hb)
        have HV2 := hide ((unhide HT2).after hb)
        clear hb
        go_wp2_with fail
        refine (unhide KS _).mono ?_
        rintro e w7 ⟨a7, c7, b7, d7, rfl, _, _, h1, h2, hb⟩
        dsimp only at h1 h2
        have HB7 := hide (below_grow (unhide HB3) (Nat.le_refl _) hb)
        have HY1 := hide h1
        have HY2 := hide h2
        have HL7 := hide (mL_len (unhide HFX).root a7 c7 b7 d7)
        have HO7 := hide (mL_one x a7 c7 b7 d7)
        have HZ7 : Hid (VRow (w7.alloc (.cells #[.int .i64 0, .int .i64 0, .int .i64 0, .int .i64 0, .bool false, .string ⟨#[]⟩, .int .u8 0, .int .u8 0, .int .u8 0, .int .u8 0, .int .u8 0, .int .u8 0, .int .u8 0, .int .u8 0, .int .u8 0, .int .u8 0, .int .u8 0, .int .u8 0, .int .u8 0, .int .u8 0, .int .u8 0, .int .u8 0, .int .u8 0, .int .u8 0, .int .u8 0, .int .u8 0, .int .u8 0, .int .u8 0, .int .u8 0, .int .u8 0, .int .u8 0, .int .u8 0, .int .u8 0, .int .u8 0, .int .u8 0, .int .u8 0, .int .u8 0, .int .u8 0, .slice none 0 0, .slice none 0 0, .string ⟨#[]⟩] 28)) w7.heap.size 28 mZ) := hide (by rw [mZ_lit]; exact VRow.new w7 28 [.int .i64 0, .int .i64 0, .int .i64 0, .int .i64 0, .bool false, .string ⟨#[]⟩, .int .u8 0, .int .u8 0, .int .u8 0, .int .u8 0, .int .u8 0, .int .u8 0, .int .u8 0, .int .u8 0, .int .u8 0, .int .u8 0, .int .u8 0, .int .u8 0, .int .u8 0, .int .u8 0, .int .u8 0, .int .u8 0, .int .u8 0, .int .u8 0, .int .u8 0, .int .u8 0, .int .u8 0, .int .u8 0, .int .u8 0, .int .u8 0, .int .u8 0, .int .u8 0, .int .u8 0, .int .u8 0, .int .u8 0, .int .u8 0, .int .u8 0, .int .u8 0, .slice none 0 0, .slice none 0 0, .string ⟨#[]⟩])
        clear hb h1 h2
        go_wp2_with (first
          | ((with_reducible refine atS27 ?_); (refine store_row (by rfl) 28 (.tmp 9) (.tmp 44) (by rfl) w7.heap.size (mL x a7 c7 b7 d7) (by rfl) (by rfl) 28 mZ (unhide HZ7) 41 sizeM (unhide HL7) mZ_len (unhide HO7) ?_); intro w8 ho8 hr8; have HR8 := hide hr8; have HO8 := hide ho8; clear ho8 hr8)
          | ((with_reducible refine at27 ?_); (refine load_msg (by rfl) (.tmp 9) (by rfl) w7.heap.size (by rfl) _ (unhide HR8) (unhide HL7) ?_)))
        have HB8 := hide (((unhide HB7).trans ((below_alloc' (w := w7) (.cells #[.int .i64 0, .int .i64 0, .int .i64 0, .int .i64 0, .bool false, .string ⟨#[]⟩, .int .u8 0, .int .u8 0, .int .u8 0, .int .u8 0, .int .u8 0, .int .u8 0, .int .u8 0, .int .u8 0, .int .u8 0, .int .u8 0, .int .u8 0, .int .u8 0, .int .u8 0, .int .u8 0, .int .u8 0, .int .u8 0, .int .u8 0, .int .u8 0, .int .u8 0, .int .u8 0, .int .u8 0, .int .u8 0, .int .u8 0, .int .u8 0, .int .u8 0, .int .u8 0, .int .u8 0, .int .u8 0, .int .u8 0, .int .u8 0, .int .u8 0, .int .u8 0, .slice none 0 0, .slice none 0 0, .string ⟨#[]⟩] 28)).mono (unhide HB7).size)).trans ((unhide HO8).below (unhide HB7).size))
        refine (awake_any _).mono ?_
        rintro e w90 ⟨rfl, hb⟩
        have HB90 := hide (below_grow (unhide HB8) (Nat.le_refl _) hb)
        clear hb
        go_wp2_with fail
        go_ret
        exact ⟨rfl, unhide HB90⟩
end Go.Proofs.YthecijjmgfempaaGreat
