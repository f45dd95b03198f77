/-
  The walk of a law: which message any text is the frame of.
-/
import Derived.Test.YthecijjmgfempaaGreatF4
import Derived.Test.YthecijjmgfempaaGreatF5
import Derived.Test.YthecijjmgfempaaGreatS1
import Derived.Test.YthecijjmgfempaaGreatL1
namespace Go.Proofs.YthecijjmgfempaaGreat
open Go.RowKit
/-- Rows of lists are kept where a block beyond them all is made and filled. -/
theorem rl_after_only {W W2 : World} {o : Obj} {b : Option Addr} {rows : List (List Vc.D)} (h : RL W b rows) (ho : Only W.heap.size (W.alloc o) W2) : RL W2 b rows := fun h0 => by
  have hb : Below W.heap.size W W2 := (below_alloc' o).trans (ho.below (Nat.le_refl _))
  exact h.after hb h0

set_option maxRecDepth 100000 in
set_option maxHeartbeats 2000000 in
theorem opens_walk (s : ByteArray) (hs : s.size ≤ 9223372036854775807) (w : World) :
    Calls Tryz.prog 3 #[.string s] w fun e w' => e = .returned (.bool true) ∧ Below w.heap.size w w' := by
  by_cases h8 : 140000 < s.size
  · go_enter Tryz.func3, Tryz.ntmps3
    go_wp2_with fail
    refine (awake_any _).mono ?_
    rintro e w1 ⟨rfl, hb⟩
    have HB := hide hb
    clear hb
    go_wp2_with fail
    go_ret
    exact ⟨rfl, unhide HB⟩
  have K1 := hide fun W => open_any s.data.toList (by rw [size_data]; omega) W
  have K2 := hide fun W => refOpen_any s.data.toList W
  rw [str_of] at K1 K2
  have HF := hide (openF_few s.data.toList)
  generalize openF s.data.toList = X at K1 K2 HF
  obtain ⟨m, E⟩ := X
  go_enter Tryz.func3, Tryz.ntmps3
  go_wp2_with fail
  refine (unhide K1 _).mono ?_
  rintro e w1 ⟨a, c, b, d, rfl, _, _, h1, h2, hb⟩
  dsimp only at h1 h2
  have HB := hide hb
  have HS1 := hide h1
  have HS2 := hide h2
  have HL := hide (mL_len (unhide HF).root a c b d)
  have HO := hide (mL_one m a c b d)
  have HZ1 : Hid (VRow (w1.alloc (.cells #[.int .i64 0, .int .i64 0, .int .i64 0, .int .i64 0, .bool false, .string ⟨#[]⟩, .int .u8 0, .int .u8 0, .int .u8 0, .int .u8 0, .int .u8 0, .int .u8 0, .int .u8 0, .int .u8 0, .int .u8 0, .int .u8 0, .int .u8 0, .int .u8 0, .int .u8 0, .int .u8 0, .int .u8 0, .int .u8 0, .int .u8 0, .int .u8 0, .int .u8 0, .int .u8 0, .int .u8 0, .int .u8 0, .int .u8 0, .int .u8 0, .int .u8 0, .int .u8 0, .int .u8 0, .int .u8 0, .int .u8 0, .int .u8 0, .int .u8 0, .int .u8 0, .slice none 0 0, .slice none 0 0, .string ⟨#[]⟩] 28)) w1.heap.size 28 mZ) := hide (by rw [mZ_lit]; exact VRow.new w1 28 [.int .i64 0, .int .i64 0, .int .i64 0, .int .i64 0, .bool false, .string ⟨#[]⟩, .int .u8 0, .int .u8 0, .int .u8 0, .int .u8 0, .int .u8 0, .int .u8 0, .int .u8 0, .int .u8 0, .int .u8 0, .int .u8 0, .int .u8 0, .int .u8 0, .int .u8 0, .int .u8 0, .int .u8 0, .int .u8 0, .int .u8 0, .int .u8 0, .int .u8 0, .int .u8 0, .int .u8 0, .int .u8 0, .int .u8 0, .int .u8 0, .int .u8 0, .int .u8 0, .int .u8 0, .int .u8 0, .int .u8 0, .int .u8 0, .int .u8 0, .int .u8 0, .slice none 0 0, .slice none 0 0, .string ⟨#[]⟩])
  clear hb h1 h2
  go_wp2_with ((with_reducible refine atS27 ?_); (refine store_row (by rfl) 28 (.tmp 3) (.tmp 14) (by rfl) w1.heap.size (mL m a c b d) (by rfl) (by rfl) 28 mZ (unhide HZ1) 41 sizeM (unhide HL) mZ_len (unhide HO) ?_); intro w2 ho2 hr2; have HO2 := hide ho2; have HR2 := hide hr2; clear ho2 hr2)
  have HB2 := hide (((unhide HB).trans ((below_alloc' (w := w1) (.cells #[.int .i64 0, .int .i64 0, .int .i64 0, .int .i64 0, .bool false, .string ⟨#[]⟩, .int .u8 0, .int .u8 0, .int .u8 0, .int .u8 0, .int .u8 0, .int .u8 0, .int .u8 0, .int .u8 0, .int .u8 0, .int .u8 0, .int .u8 0, .int .u8 0, .int .u8 0, .int .u8 0, .int .u8 0, .int .u8 0, .int .u8 0, .int .u8 0, .int .u8 0, .int .u8 0, .int .u8 0, .int .u8 0, .int .u8 0, .int .u8 0, .int .u8 0, .int .u8 0, .int .u8 0, .int .u8 0, .int .u8 0, .int .u8 0, .int .u8 0, .int .u8 0, .slice none 0 0, .slice none 0 0, .string ⟨#[]⟩] 28)).mono (unhide HB).size)).trans ((unhide HO2).below (unhide HB).size))
  have HT1 := hide ((((unhide HS1).after (below_alloc' (w := w1) (.cells #[.int .i64 0, .int .i64 0, .int .i64 0, .int .i64 0, .bool false, .string ⟨#[]⟩, .int .u8 0, .int .u8 0, .int .u8 0, .int .u8 0, .int .u8 0, .int .u8 0, .int .u8 0, .int .u8 0, .int .u8 0, .int .u8 0, .int .u8 0, .int .u8 0, .int .u8 0, .int .u8 0, .int .u8 0, .int .u8 0, .int .u8 0, .int .u8 0, .int .u8 0, .int .u8 0, .int .u8 0, .int .u8 0, .int .u8 0, .int .u8 0, .int .u8 0, .int .u8 0, .int .u8 0, .int .u8 0, .int .u8 0, .int .u8 0, .int .u8 0, .int .u8 0, .slice none 0 0, .slice none 0 0, .string ⟨#[]⟩] 28)))).besideO (unhide HO2).beside fun ad e h0 h => by obtain ⟨g, o, e2, hg, _⟩ := unhide HS1 h0; rw [e] at e2; injection e2 with e2; subst e2; have h : g = w1.heap.size := h; omega)
  have HT2 : Hid (RL w2 b m.rows) := hide (rl_after_only (unhide HS2) (unhide HO2))
  refine (unhide K2 _).mono ?_
  rintro e w3 ⟨a', c', b', d', rfl, _, _, h1, h2, hb⟩
  dsimp only at h1 h2
  have HR3 := hide ((unhide HR2).after hb)
  have HB3 := hide (below_grow (unhide HB2) (Nat.le_refl _) hb)
  have HU1 := hide ((unhide HT1).after hb)
  have HU2 := hide ((unhide HT2).after hb)
  have HU3 := hide h1
  have HU4 := hide h2
  have HL' := hide (mL_len (unhide HF).root a' c' b' d')
  have HO' := hide (mL_one m a' c' b' d')
  have HZ3 : Hid (VRow (w3.alloc (.cells #[.int .i64 0, .int .i64 0, .int .i64 0, .int .i64 0, .bool false, .string ⟨#[]⟩, .int .u8 0, .int .u8 0, .int .u8 0, .int .u8 0, .int .u8 0, .int .u8 0, .int .u8 0, .int .u8 0, .int .u8 0, .int .u8 0, .int .u8 0, .int .u8 0, .int .u8 0, .int .u8 0, .int .u8 0, .int .u8 0, .int .u8 0, .int .u8 0, .int .u8 0, .int .u8 0, .int .u8 0, .int .u8 0, .int .u8 0, .int .u8 0, .int .u8 0, .int .u8 0, .int .u8 0, .int .u8 0, .int .u8 0, .int .u8 0, .int .u8 0, .int .u8 0, .slice none 0 0, .slice none 0 0, .string ⟨#[]⟩] 28)) w3.heap.size 28 mZ) := hide (by rw [mZ_lit]; exact VRow.new w3 28 [.int .i64 0, .int .i64 0, .int .i64 0, .int .i64 0, .bool false, .string ⟨#[]⟩, .int .u8 0, .int .u8 0, .int .u8 0, .int .u8 0, .int .u8 0, .int .u8 0, .int .u8 0, .int .u8 0, .int .u8 0, .int .u8 0, .int .u8 0, .int .u8 0, .int .u8 0, .int .u8 0, .int .u8 0, .int .u8 0, .int .u8 0, .int .u8 0, .int .u8 0, .int .u8 0, .int .u8 0, .int .u8 0, .int .u8 0, .int .u8 0, .int .u8 0, .int .u8 0, .int .u8 0, .int .u8 0, .int .u8 0, .int .u8 0, .int .u8 0, .int .u8 0, .slice none 0 0, .slice none 0 0, .string ⟨#[]⟩])
  clear hb h1 h2
  go_wp2_with (first
    | ((with_reducible refine atS27 ?_); (refine store_row (by rfl) 28 (.tmp 5) (.tmp 19) (by rfl) w3.heap.size (mL m a' c' b' d') (by rfl) (by rfl) 28 mZ (unhide HZ3) 41 sizeM (unhide HL') mZ_len (unhide HO') ?_); intro w4 ho4 hr4; have HO4 := hide ho4; have HR4 := hide hr4; have HR34 := hide (VRow.only ((unhide HR3).alloc (.cells #[.int .i64 0, .int .i64 0, .int .i64 0, .int .i64 0, .bool false, .string ⟨#[]⟩, .int .u8 0, .int .u8 0, .int .u8 0, .int .u8 0, .int .u8 0, .int .u8 0, .int .u8 0, .int .u8 0, .int .u8 0, .int .u8 0, .int .u8 0, .int .u8 0, .int .u8 0, .int .u8 0, .int .u8 0, .int .u8 0, .int .u8 0, .int .u8 0, .int .u8 0, .int .u8 0, .int .u8 0, .int .u8 0, .int .u8 0, .int .u8 0, .int .u8 0, .int .u8 0, .int .u8 0, .int .u8 0, .int .u8 0, .int .u8 0, .int .u8 0, .int .u8 0, .slice none 0 0, .slice none 0 0, .string ⟨#[]⟩] 28)) ho4 (by have := (unhide HR3).lt; omega)); clear ho4 hr4)
    | ((with_reducible refine at27 ?_); (refine load_msg (by rfl) (.tmp 3) (by rfl) w1.heap.size (by rfl) _ (unhide HR34) (unhide HL) ?_))
    | ((with_reducible refine at27 ?_); (refine load_msg (by rfl) (.tmp 5) (by rfl) w3.heap.size (by rfl) _ (unhide HR4) (unhide HL') ?_)))
  have HB4 := hide (((unhide HB3).trans ((below_alloc' (w := w3) (.cells #[.int .i64 0, .int .i64 0, .int .i64 0, .int .i64 0, .bool false, .string ⟨#[]⟩, .int .u8 0, .int .u8 0, .int .u8 0, .int .u8 0, .int .u8 0, .int .u8 0, .int .u8 0, .int .u8 0, .int .u8 0, .int .u8 0, .int .u8 0, .int .u8 0, .int .u8 0, .int .u8 0, .int .u8 0, .int .u8 0, .int .u8 0, .int .u8 0, .int .u8 0, .int .u8 0, .int .u8 0, .int .u8 0, .int .u8 0, .int .u8 0, .int .u8 0, .int .u8 0, .int .u8 0, .int .u8 0, .int .u8 0, .int .u8 0, .int .u8 0, .int .u8 0, .slice none 0 0, .slice none 0 0, .string ⟨#[]⟩] 28)).mono (unhide HB3).size)).trans ((unhide HO4).below (unhide HB3).size))
  have HV1 := hide ((((unhide HU1).after (below_alloc' (w := w3) (.cells #[.int .i64 0, .int .i64 0, .int .i64 0, .int .i64 0, .bool false, .string ⟨#[]⟩, .int .u8 0, .int .u8 0, .int .u8 0, .int .u8 0, .int .u8 0, .int .u8 0, .int .u8 0, .int .u8 0, .int .u8 0, .int .u8 0, .int .u8 0, .int .u8 0, .int .u8 0, .int .u8 0, .int .u8 0, .int .u8 0, .int .u8 0, .int .u8 0, .int .u8 0, .int .u8 0, .int .u8 0, .int .u8 0, .int .u8 0, .int .u8 0, .int .u8 0, .int .u8 0, .int .u8 0, .int .u8 0, .int .u8 0, .int .u8 0, .int .u8 0, .int .u8 0, .slice none 0 0, .slice none 0 0, .string ⟨#[]⟩] 28)))).besideO (unhide HO4).beside fun ad e h0 h => by obtain ⟨g, o, e2, hg, _⟩ := unhide HU1 h0; rw [e] at e2; injection e2 with e2; subst e2; have h : g = w3.heap.size := h; omega)
  have HV3 := hide ((((unhide HU3).after (below_alloc' (w := w3) (.cells #[.int .i64 0, .int .i64 0, .int .i64 0, .int .i64 0, .bool false, .string ⟨#[]⟩, .int .u8 0, .int .u8 0, .int .u8 0, .int .u8 0, .int .u8 0, .int .u8 0, .int .u8 0, .int .u8 0, .int .u8 0, .int .u8 0, .int .u8 0, .int .u8 0, .int .u8 0, .int .u8 0, .int .u8 0, .int .u8 0, .int .u8 0, .int .u8 0, .int .u8 0, .int .u8 0, .int .u8 0, .int .u8 0, .int .u8 0, .int .u8 0, .int .u8 0, .int .u8 0, .int .u8 0, .int .u8 0, .int .u8 0, .int .u8 0, .int .u8 0, .int .u8 0, .slice none 0 0, .slice none 0 0, .string ⟨#[]⟩] 28)))).besideO (unhide HO4).beside fun ad e h0 h => by obtain ⟨g, o, e2, hg, _⟩ := unhide HU3 h0; rw [e] at e2; injection e2 with e2; subst e2; have h : g = w3.heap.size := h; omega)
  have HV2 : Hid (RL w4 b m.rows) := hide (rl_after_only (unhide HU2) (unhide HO4))
  have HV4 : Hid (RL w4 b' m.rows) := hide (rl_after_only (unhide HU4) (unhide HO4))
  refine (refSameM_any m m a b a' b' c d c' d' _ (unhide HF) (unhide HF) (unhide HV1) (unhide HV2) (unhide HV3) (unhide HV4) true (by simp)).mono ?_
  rintro e w5 ⟨rfl, hb⟩
  have HB5 := hide (below_grow (unhide HB4) (Nat.le_refl _) hb)
  clear hb
  go_wp2_with fail
  refine (awake_any _).mono ?_
  rintro e w6 ⟨rfl, hb⟩
  have HB6 := hide (below_grow (unhide HB5) (Nat.le_refl _) hb)
  clear hb
  go_wp2_with fail
  go_ret
  exact ⟨rfl, unhide HB6⟩
end Go.Proofs.YthecijjmgfempaaGreat
