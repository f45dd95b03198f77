/-
  The walk of a law: a message that may be is read as it was written, and bytes that are read are those that are written.
-/
import Derived.Test.YtojhpkeofklemaaMathC
import Derived.Test.YtojhpkeofklemaaL1
namespace Go.Proofs.Ytojhpkeofklemaa
open Go.RowKit
theorem load_msg_want' {ops : Array Oper} {rest : List Oper} {o : Oper} {a : Act} {w : World} {Q : Exit → Act → World → Prop} (hw : Region.wanted o (yielded ops a.tmps) = true) (x : Operand) (ho : o.op = .load 27 x)
    (B : Nat) (hx : a.eval x = .pointer (some ⟨B, 0, none⟩)) (vs : List Value) (hr : VRow w B 27 vs) (hn : vs.length = 41)
    (h : wpList Try.prog ops Q rest (a.put o.dst (.agg vs.toArray)) w) : wpList Try.prog ops Q (o :: rest) a w :=
  wpList_step fun _ hK => by rw [if_pos hw]; exact wp_load_row 27 x ho B hx 27 vs.toArray (0, 0) _ hr Try.underlying27 rfl (by rw [sizeM]; simp [hn]) (hK _ _ h)
theorem told_len (st : St) : (told st).length ≤ st.1.length := by
  unfold told
  split
  · exact Nat.zero_le _
  · exact Nat.le_refl _
theorem wMsg_len (m : Msg) (hr : m.root.length = 32) (hn : m.rows.length ≤ 70) : (wMsg ([], 0) m).1.length ≤ 1000000 := by
  have h0 := wHead_len ([], 0) m
  have h1 := wDigest_len (wHead ([], 0) m) hr
  unfold wMsg
  split
  · have h2 := wVec_len (wDigest (wHead ([], 0) m) m.root) m.ctx
    have h3 := wRows_len (wVec (wDigest (wHead ([], 0) m) m.root) m.ctx) m.rows
    simp only [List.length_nil] at h0
    omega
  · split
    · have h2 := (wText_len (wDigest (wHead ([], 0) m) m.root) m.path).1
      simp only [List.length_nil] at h0
      omega
    · split
      · have h2 := (wText_len (wHead ([], 0) m) m.path).1
        have h3 := (wText_len (wText (wHead ([], 0) m) m.path) m.text).1
        simp only [List.length_nil] at h0
        omega
      · split
        · have h2 := wFlag_len (wHead ([], 0) m) m.turn
          simp only [List.length_nil] at h0
          omega
        · simp only [List.length_nil] at h0
          omega
theorem bytesM_len (m : Msg) (hr : m.root.length = 32) (hn : m.rows.length ≤ 70) : (bytesM m).1.length ≤ 1000000 := by
  unfold bytesM
  split
  · exact Nat.zero_le _
  · exact Nat.le_trans (told_len _) (wMsg_len m hr hn)
theorem back_few (st : St) : FewM (readM st).1 := by
  unfold readM
  split
  · exact zero_few 0 0 0 0
  · exact rMsg_few st
theorem rl_keep {W W2 : World} {o : Obj} {b : Option Addr} {rows : List (List Vc.D)} (h : RL W b rows) (ho : Only W.heap.size (W.alloc o) W2) : RL W2 b rows := h.after ((below_alloc' o).trans (ho.below (Nat.le_refl _)))
theorem sl_keep {W W2 : World} {o : Obj} {b : Option Addr} {ds : List Vc.D} (h : Sl W b ds) (ho : Only W.heap.size (W.alloc o) W2) : Sl W2 b ds := h.after ((below_alloc' o).trans (ho.below (Nat.le_refl _)))
theorem row_keep {W W2 : World} {o : Obj} {B T : Nat} {vs : List Value} (h : VRow W B T vs) (ho : Only W.heap.size (W.alloc o) W2) : VRow W2 B T vs := h.after ((below_alloc' o).trans (ho.below (Nat.le_refl _)))

set_option maxRecDepth 100000 in
set_option maxHeartbeats 4000000 in
theorem back_walk (m : Msg) (a b : Option Addr) (c d : Nat) (hr : m.root.length = 32) (hn : m.rows.length ≤ 9223372036854775807) (s : ByteArray) (hs : s.size ≤ 9223372036854775807) (w : World) (s1 : Sl w a m.ctx) (s2 : RL w b m.rows) :
    Calls Try.prog 6 #[.agg (mL m a c b d).toArray, .string s] w fun e w' => e = .returned (.bool true) ∧ Below w.heap.size w w' := by
  have HR := hide (VRow.new w 27 (mL m a c b d))
  have HB := hide (below_alloc' (w := w) (.cells (mL m a c b d).toArray 27))
  have HL := hide (mL_len hr a c b d)
  have HS1 := hide (s1.after (unhide HB))
  have HS2 := hide (s2.after (unhide HB))
  have KG := hide (great_any m a b c d _ hr hn (unhide HS2))
  obtain ⟨G, hG⟩ : ∃ G, greatM m = G := ⟨_, rfl⟩
  rw [hG] at KG
  cases G with
  | true =>
    clear hr hn s1 s2 hG
    go_enter Try.func6, Try.ntmps6
    go_wp2_with ((with_reducible refine at27 ?_); (refine load_msg (by rfl) (.tmp 2) (by rfl) w.heap.size (by rfl) _ (unhide HR) (unhide HL) ?_))
    refine (unhide KG).mono ?_
    rintro e w1 ⟨rfl, hb⟩
    have HB1 := hide (below_grow (unhide HB) (Nat.le_refl _) hb)
    have HR1 := hide ((unhide HR).after hb)
    have HT1 := hide ((unhide HS1).after hb)
    have HT2 := hide ((unhide HS2).after hb)
    clear hb
    go_wp2_with fail
    refine (awake_any _).mono ?_
    rintro e w90 ⟨rfl, hb⟩
    have HB90 := hide (below_grow (unhide HB1) (Nat.le_refl _) hb)
    clear hb
    go_wp2_with fail
    go_ret
    exact ⟨rfl, unhide HB90⟩
  | false =>
    have hf := few_of hG hr
    obtain ⟨g1, g2, g3, g4, g5⟩ := greatM_no hG
    by_cases h8 : 80000 < s.size
    · clear hr hn s1 s2 hG hf g1 g2 g3 g4 g5
      go_enter Try.func6, Try.ntmps6
      go_wp2_with ((with_reducible refine at27 ?_); (refine load_msg (by rfl) (.tmp 2) (by rfl) w.heap.size (by rfl) _ (unhide HR) (unhide HL) ?_))
      refine (unhide KG).mono ?_
      rintro e w1 ⟨rfl, hb⟩
      have HB1 := hide (below_grow (unhide HB) (Nat.le_refl _) hb)
      have HR1 := hide ((unhide HR).after hb)
      have HT1 := hide ((unhide HS1).after hb)
      have HT2 := hide ((unhide HS2).after hb)
      clear hb
      go_wp2_with fail
      refine (awake_any _).mono ?_
      rintro e w90 ⟨rfl, hb⟩
      have HB90 := hide (below_grow (unhide HB1) (Nat.le_refl _) hb)
      clear hb
      go_wp2_with fail
      go_ret
      exact ⟨rfl, unhide HB90⟩
    have HF := hide hf
    have KB := hide fun W h1 h2 => bytes_any m a b c d W hf h1 h2
    have KC := hide fun W h1 h2 => checkM_any m a b c d W hf h1 h2
    have KS := hide fun W => read_any s (by omega) W
    have HFX := hide (back_few (s.data.toList, 0))
    have hone := @read_one s.data.toList
    have hlen := bytesM_len m hr g1
    have herr := bytesM_err m
    have hback := fun h => @read_back m h hr
    generalize readM (s.data.toList, 0) = X at KS HFX hone
    obtain ⟨x, E⟩ := X
    dsimp only at hone HFX
    have KX := hide fun W a7 b7 c7 d7 h1 h2 => bytes_any x a7 b7 c7 d7 W (unhide HFX) h1 h2
    generalize bytesM m = Y at KB hlen herr hback
    obtain ⟨t, E2⟩ := Y
    dsimp only at KB hlen herr hback
    subst herr
    clear hr hn s1 s2 hG hf g1 g2 g3 g4 g5
    by_cases hc : checkM m = 0
    · have KR := hide fun W => read_any (str t) (by rw [str_size]; omega) W
      rw [str_data, hback hc] at KR
      rw [hc] at KB KC
      clear hback hlen hc
      generalize str t = TT at KB KR
      by_cases he : E = 0
      · subst he
        rw [hone rfl] at KX
        dsimp only at KX
        rw [str_self] at KX
        clear hone
        go_enter Try.func6, Try.ntmps6
        go_wp2_with ((with_reducible refine at27 ?_); (refine load_msg (by rfl) (.tmp 2) (by rfl) w.heap.size (by rfl) _ (unhide HR) (unhide HL) ?_))
        refine (unhide KG).mono ?_
        rintro e w1 ⟨rfl, hb⟩
        have HB1 := hide (below_grow (unhide HB) (Nat.le_refl _) hb)
        have HR1 := hide ((unhide HR).after hb)
        have HT1 := hide ((unhide HS1).after hb)
        have HT2 := hide ((unhide HS2).after hb)
        clear hb
        go_wp2_with ((with_reducible refine at27 ?_); (refine load_msg (by rfl) (.tmp 2) (by rfl) w.heap.size (by rfl) _ (unhide HR1) (unhide HL) ?_))
        refine (unhide KB _ (unhide HT1) (unhide HT2)).mono ?_
        rintro e w2 ⟨rfl, hb⟩
        have HB2 := hide (below_grow (unhide HB1) (Nat.le_refl _) hb)
        have HR2 := hide ((unhide HR1).after hb)
        have HU1 := hide ((unhide HT1).after hb)
        have HU2 := hide ((unhide HT2).after hb)
        clear hb
        go_wp2_with ((with_reducible refine at27 ?_); (refine load_msg (by rfl) (.tmp 2) (by rfl) w.heap.size (by rfl) _ (unhide HR2) (unhide HL) ?_))
        refine (unhide KC _ (unhide HU1) (unhide HU2)).mono ?_
        rintro e w3 ⟨rfl, hb⟩
        have HB3 := hide (below_grow (unhide HB2) (Nat.le_refl _) hb)
        have HR3 := hide ((unhide HR2).after hb)
        have HV1 := hide ((unhide HU1).after hb)
        have HV2 := hide ((unhide HU2).after hb)
        clear hb
        go_wp2_with fail
        refine (unhide KR _).mono ?_
        rintro e w4 ⟨a4, c4, b4, d4, rfl, h1, h2, hb⟩
        dsimp only at h1 h2
        have HB4 := hide (below_grow (unhide HB3) (Nat.le_refl _) hb)
        have HR4 := hide ((unhide HR3).after hb)
        have HW1 := hide ((unhide HV1).after hb)
        have HW2 := hide ((unhide HV2).after hb)
        have HX1 := hide h1
        have HX2 := hide h2
        have HL4 := hide (mL_len (unhide HF).root a4 c4 b4 d4)
        have HO4 := hide (mL_one m a4 c4 b4 d4)
        have HZ4 : Hid (VRow (w4.alloc (.cells #[.int .i64 0, .int .i64 0, .int .i64 0, .int .i64 0, .bool false, .string ⟨#[]⟩, .int .u8 0, .int .u8 0, .int .u8 0, .int .u8 0, .int .u8 0, .int .u8 0, .int .u8 0, .int .u8 0, .int .u8 0, .int .u8 0, .int .u8 0, .int .u8 0, .int .u8 0, .int .u8 0, .int .u8 0, .int .u8 0, .int .u8 0, .int .u8 0, .int .u8 0, .int .u8 0, .int .u8 0, .int .u8 0, .int .u8 0, .int .u8 0, .int .u8 0, .int .u8 0, .int .u8 0, .int .u8 0, .int .u8 0, .int .u8 0, .int .u8 0, .int .u8 0, .slice none 0 0, .slice none 0 0, .string ⟨#[]⟩] 27)) w4.heap.size 27 mZ) := hide (by rw [mZ_lit]; exact VRow.new w4 27 [.int .i64 0, .int .i64 0, .int .i64 0, .int .i64 0, .bool false, .string ⟨#[]⟩, .int .u8 0, .int .u8 0, .int .u8 0, .int .u8 0, .int .u8 0, .int .u8 0, .int .u8 0, .int .u8 0, .int .u8 0, .int .u8 0, .int .u8 0, .int .u8 0, .int .u8 0, .int .u8 0, .int .u8 0, .int .u8 0, .int .u8 0, .int .u8 0, .int .u8 0, .int .u8 0, .int .u8 0, .int .u8 0, .int .u8 0, .int .u8 0, .int .u8 0, .int .u8 0, .int .u8 0, .int .u8 0, .int .u8 0, .int .u8 0, .int .u8 0, .int .u8 0, .slice none 0 0, .slice none 0 0, .string ⟨#[]⟩])
        clear hb h1 h2
        go_wp2_with (first
          | ((with_reducible refine atS27 ?_); (refine store_row (by rfl) 27 (.tmp 7) (.tmp 37) (by rfl) w4.heap.size (mL m a4 c4 b4 d4) (by rfl) (by rfl) 27 mZ (unhide HZ4) 41 sizeM (unhide HL4) mZ_len (unhide HO4) ?_); intro w5 ho5 hr5; have HR5 := hide hr5; have HO5 := hide ho5; have HR50 := hide (row_keep (unhide HR4) ho5); clear ho5 hr5)
          | ((with_reducible refine at27 ?_); (refine load_msg_want' (by rfl) (.tmp 7) (by rfl) w4.heap.size (by rfl) _ (unhide HR5) (unhide HL4) ?_))
          | ((with_reducible refine at27 ?_); (refine load_msg_want' (by rfl) (.tmp 2) (by rfl) w.heap.size (by rfl) _ (unhide HR50) (unhide HL) ?_)))
        have HB5 := hide (((unhide HB4).trans ((below_alloc' (w := w4) (.cells #[.int .i64 0, .int .i64 0, .int .i64 0, .int .i64 0, .bool false, .string ⟨#[]⟩, .int .u8 0, .int .u8 0, .int .u8 0, .int .u8 0, .int .u8 0, .int .u8 0, .int .u8 0, .int .u8 0, .int .u8 0, .int .u8 0, .int .u8 0, .int .u8 0, .int .u8 0, .int .u8 0, .int .u8 0, .int .u8 0, .int .u8 0, .int .u8 0, .int .u8 0, .int .u8 0, .int .u8 0, .int .u8 0, .int .u8 0, .int .u8 0, .int .u8 0, .int .u8 0, .int .u8 0, .int .u8 0, .int .u8 0, .int .u8 0, .int .u8 0, .int .u8 0, .slice none 0 0, .slice none 0 0, .string ⟨#[]⟩] 27)).mono (unhide HB4).size)).trans ((unhide HO5).below (unhide HB4).size))
        refine (sameM_any m m a4 b4 a b c4 d4 c d _ (unhide HF) (unhide HF) (sl_keep (unhide HX1) (unhide HO5)) (rl_keep (unhide HX2) (unhide HO5)) (sl_keep (unhide HW1) (unhide HO5)) (rl_keep (unhide HW2) (unhide HO5)) true (by simp)).mono ?_
        rintro e w6 ⟨rfl, hb⟩
        have HB6 := hide (below_grow (unhide HB5) (Nat.le_refl _) hb)
        clear hb
        go_wp2_with fail
        refine (unhide KS _).mono ?_
        rintro e w7 ⟨a7, c7, b7, d7, rfl, h1, h2, hb⟩
        dsimp only at h1 h2
        have HB7 := hide (below_grow (unhide HB6) (Nat.le_refl _) hb)
        have HY1 := hide h1
        have HY2 := hide h2
        have HL7 := hide (mL_len (unhide HFX).root a7 c7 b7 d7)
        have HO7 := hide (mL_one x a7 c7 b7 d7)
        have HZ7 : Hid (VRow (w7.alloc (.cells #[.int .i64 0, .int .i64 0, .int .i64 0, .int .i64 0, .bool false, .string ⟨#[]⟩, .int .u8 0, .int .u8 0, .int .u8 0, .int .u8 0, .int .u8 0, .int .u8 0, .int .u8 0, .int .u8 0, .int .u8 0, .int .u8 0, .int .u8 0, .int .u8 0, .int .u8 0, .int .u8 0, .int .u8 0, .int .u8 0, .int .u8 0, .int .u8 0, .int .u8 0, .int .u8 0, .int .u8 0, .int .u8 0, .int .u8 0, .int .u8 0, .int .u8 0, .int .u8 0, .int .u8 0, .int .u8 0, .int .u8 0, .int .u8 0, .int .u8 0, .int .u8 0, .slice none 0 0, .slice none 0 0, .string ⟨#[]⟩] 27)) w7.heap.size 27 mZ) := hide (by rw [mZ_lit]; exact VRow.new w7 27 [.int .i64 0, .int .i64 0, .int .i64 0, .int .i64 0, .bool false, .string ⟨#[]⟩, .int .u8 0, .int .u8 0, .int .u8 0, .int .u8 0, .int .u8 0, .int .u8 0, .int .u8 0, .int .u8 0, .int .u8 0, .int .u8 0, .int .u8 0, .int .u8 0, .int .u8 0, .int .u8 0, .int .u8 0, .int .u8 0, .int .u8 0, .int .u8 0, .int .u8 0, .int .u8 0, .int .u8 0, .int .u8 0, .int .u8 0, .int .u8 0, .int .u8 0, .int .u8 0, .int .u8 0, .int .u8 0, .int .u8 0, .int .u8 0, .int .u8 0, .int .u8 0, .slice none 0 0, .slice none 0 0, .string ⟨#[]⟩])
        clear hb h1 h2
        go_wp2_with (first
          | ((with_reducible refine atS27 ?_); (refine store_row (by rfl) 27 (.tmp 9) (.tmp 50) (by rfl) w7.heap.size (mL x a7 c7 b7 d7) (by rfl) (by rfl) 27 mZ (unhide HZ7) 41 sizeM (unhide HL7) mZ_len (unhide HO7) ?_); intro w8 ho8 hr8; have HR8 := hide hr8; have HO8 := hide ho8; clear ho8 hr8)
          | ((with_reducible refine at27 ?_); (refine load_msg (by rfl) (.tmp 9) (by rfl) w7.heap.size (by rfl) _ (unhide HR8) (unhide HL7) ?_)))
        have HB8 := hide (((unhide HB7).trans ((below_alloc' (w := w7) (.cells #[.int .i64 0, .int .i64 0, .int .i64 0, .int .i64 0, .bool false, .string ⟨#[]⟩, .int .u8 0, .int .u8 0, .int .u8 0, .int .u8 0, .int .u8 0, .int .u8 0, .int .u8 0, .int .u8 0, .int .u8 0, .int .u8 0, .int .u8 0, .int .u8 0, .int .u8 0, .int .u8 0, .int .u8 0, .int .u8 0, .int .u8 0, .int .u8 0, .int .u8 0, .int .u8 0, .int .u8 0, .int .u8 0, .int .u8 0, .int .u8 0, .int .u8 0, .int .u8 0, .int .u8 0, .int .u8 0, .int .u8 0, .int .u8 0, .int .u8 0, .int .u8 0, .slice none 0 0, .slice none 0 0, .string ⟨#[]⟩] 27)).mono (unhide HB7).size)).trans ((unhide HO8).below (unhide HB7).size))
        refine (unhide KX _ a7 b7 c7 d7 (sl_keep (unhide HY1) (unhide HO8)) (rl_keep (unhide HY2) (unhide HO8))).mono ?_
        rintro e w9 ⟨rfl, hb⟩
        have HB9 := hide (below_grow (unhide HB8) (Nat.le_refl _) hb)
        clear hb
        go_wp2_with fail
        refine (awake_any _).mono ?_
        rintro e w90 ⟨rfl, hb⟩
        have HB90 := hide (below_grow (unhide HB9) (Nat.le_refl _) hb)
        clear hb
        go_wp2_with fail
        go_ret
        exact ⟨rfl, unhide HB90⟩
      · have hne : (E != 0) = true := bne_iff_ne.2 he
        have hne2 : (E == 0) = false := beq_eq_false_iff_ne.2 he
        clear hone KX
        go_enter Try.func6, Try.ntmps6
        go_wp2_with ((with_reducible refine at27 ?_); (refine load_msg (by rfl) (.tmp 2) (by rfl) w.heap.size (by rfl) _ (unhide HR) (unhide HL) ?_))
        refine (unhide KG).mono ?_
        rintro e w1 ⟨rfl, hb⟩
        have HB1 := hide (below_grow (unhide HB) (Nat.le_refl _) hb)
        have HR1 := hide ((unhide HR).after hb)
        have HT1 := hide ((unhide HS1).after hb)
        have HT2 := hide ((unhide HS2).after hb)
        clear hb
        go_wp2_with ((with_reducible refine at27 ?_); (refine load_msg (by rfl) (.tmp 2) (by rfl) w.heap.size (by rfl) _ (unhide HR1) (unhide HL) ?_))
        refine (unhide KB _ (unhide HT1) (unhide HT2)).mono ?_
        rintro e w2 ⟨rfl, hb⟩
        have HB2 := hide (below_grow (unhide HB1) (Nat.le_refl _) hb)
        have HR2 := hide ((unhide HR1).after hb)
        have HU1 := hide ((unhide HT1).after hb)
        have HU2 := hide ((unhide HT2).after hb)
        clear hb
        go_wp2_with ((with_reducible refine at27 ?_); (refine load_msg (by rfl) (.tmp 2) (by rfl) w.heap.size (by rfl) _ (unhide HR2) (unhide HL) ?_))
        refine (unhide KC _ (unhide HU1) (unhide HU2)).mono ?_
        rintro e w3 ⟨rfl, hb⟩
        have HB3 := hide (below_grow (unhide HB2) (Nat.le_refl _) hb)
        have HR3 := hide ((unhide HR2).after hb)
        have HV1 := hide ((unhide HU1).after hb)
        have HV2 := hide ((unhide HU2).after hb)
        clear hb
        go_wp2_with fail
        refine (unhide KR _).mono ?_
        rintro e w4 ⟨a4, c4, b4, d4, rfl, h1, h2, hb⟩
        dsimp only at h1 h2
        have HB4 := hide (below_grow (unhide HB3) (Nat.le_refl _) hb)
        have HR4 := hide ((unhide HR3).after hb)
        have HW1 := hide ((unhide HV1).after hb)
        have HW2 := hide ((unhide HV2).after hb)
        have HX1 := hide h1
        have HX2 := hide h2
        have HL4 := hide (mL_len (unhide HF).root a4 c4 b4 d4)
        have HO4 := hide (mL_one m a4 c4 b4 d4)
        have HZ4 : Hid (VRow (w4.alloc (.cells #[.int .i64 0, .int .i64 0, .int .i64 0, .int .i64 0, .bool false, .string ⟨#[]⟩, .int .u8 0, .int .u8 0, .int .u8 0, .int .u8 0, .int .u8 0, .int .u8 0, .int .u8 0, .int .u8 0, .int .u8 0, .int .u8 0, .int .u8 0, .int .u8 0, .int .u8 0, .int .u8 0, .int .u8 0, .int .u8 0, .int .u8 0, .int .u8 0, .int .u8 0, .int .u8 0, .int .u8 0, .int .u8 0, .int .u8 0, .int .u8 0, .int .u8 0, .int .u8 0, .int .u8 0, .int .u8 0, .int .u8 0, .int .u8 0, .int .u8 0, .int .u8 0, .slice none 0 0, .slice none 0 0, .string ⟨#[]⟩] 27)) w4.heap.size 27 mZ) := hide (by rw [mZ_lit]; exact VRow.new w4 27 [.int .i64 0, .int .i64 0, .int .i64 0, .int .i64 0, .bool false, .string ⟨#[]⟩, .int .u8 0, .int .u8 0, .int .u8 0, .int .u8 0, .int .u8 0, .int .u8 0, .int .u8 0, .int .u8 0, .int .u8 0, .int .u8 0, .int .u8 0, .int .u8 0, .int .u8 0, .int .u8 0, .int .u8 0, .int .u8 0, .int .u8 0, .int .u8 0, .int .u8 0, .int .u8 0, .int .u8 0, .int .u8 0, .int .u8 0, .int .u8 0, .int .u8 0, .int .u8 0, .int .u8 0, .int .u8 0, .int .u8 0, .int .u8 0, .int .u8 0, .int .u8 0, .slice none 0 0, .slice none 0 0, .string ⟨#[]⟩])
        clear hb h1 h2
        go_wp2_with (first
          | ((with_reducible refine atS27 ?_); (refine store_row (by rfl) 27 (.tmp 7) (.tmp 37) (by rfl) w4.heap.size (mL m a4 c4 b4 d4) (by rfl) (by rfl) 27 mZ (unhide HZ4) 41 sizeM (unhide HL4) mZ_len (unhide HO4) ?_); intro w5 ho5 hr5; have HR5 := hide hr5; have HO5 := hide ho5; have HR50 := hide (row_keep (unhide HR4) ho5); clear ho5 hr5)
          | ((with_reducible refine at27 ?_); (refine load_msg_want' (by rfl) (.tmp 7) (by rfl) w4.heap.size (by rfl) _ (unhide HR5) (unhide HL4) ?_))
          | ((with_reducible refine at27 ?_); (refine load_msg_want' (by rfl) (.tmp 2) (by rfl) w.heap.size (by rfl) _ (unhide HR50) (unhide HL) ?_)))
        have HB5 := hide (((unhide HB4).trans ((below_alloc' (w := w4) (.cells #[.int .i64 0, .int .i64 0, .int .i64 0, .int .i64 0, .bool false, .string ⟨#[]⟩, .int .u8 0, .int .u8 0, .int .u8 0, .int .u8 0, .int .u8 0, .int .u8 0, .int .u8 0, .int .u8 0, .int .u8 0, .int .u8 0, .int .u8 0, .int .u8 0, .int .u8 0, .int .u8 0, .int .u8 0, .int .u8 0, .int .u8 0, .int .u8 0, .int .u8 0, .int .u8 0, .int .u8 0, .int .u8 0, .int .u8 0, .int .u8 0, .int .u8 0, .int .u8 0, .int .u8 0, .int .u8 0, .int .u8 0, .int .u8 0, .int .u8 0, .int .u8 0, .slice none 0 0, .slice none 0 0, .string ⟨#[]⟩] 27)).mono (unhide HB4).size)).trans ((unhide HO5).below (unhide HB4).size))
        refine (sameM_any m m a4 b4 a b c4 d4 c d _ (unhide HF) (unhide HF) (sl_keep (unhide HX1) (unhide HO5)) (rl_keep (unhide HX2) (unhide HO5)) (sl_keep (unhide HW1) (unhide HO5)) (rl_keep (unhide HW2) (unhide HO5)) true (by simp)).mono ?_
        rintro e w6 ⟨rfl, hb⟩
        have HB6 := hide (below_grow (unhide HB5) (Nat.le_refl _) hb)
        clear hb
        go_wp2_with fail
        refine (unhide KS _).mono ?_
        rintro e w7 ⟨a7, c7, b7, d7, rfl, h1, h2, hb⟩
        dsimp only at h1 h2
        have HB7 := hide (below_grow (unhide HB6) (Nat.le_refl _) hb)
        have HY1 := hide h1
        have HY2 := hide h2
        have HL7 := hide (mL_len (unhide HFX).root a7 c7 b7 d7)
        have HO7 := hide (mL_one x a7 c7 b7 d7)
        have HZ7 : Hid (VRow (w7.alloc (.cells #[.int .i64 0, .int .i64 0, .int .i64 0, .int .i64 0, .bool false, .string ⟨#[]⟩, .int .u8 0, .int .u8 0, .int .u8 0, .int .u8 0, .int .u8 0, .int .u8 0, .int .u8 0, .int .u8 0, .int .u8 0, .int .u8 0, .int .u8 0, .int .u8 0, .int .u8 0, .int .u8 0, .int .u8 0, .int .u8 0, .int .u8 0, .int .u8 0, .int .u8 0, .int .u8 0, .int .u8 0, .int .u8 0, .int .u8 0, .int .u8 0, .int .u8 0, .int .u8 0, .int .u8 0, .int .u8 0, .int .u8 0, .int .u8 0, .int .u8 0, .int .u8 0, .slice none 0 0, .slice none 0 0, .string ⟨#[]⟩] 27)) w7.heap.size 27 mZ) := hide (by rw [mZ_lit]; exact VRow.new w7 27 [.int .i64 0, .int .i64 0, .int .i64 0, .int .i64 0, .bool false, .string ⟨#[]⟩, .int .u8 0, .int .u8 0, .int .u8 0, .int .u8 0, .int .u8 0, .int .u8 0, .int .u8 0, .int .u8 0, .int .u8 0, .int .u8 0, .int .u8 0, .int .u8 0, .int .u8 0, .int .u8 0, .int .u8 0, .int .u8 0, .int .u8 0, .int .u8 0, .int .u8 0, .int .u8 0, .int .u8 0, .int .u8 0, .int .u8 0, .int .u8 0, .int .u8 0, .int .u8 0, .int .u8 0, .int .u8 0, .int .u8 0, .int .u8 0, .int .u8 0, .int .u8 0, .slice none 0 0, .slice none 0 0, .string ⟨#[]⟩])
        clear hb h1 h2
        go_wp2_with (first
          | ((with_reducible refine atS27 ?_); (refine store_row (by rfl) 27 (.tmp 9) (.tmp 50) (by rfl) w7.heap.size (mL x a7 c7 b7 d7) (by rfl) (by rfl) 27 mZ (unhide HZ7) 41 sizeM (unhide HL7) mZ_len (unhide HO7) ?_); intro w8 ho8 hr8; have HR8 := hide hr8; have HO8 := hide ho8; clear ho8 hr8)
          | ((with_reducible refine at27 ?_); (refine load_msg (by rfl) (.tmp 9) (by rfl) w7.heap.size (by rfl) _ (unhide HR8) (unhide HL7) ?_)))
        have HB8 := hide (((unhide HB7).trans ((below_alloc' (w := w7) (.cells #[.int .i64 0, .int .i64 0, .int .i64 0, .int .i64 0, .bool false, .string ⟨#[]⟩, .int .u8 0, .int .u8 0, .int .u8 0, .int .u8 0, .int .u8 0, .int .u8 0, .int .u8 0, .int .u8 0, .int .u8 0, .int .u8 0, .int .u8 0, .int .u8 0, .int .u8 0, .int .u8 0, .int .u8 0, .int .u8 0, .int .u8 0, .int .u8 0, .int .u8 0, .int .u8 0, .int .u8 0, .int .u8 0, .int .u8 0, .int .u8 0, .int .u8 0, .int .u8 0, .int .u8 0, .int .u8 0, .int .u8 0, .int .u8 0, .int .u8 0, .int .u8 0, .slice none 0 0, .slice none 0 0, .string ⟨#[]⟩] 27)).mono (unhide HB7).size)).trans ((unhide HO8).below (unhide HB7).size))
        refine (awake_any _).mono ?_
        rintro e w90 ⟨rfl, hb⟩
        have HB90 := hide (below_grow (unhide HB8) (Nat.le_refl _) hb)
        clear hb
        go_wp2_with fail
        go_ret
        exact ⟨rfl, unhide HB90⟩
    · have hce : (checkM m == 0) = false := beq_eq_false_iff_ne.2 hc
      generalize checkM m = V at KB KC hce hc
      clear hback hlen
      generalize str t = TT at KB
      by_cases he : E = 0
      · subst he
        rw [hone rfl] at KX
        dsimp only at KX
        rw [str_self] at KX
        clear hone
        go_enter Try.func6, Try.ntmps6
        go_wp2_with ((with_reducible refine at27 ?_); (refine load_msg (by rfl) (.tmp 2) (by rfl) w.heap.size (by rfl) _ (unhide HR) (unhide HL) ?_))
        refine (unhide KG).mono ?_
        rintro e w1 ⟨rfl, hb⟩
        have HB1 := hide (below_grow (unhide HB) (Nat.le_refl _) hb)
        have HR1 := hide ((unhide HR).after hb)
        have HT1 := hide ((unhide HS1).after hb)
        have HT2 := hide ((unhide HS2).after hb)
        clear hb
        go_wp2_with ((with_reducible refine at27 ?_); (refine load_msg (by rfl) (.tmp 2) (by rfl) w.heap.size (by rfl) _ (unhide HR1) (unhide HL) ?_))
        refine (unhide KB _ (unhide HT1) (unhide HT2)).mono ?_
        rintro e w2 ⟨rfl, hb⟩
        have HB2 := hide (below_grow (unhide HB1) (Nat.le_refl _) hb)
        have HR2 := hide ((unhide HR1).after hb)
        have HU1 := hide ((unhide HT1).after hb)
        have HU2 := hide ((unhide HT2).after hb)
        clear hb
        go_wp2_with ((with_reducible refine at27 ?_); (refine load_msg (by rfl) (.tmp 2) (by rfl) w.heap.size (by rfl) _ (unhide HR2) (unhide HL) ?_))
        refine (unhide KC _ (unhide HU1) (unhide HU2)).mono ?_
        rintro e w3 ⟨rfl, hb⟩
        have HB3 := hide (below_grow (unhide HB2) (Nat.le_refl _) hb)
        have HR3 := hide ((unhide HR2).after hb)
        have HV1 := hide ((unhide HU1).after hb)
        have HV2 := hide ((unhide HU2).after hb)
        clear hb
        go_wp2_with fail
        refine (unhide KS _).mono ?_
        rintro e w7 ⟨a7, c7, b7, d7, rfl, h1, h2, hb⟩
        dsimp only at h1 h2
        have HB7 := hide (below_grow (unhide HB3) (Nat.le_refl _) hb)
        have HY1 := hide h1
        have HY2 := hide h2
        have HL7 := hide (mL_len (unhide HFX).root a7 c7 b7 d7)
        have HO7 := hide (mL_one x a7 c7 b7 d7)
        have HZ7 : Hid (VRow (w7.alloc (.cells #[.int .i64 0, .int .i64 0, .int .i64 0, .int .i64 0, .bool false, .string ⟨#[]⟩, .int .u8 0, .int .u8 0, .int .u8 0, .int .u8 0, .int .u8 0, .int .u8 0, .int .u8 0, .int .u8 0, .int .u8 0, .int .u8 0, .int .u8 0, .int .u8 0, .int .u8 0, .int .u8 0, .int .u8 0, .int .u8 0, .int .u8 0, .int .u8 0, .int .u8 0, .int .u8 0, .int .u8 0, .int .u8 0, .int .u8 0, .int .u8 0, .int .u8 0, .int .u8 0, .int .u8 0, .int .u8 0, .int .u8 0, .int .u8 0, .int .u8 0, .int .u8 0, .slice none 0 0, .slice none 0 0, .string ⟨#[]⟩] 27)) w7.heap.size 27 mZ) := hide (by rw [mZ_lit]; exact VRow.new w7 27 [.int .i64 0, .int .i64 0, .int .i64 0, .int .i64 0, .bool false, .string ⟨#[]⟩, .int .u8 0, .int .u8 0, .int .u8 0, .int .u8 0, .int .u8 0, .int .u8 0, .int .u8 0, .int .u8 0, .int .u8 0, .int .u8 0, .int .u8 0, .int .u8 0, .int .u8 0, .int .u8 0, .int .u8 0, .int .u8 0, .int .u8 0, .int .u8 0, .int .u8 0, .int .u8 0, .int .u8 0, .int .u8 0, .int .u8 0, .int .u8 0, .int .u8 0, .int .u8 0, .int .u8 0, .int .u8 0, .int .u8 0, .int .u8 0, .int .u8 0, .int .u8 0, .slice none 0 0, .slice none 0 0, .string ⟨#[]⟩])
        clear hb h1 h2
        go_wp2_with (first
          | ((with_reducible refine atS27 ?_); (refine store_row (by rfl) 27 (.tmp 9) (.tmp 50) (by rfl) w7.heap.size (mL x a7 c7 b7 d7) (by rfl) (by rfl) 27 mZ (unhide HZ7) 41 sizeM (unhide HL7) mZ_len (unhide HO7) ?_); intro w8 ho8 hr8; have HR8 := hide hr8; have HO8 := hide ho8; clear ho8 hr8)
          | ((with_reducible refine at27 ?_); (refine load_msg (by rfl) (.tmp 9) (by rfl) w7.heap.size (by rfl) _ (unhide HR8) (unhide HL7) ?_)))
        have HB8 := hide (((unhide HB7).trans ((below_alloc' (w := w7) (.cells #[.int .i64 0, .int .i64 0, .int .i64 0, .int .i64 0, .bool false, .string ⟨#[]⟩, .int .u8 0, .int .u8 0, .int .u8 0, .int .u8 0, .int .u8 0, .int .u8 0, .int .u8 0, .int .u8 0, .int .u8 0, .int .u8 0, .int .u8 0, .int .u8 0, .int .u8 0, .int .u8 0, .int .u8 0, .int .u8 0, .int .u8 0, .int .u8 0, .int .u8 0, .int .u8 0, .int .u8 0, .int .u8 0, .int .u8 0, .int .u8 0, .int .u8 0, .int .u8 0, .int .u8 0, .int .u8 0, .int .u8 0, .int .u8 0, .int .u8 0, .int .u8 0, .slice none 0 0, .slice none 0 0, .string ⟨#[]⟩] 27)).mono (unhide HB7).size)).trans ((unhide HO8).below (unhide HB7).size))
        refine (unhide KX _ a7 b7 c7 d7 (sl_keep (unhide HY1) (unhide HO8)) (rl_keep (unhide HY2) (unhide HO8))).mono ?_
        rintro e w9 ⟨rfl, hb⟩
        have HB9 := hide (below_grow (unhide HB8) (Nat.le_refl _) hb)
        clear hb
        go_wp2_with fail
        refine (awake_any _).mono ?_
        rintro e w90 ⟨rfl, hb⟩
        have HB90 := hide (below_grow (unhide HB9) (Nat.le_refl _) hb)
        clear hb
        go_wp2_with fail
        go_ret
        exact ⟨rfl, unhide HB90⟩
      · have hne : (E != 0) = true := bne_iff_ne.2 he
        have hne2 : (E == 0) = false := beq_eq_false_iff_ne.2 he
        clear hone KX
        go_enter Try.func6, Try.ntmps6
        go_wp2_with ((with_reducible refine at27 ?_); (refine load_msg (by rfl) (.tmp 2) (by rfl) w.heap.size (by rfl) _ (unhide HR) (unhide HL) ?_))
        refine (unhide KG).mono ?_
        rintro e w1 ⟨rfl, hb⟩
        have HB1 := hide (below_grow (unhide HB) (Nat.le_refl _) hb)
        have HR1 := hide ((unhide HR).after hb)
        have HT1 := hide ((unhide HS1).after hb)
        have HT2 := hide ((unhide HS2).after hb)
        clear hb
        go_wp2_with ((with_reducible refine at27 ?_); (refine load_msg (by rfl) (.tmp 2) (by rfl) w.heap.size (by rfl) _ (unhide HR1) (unhide HL) ?_))
        refine (unhide KB _ (unhide HT1) (unhide HT2)).mono ?_
        rintro e w2 ⟨rfl, hb⟩
        have HB2 := hide (below_grow (unhide HB1) (Nat.le_refl _) hb)
        have HR2 := hide ((unhide HR1).after hb)
        have HU1 := hide ((unhide HT1).after hb)
        have HU2 := hide ((unhide HT2).after hb)
        clear hb
        go_wp2_with ((with_reducible refine at27 ?_); (refine load_msg (by rfl) (.tmp 2) (by rfl) w.heap.size (by rfl) _ (unhide HR2) (unhide HL) ?_))
        refine (unhide KC _ (unhide HU1) (unhide HU2)).mono ?_
        rintro e w3 ⟨rfl, hb⟩
        have HB3 := hide (below_grow (unhide HB2) (Nat.le_refl _) hb)
        have HR3 := hide ((unhide HR2).after hb)
        have HV1 := hide ((unhide HU1).after hb)
        have HV2 := hide ((unhide HU2).after hb)
        clear hb
        go_wp2_with fail
        refine (unhide KS _).mono ?_
        rintro e w7 ⟨a7, c7, b7, d7, rfl, h1, h2, hb⟩
        dsimp only at h1 h2
        have HB7 := hide (below_grow (unhide HB3) (Nat.le_refl _) hb)
        have HY1 := hide h1
        have HY2 := hide h2
        have HL7 := hide (mL_len (unhide HFX).root a7 c7 b7 d7)
        have HO7 := hide (mL_one x a7 c7 b7 d7)
        have HZ7 : Hid (VRow (w7.alloc (.cells #[.int .i64 0, .int .i64 0, .int .i64 0, .int .i64 0, .bool false, .string ⟨#[]⟩, .int .u8 0, .int .u8 0, .int .u8 0, .int .u8 0, .int .u8 0, .int .u8 0, .int .u8 0, .int .u8 0, .int .u8 0, .int .u8 0, .int .u8 0, .int .u8 0, .int .u8 0, .int .u8 0, .int .u8 0, .int .u8 0, .int .u8 0, .int .u8 0, .int .u8 0, .int .u8 0, .int .u8 0, .int .u8 0, .int .u8 0, .int .u8 0, .int .u8 0, .int .u8 0, .int .u8 0, .int .u8 0, .int .u8 0, .int .u8 0, .int .u8 0, .int .u8 0, .slice none 0 0, .slice none 0 0, .string ⟨#[]⟩] 27)) w7.heap.size 27 mZ) := hide (by rw [mZ_lit]; exact VRow.new w7 27 [.int .i64 0, .int .i64 0, .int .i64 0, .int .i64 0, .bool false, .string ⟨#[]⟩, .int .u8 0, .int .u8 0, .int .u8 0, .int .u8 0, .int .u8 0, .int .u8 0, .int .u8 0, .int .u8 0, .int .u8 0, .int .u8 0, .int .u8 0, .int .u8 0, .int .u8 0, .int .u8 0, .int .u8 0, .int .u8 0, .int .u8 0, .int .u8 0, .int .u8 0, .int .u8 0, .int .u8 0, .int .u8 0, .int .u8 0, .int .u8 0, .int .u8 0, .int .u8 0, .int .u8 0, .int .u8 0, .int .u8 0, .int .u8 0, .int .u8 0, .int .u8 0, .slice none 0 0, .slice none 0 0, .string ⟨#[]⟩])
        clear hb h1 h2
        go_wp2_with (first
          | ((with_reducible refine atS27 ?_); (refine store_row (by rfl) 27 (.tmp 9) (.tmp 50) (by rfl) w7.heap.size (mL x a7 c7 b7 d7) (by rfl) (by rfl) 27 mZ (unhide HZ7) 41 sizeM (unhide HL7) mZ_len (unhide HO7) ?_); intro w8 ho8 hr8; have HR8 := hide hr8; have HO8 := hide ho8; clear ho8 hr8)
          | ((with_reducible refine at27 ?_); (refine load_msg (by rfl) (.tmp 9) (by rfl) w7.heap.size (by rfl) _ (unhide HR8) (unhide HL7) ?_)))
        have HB8 := hide (((unhide HB7).trans ((below_alloc' (w := w7) (.cells #[.int .i64 0, .int .i64 0, .int .i64 0, .int .i64 0, .bool false, .string ⟨#[]⟩, .int .u8 0, .int .u8 0, .int .u8 0, .int .u8 0, .int .u8 0, .int .u8 0, .int .u8 0, .int .u8 0, .int .u8 0, .int .u8 0, .int .u8 0, .int .u8 0, .int .u8 0, .int .u8 0, .int .u8 0, .int .u8 0, .int .u8 0, .int .u8 0, .int .u8 0, .int .u8 0, .int .u8 0, .int .u8 0, .int .u8 0, .int .u8 0, .int .u8 0, .int .u8 0, .int .u8 0, .int .u8 0, .int .u8 0, .int .u8 0, .int .u8 0, .int .u8 0, .slice none 0 0, .slice none 0 0, .string ⟨#[]⟩] 27)).mono (unhide HB7).size)).trans ((unhide HO8).below (unhide HB7).size))
        refine (awake_any _).mono ?_
        rintro e w90 ⟨rfl, hb⟩
        have HB90 := hide (below_grow (unhide HB8) (Nat.le_refl _) hb)
        clear hb
        go_wp2_with fail
        go_ret
        exact ⟨rfl, unhide HB90⟩
end Go.Proofs.Ytojhpkeofklemaa
