/-
  Whether a message may be: the program's Check.
-/
import Derived.Test.YthecijjmgfempaaT2
import Derived.Test.YthecijjmgfempaaM5b
namespace Go.Proofs.Ythecijjmgfempaa
open Go.RowKit

set_option maxRecDepth 100000 in
set_option maxHeartbeats 400000 in
theorem isPeer_any (n : Int) (w : World) (D : Bool) (hD : D = true ↔ 0 ≤ n ∧ n ≤ 63) : Calls Try.prog 30 #[.int .i64 n] w fun e w' => e = .returned (.bool D) ∧ w' = w := by
  by_cases h1 : 0 ≤ n
  · by_cases h2 : n < 64
    · obtain rfl : D = true := hD.2 ⟨h1, by omega⟩
      clear hD
      go_enter Try.func30, Try.ntmps30
      go_wp2_with fail
      go_ret
      exact ⟨rfl, rfl⟩
    · obtain rfl : D = false := by cases D with | false => rfl | true => exact absurd (hD.1 rfl) (by omega)
      clear hD
      go_enter Try.func30, Try.ntmps30
      go_wp2_with fail
      go_ret
      exact ⟨rfl, rfl⟩
  · obtain rfl : D = false := by cases D with | false => rfl | true => exact absurd (hD.1 rfl) (by omega)
    clear hD
    go_enter Try.func30, Try.ntmps30
    go_wp2_with fail
    go_ret
    exact ⟨rfl, rfl⟩

set_option maxRecDepth 100000 in
set_option maxHeartbeats 2000000 in
theorem checkFields_any (m : Msg) (a b : Option Addr) (c d : Nat) (w : World) (hf : FewM m) (s1 : Sl w a m.ctx) (s2 : RL w b m.rows) :
    Calls Try.prog 32 #[.agg (mL m a c b d).toArray] w fun e w' => e = .returned (.int .i64 (ownErr m)) ∧ Below w.heap.size w w' := by
  have HR := hide (VRow.new w 27 (mL m a c b d))
  have HB := hide (below_alloc' (w := w) (.cells (mL m a c b d).toArray 27))
  have a5 := m5 (unhide HR)
  have a38 := m38 (unhide HR) hf.root
  have a39 := m39 (unhide HR) hf.root
  have a40 := m40 (unhide HR) hf.root
  obtain ⟨K, F, T, S, TU, P, R, C, RW, TX⟩ := m
  have HRT : Hid (R.length = 32) := hide hf.root
  have HF := hide hf
  have HS1 : Hid (Sl w a C) := hide s1
  have HS2 : Hid (RL w b RW) := hide s2
  dsimp only at a5 a38 a39 a40
  obtain ⟨V, hV⟩ : ∃ V, ownErr ⟨K, F, T, S, TU, P, R, C, RW, TX⟩ = V := ⟨_, rfl⟩
  rw [hV]
  unfold ownErr at hV
  dsimp only at hV
  by_cases hp : P = ⟨#[]⟩
  · have hp2 := str_is hp
    rw [show pathErr P = 0 from by rw [hp]; exact pathErr_none, if_neg (by simp)] at hV
    clear hp hf s1 s2
    go_enter Try.func32, Try.ntmps32
    go_wp2_with fail
    clear a5
    have KC := hide (check_any a c C (unhide HF).ctx _ ((unhide HS1).after (unhide HB)))
    obtain ⟨X, hX⟩ : ∃ X, Vc.check C = X := ⟨_, rfl⟩
    rw [hX] at KC hV
    clear hX
    refine (unhide KC).mono ?_
    rintro e w2 ⟨rfl, hb⟩
    have HR2 := hide ((unhide HR).after hb)
    have HB2 := hide (below_grow (unhide HB) (Nat.le_refl _) hb)
    clear hb a38 a39 a40
    by_cases hx : X = 0
    · subst hx
      rw [if_neg (by simp)] at hV
      have a39 := m39 (unhide HR2) (unhide HRT)
      have a40 := m40 (unhide HR2) (unhide HRT)
      dsimp only at a39 a40
      by_cases h64 : 64 < RW.length
      · rw [if_pos h64] at hV
        have HV : Hid (2 = V) := hide hV
        clear hV
        go_wp2_with fail
        go_ret
        exact ⟨ret_int (unhide HV), unhide HB2⟩
      · rw [if_neg h64] at hV
        have HO := hide hV.symm
        clear hV
        go_wp2_with fail
        go_loopw [6, 7, 30] (fun _ _ i wr => ∃ k : Nat, k ≤ RW.length ∧ i = .int .i64 k ∧ Hid (rowsErr (RW.drop k) = rowsErr RW) ∧ Hid (VRow wr w.heap.size 27 (mL ⟨K, F, T, S, TU, P, R, C, RW, TX⟩ a c b d) ∧ Below w.heap.size w wr)) (fun _ _ i _ => RW.length - (intOf i).toNat)
        case atStart => exact ⟨0, Nat.zero_le _, rfl, hide rfl, hide ⟨unhide HR2, unhide HB2⟩⟩
        case round =>
          obtain ⟨k, hk, rfl, HE, HH2⟩ := hrel
          have HRk := hide (unhide HH2).1
          have HBk := hide (unhide HH2).2
          clear a39 a40
          have a40 := m40 (unhide HRk) (unhide HRT)
          dsimp only at a40
          by_cases hlt : k < RW.length
          · obtain ⟨ds, hds⟩ : ∃ ds, RW[k]? = some ds := ⟨_, List.getElem?_eq_getElem hlt⟩
            obtain ⟨g, o, rfl, _, hcell⟩ := (unhide HS2).after (unhide HBk) (by omega)
            obtain ⟨r, c2, x0, _, hs⟩ := hcell k ds hds
            have KD := hide (check_any r c2 ds ((unhide HF).rows.at hds) wr hs)
            have HD := hide (rowsErr_drop RW k ds hds)
            clear hcell hs hds
            generalize Vc.check ds = Y at KD HD
            by_cases hy : Y = 0
            · subst hy
              go_wp2_with fail
              refine (unhide KD).mono ?_
              rintro e w9 ⟨rfl, hb⟩
              have HR9 := hide ((unhide HRk).after hb)
              have HB9 := hide (below_grow (unhide HBk) (Nat.le_refl _) hb)
              clear hb x0 a40
              go_wp2_with fail
              go_roundw
              case rel => exact ⟨k + 1, by omega, by go_num, hide (by have h1 := unhide HD; rw [if_neg (by simp)] at h1; rw [← h1]; exact unhide HE), hide ⟨unhide HR9, unhide HB9⟩⟩
              case measure => simp [intOf]; omega
            · have hne : (Y != 0) = true := bne_iff_ne.2 hy
              have hne2 : (Y == 0) = false := beq_eq_false_iff_ne.2 hy
              have HY := hide hy
              clear hy
              go_wp2_with fail
              refine (unhide KD).mono ?_
              rintro e w9 ⟨rfl, hb⟩
              have HB9 := hide (below_grow (unhide HBk) (Nat.le_refl _) hb)
              clear hb x0 a40
              go_wp2_with fail
              go_ret
              refine ⟨ret_int ?_, unhide HB9⟩
              rw [unhide HO, ← unhide HE, unhide HD, if_pos (unhide HY), if_pos (unhide HY)]
          · obtain rfl : k = RW.length := by omega
            have hE := unhide HE
            rw [List.drop_length] at hE
            have HO2 : Hid (V = if 65536 < TX.size then 2 else 0) := hide (by rw [unhide HO, ← hE]; rfl)
            clear hE
            by_cases htx : 65536 < TX.size
            · have HV : Hid (2 = V) := hide (by rw [unhide HO2, if_pos htx])
              go_wp2_with fail
              go_ret
              exact ⟨ret_int (unhide HV), unhide HBk⟩
            · have HV : Hid (0 = V) := hide (by rw [unhide HO2, if_neg htx])
              go_wp2_with fail
              go_ret
              exact ⟨ret_int (unhide HV), unhide HBk⟩
    · have hne : (X != 0) = true := bne_iff_ne.2 hx
      rw [if_pos hx] at hV
      have HV : Hid (X = V) := hide hV
      clear hV
      go_wp2_with fail
      go_ret
      exact ⟨ret_int (unhide HV), unhide HB2⟩
  · have hp2 := str_not hp
    have hp3 : P.toList.isEmpty = false := by simpa using hp2
    rw [pathErr_some hp] at hV
    have KP := hide (Pth.check_any P (Nat.le_trans hf.path (by omega)) (w.alloc (.cells (mL ⟨K, F, T, S, TU, P, R, C, RW, TX⟩ a c b d).toArray 27)))
    obtain ⟨Z, hZ⟩ : ∃ Z, Pth.Pt.check P.data.toList = Z := ⟨_, rfl⟩
    rw [hZ] at KP hV
    clear hp hf s1 s2 hZ
    by_cases hz : Z = 0
    · subst hz
      rw [if_neg (by simp)] at hV
      go_enter Try.func32, Try.ntmps32
      go_wp2_with fail
      refine (unhide KP).mono ?_
      rintro e w1 ⟨rfl, hb⟩
      have HR1 := hide ((unhide HR).after hb)
      have HB1 := hide (below_grow (unhide HB) (Nat.le_refl _) hb)
      clear hb a5 a38 a39 a40
      have a38 := m38 (unhide HR1) (unhide HRT)
      have a39 := m39 (unhide HR1) (unhide HRT)
      have a40 := m40 (unhide HR1) (unhide HRT)
      dsimp only at a38 a39 a40
      go_wp2_with fail
      have KC := hide (check_any a c C (unhide HF).ctx _ ((unhide HS1).after (unhide HB1)))
      obtain ⟨X, hX⟩ : ∃ X, Vc.check C = X := ⟨_, rfl⟩
      rw [hX] at KC hV
      clear hX
      refine (unhide KC).mono ?_
      rintro e w2 ⟨rfl, hb⟩
      have HR2 := hide ((unhide HR1).after hb)
      have HB2 := hide (below_grow (unhide HB1) (Nat.le_refl _) hb)
      clear hb a38 a39 a40
      by_cases hx : X = 0
      · subst hx
        rw [if_neg (by simp)] at hV
        have a39 := m39 (unhide HR2) (unhide HRT)
        have a40 := m40 (unhide HR2) (unhide HRT)
        dsimp only at a39 a40
        by_cases h64 : 64 < RW.length
        · rw [if_pos h64] at hV
          have HV : Hid (2 = V) := hide hV
          clear hV
          go_wp2_with fail
          go_ret
          exact ⟨ret_int (unhide HV), unhide HB2⟩
        · rw [if_neg h64] at hV
          have HO := hide hV.symm
          clear hV
          go_wp2_with fail
          go_loopw [6, 7, 30] (fun _ _ i wr => ∃ k : Nat, k ≤ RW.length ∧ i = .int .i64 k ∧ Hid (rowsErr (RW.drop k) = rowsErr RW) ∧ Hid (VRow wr w.heap.size 27 (mL ⟨K, F, T, S, TU, P, R, C, RW, TX⟩ a c b d) ∧ Below w.heap.size w wr)) (fun _ _ i _ => RW.length - (intOf i).toNat)
          case atStart => exact ⟨0, Nat.zero_le _, rfl, hide rfl, hide ⟨unhide HR2, unhide HB2⟩⟩
          case round =>
            obtain ⟨k, hk, rfl, HE, HH2⟩ := hrel
            have HRk := hide (unhide HH2).1
            have HBk := hide (unhide HH2).2
            clear a39 a40
            have a40 := m40 (unhide HRk) (unhide HRT)
            dsimp only at a40
            by_cases hlt : k < RW.length
            · obtain ⟨ds, hds⟩ : ∃ ds, RW[k]? = some ds := ⟨_, List.getElem?_eq_getElem hlt⟩
              obtain ⟨g, o, rfl, _, hcell⟩ := (unhide HS2).after (unhide HBk) (by omega)
              obtain ⟨r, c2, x0, _, hs⟩ := hcell k ds hds
              have KD := hide (check_any r c2 ds ((unhide HF).rows.at hds) wr hs)
              have HD := hide (rowsErr_drop RW k ds hds)
              clear hcell hs hds
              generalize Vc.check ds = Y at KD HD
              by_cases hy : Y = 0
              · subst hy
                go_wp2_with fail
                refine (unhide KD).mono ?_
                rintro e w9 ⟨rfl, hb⟩
                have HR9 := hide ((unhide HRk).after hb)
                have HB9 := hide (below_grow (unhide HBk) (Nat.le_refl _) hb)
                clear hb x0 a40
                go_wp2_with fail
                go_roundw
                case rel => exact ⟨k + 1, by omega, by go_num, hide (by have h1 := unhide HD; rw [if_neg (by simp)] at h1; rw [← h1]; exact unhide HE), hide ⟨unhide HR9, unhide HB9⟩⟩
                case measure => simp [intOf]; omega
              · have hne : (Y != 0) = true := bne_iff_ne.2 hy
                have hne2 : (Y == 0) = false := beq_eq_false_iff_ne.2 hy
                have HY := hide hy
                clear hy
                go_wp2_with fail
                refine (unhide KD).mono ?_
                rintro e w9 ⟨rfl, hb⟩
                have HB9 := hide (below_grow (unhide HBk) (Nat.le_refl _) hb)
                clear hb x0 a40
                go_wp2_with fail
                go_ret
                refine ⟨ret_int ?_, unhide HB9⟩
                rw [unhide HO, ← unhide HE, unhide HD, if_pos (unhide HY), if_pos (unhide HY)]
            · obtain rfl : k = RW.length := by omega
              have hE := unhide HE
              rw [List.drop_length] at hE
              have HO2 : Hid (V = if 65536 < TX.size then 2 else 0) := hide (by rw [unhide HO, ← hE]; rfl)
              clear hE
              by_cases htx : 65536 < TX.size
              · have HV : Hid (2 = V) := hide (by rw [unhide HO2, if_pos htx])
                go_wp2_with fail
                go_ret
                exact ⟨ret_int (unhide HV), unhide HBk⟩
              · have HV : Hid (0 = V) := hide (by rw [unhide HO2, if_neg htx])
                go_wp2_with fail
                go_ret
                exact ⟨ret_int (unhide HV), unhide HBk⟩
      · have hne : (X != 0) = true := bne_iff_ne.2 hx
        rw [if_pos hx] at hV
        have HV : Hid (X = V) := hide hV
        clear hV
        go_wp2_with fail
        go_ret
        exact ⟨ret_int (unhide HV), unhide HB2⟩
    · have hne : (Z != 0) = true := bne_iff_ne.2 hz
      rw [if_pos hz] at hV
      have HV : Hid (Z = V) := hide hV
      clear hV
      go_enter Try.func32, Try.ntmps32
      go_wp2_with fail
      refine (unhide KP).mono ?_
      rintro e w1 ⟨rfl, hb⟩
      have HB1 := hide (below_grow (unhide HB) (Nat.le_refl _) hb)
      clear hb a5 a38 a39 a40
      go_wp2_with fail
      go_ret
      exact ⟨ret_int (unhide HV), unhide HB1⟩

theorem own_iff (m : Msg) : blankM m = { zeroM with kind := m.kind, frm := m.frm, dst := m.dst, sid := m.sid } ↔ foreign m = false := by
  obtain ⟨K, F, T, S, TU, P, R, C, RW, TX⟩ := m
  unfold blankM foreign zeroM
  dsimp only
  by_cases h2 : K = 2
  · subst h2
    rw [if_pos rfl]
    simp [and_comm]
  rw [if_neg h2]
  by_cases h3 : K = 3
  · subst h3
    rw [if_pos rfl]
    simp [and_comm, and_left_comm]
  rw [if_neg h3]
  by_cases h4 : K = 4
  · subst h4
    rw [if_pos rfl]
    simp [and_assoc, and_comm]
  rw [if_neg h4]
  by_cases h6 : K = 6
  · subst h6
    rw [if_pos rfl]
    simp [and_assoc, and_comm, and_left_comm]
  rw [if_neg h6]
  simp [h2, h3, h4, h6, and_assoc, and_comm, and_left_comm]
theorem blank_few {m : Msg} (h : FewM m) : FewM (blankM m) := by
  unfold blankM
  split
  · exact ⟨rfl, h.path, Nat.zero_le _, ⟨Nat.zero_le _, fun _ h => by cases h⟩, h.text⟩
  · split
    · exact ⟨rfl, Nat.zero_le _, h.ctx, h.rows, h.text⟩
    · split
      · exact ⟨h.root, Nat.zero_le _, h.ctx, h.rows, Nat.zero_le _⟩
      · split
        · exact ⟨h.root, h.path, h.ctx, h.rows, h.text⟩
        · exact h
theorem blank_sl {W : World} {m : Msg} {a : Option Addr} (h : Sl W a m.ctx) : Sl W (if m.kind = 2 then none else a) (blankM m).ctx := by
  unfold blankM
  split
  · exact Sl.none _ _
  · split
    · exact h
    · split
      · exact h
      · split <;> exact h
theorem blank_rl {W : World} {m : Msg} {b : Option Addr} (h : RL W b m.rows) : RL W (if m.kind = 2 then none else b) (blankM m).rows := by
  unfold blankM
  split
  · exact RL.none _ _
  · split
    · exact h
    · split
      · exact h
      · split <;> exact h
theorem atS27 {ops : Array Oper} {d : Option Tmp} {x y : Operand} {ty : TypeId} {pos : String} {af : Array Edge} {g : Option (Nat × Bool)} {rest : List Oper} {a : Act} {w : World} {Q : Exit → Act → World → Prop} (h : wpList Try.prog ops Q ({dst := d, op := .store 27 x y, type := ty, pos := pos, after := af, guard := g} :: rest) a w) : wpList Try.prog ops Q ({dst := d, op := .store 27 x y, type := ty, pos := pos, after := af, guard := g} :: rest) a w := h
theorem zero_few (k f t s : Int) : FewM { zeroM with kind := k, frm := f, dst := t, sid := s } := ⟨rfl, Nat.zero_le _, Nat.zero_le _, ⟨Nat.zero_le _, fun _ h => by cases h⟩, Nat.zero_le _⟩

end Go.Proofs.Ythecijjmgfempaa

namespace Go.Proofs.Ythecijjmgfempaa
open Go.RowKit

theorem throughB_ex (w : World) (B : Nat) (m : Msg) (a b : Option Addr) (c d : Nat) (hr : m.root.length = 32) (h : VRow w B 27 (mL m a c b d)) :
    Calls Try.prog 15 #[.pointer (some ⟨B, 0, none⟩), .iface 88 (.agg #[])] w fun e w' => e = .returned (.tuple #[]) ∧ ∃ a' c' b' d', VRow w' B 27 (mL (blankM m) a' c' b' d') ∧ Beside (· = B) w w' ∧ (∀ W, Sl W a m.ctx → Sl W a' (blankM m).ctx) ∧ ∀ W, RL W b m.rows → RL W b' (blankM m).rows :=
  (throughB_any w B m a b c d hr h).mono fun _ _ hm => ⟨hm.1, _, _, _, _, hm.2.1, hm.2.2, fun _ h => blank_sl h, fun _ h => blank_rl h⟩

set_option maxRecDepth 100000 in
set_option maxHeartbeats 1000000 in
theorem onlyOwn_any (m : Msg) (a b : Option Addr) (c d : Nat) (w : World) (hf : FewM m) (s1 : Sl w a m.ctx) (s2 : RL w b m.rows) :
    Calls Try.prog 31 #[.agg (mL m a c b d).toArray] w fun e w' => e = .returned (.bool (!foreign m)) ∧ Below w.heap.size w w' := by
  have HR := hide (VRow.new w 27 (mL m a c b d))
  have HR' := hide ((VRow.new w 27 (mL m a c b d)).alloc (.cells #[.int .i64 0, .int .i64 0, .int .i64 0, .int .i64 0, .bool false, .string ⟨#[]⟩, .int .u8 0, .int .u8 0, .int .u8 0, .int .u8 0, .int .u8 0, .int .u8 0, .int .u8 0, .int .u8 0, .int .u8 0, .int .u8 0, .int .u8 0, .int .u8 0, .int .u8 0, .int .u8 0, .int .u8 0, .int .u8 0, .int .u8 0, .int .u8 0, .int .u8 0, .int .u8 0, .int .u8 0, .int .u8 0, .int .u8 0, .int .u8 0, .int .u8 0, .int .u8 0, .int .u8 0, .int .u8 0, .int .u8 0, .int .u8 0, .int .u8 0, .int .u8 0, .slice none 0 0, .slice none 0 0, .string ⟨#[]⟩] 27))
  have HZ := hide (VRow.newAt (W := w.alloc (.cells (mL m a c b d).toArray 27)) (T := 27) (n := w.heap.size + 1) (vs := [.int .i64 0, .int .i64 0, .int .i64 0, .int .i64 0, .bool false, .string ⟨#[]⟩, .int .u8 0, .int .u8 0, .int .u8 0, .int .u8 0, .int .u8 0, .int .u8 0, .int .u8 0, .int .u8 0, .int .u8 0, .int .u8 0, .int .u8 0, .int .u8 0, .int .u8 0, .int .u8 0, .int .u8 0, .int .u8 0, .int .u8 0, .int .u8 0, .int .u8 0, .int .u8 0, .int .u8 0, .int .u8 0, .int .u8 0, .int .u8 0, .int .u8 0, .int .u8 0, .int .u8 0, .int .u8 0, .int .u8 0, .int .u8 0, .int .u8 0, .int .u8 0, .slice none 0 0, .slice none 0 0, .string ⟨#[]⟩]) (by simp))
  have HB := hide ((below_alloc' (w := w) (.cells (mL m a c b d).toArray 27)).alloc (by simp) (.cells #[.int .i64 0, .int .i64 0, .int .i64 0, .int .i64 0, .bool false, .string ⟨#[]⟩, .int .u8 0, .int .u8 0, .int .u8 0, .int .u8 0, .int .u8 0, .int .u8 0, .int .u8 0, .int .u8 0, .int .u8 0, .int .u8 0, .int .u8 0, .int .u8 0, .int .u8 0, .int .u8 0, .int .u8 0, .int .u8 0, .int .u8 0, .int .u8 0, .int .u8 0, .int .u8 0, .int .u8 0, .int .u8 0, .int .u8 0, .int .u8 0, .int .u8 0, .int .u8 0, .int .u8 0, .int .u8 0, .int .u8 0, .int .u8 0, .int .u8 0, .int .u8 0, .slice none 0 0, .slice none 0 0, .string ⟨#[]⟩] 27))
  have HL := hide (mL_len hf.root a c b d)
  have H1 := hide (mL_one m a c b d)
  have HS1 := hide s1
  have HS2 := hide s2
  have HF := hide hf
  have HI := hide (own_iff m)
  clear hf s1 s2
  go_enter Try.func31, Try.ntmps31
  go_wp2_with (first
    | ((with_reducible refine at27 ?_); (refine load_msg (by rfl) (.tmp 1) (by rfl) w.heap.size (by rfl) _ (unhide HR) (unhide HL) ?_))
    | ((with_reducible refine atS27 ?_); (refine store_row (by rfl) 27 (.tmp 3) (.tmp 4) (by rfl) (w.heap.size + 1) (mL m a c b d) (by rfl) (by rfl) 27 _ (unhide HZ) 41 sizeM (unhide HL) rfl (unhide H1) ?_); intro w1 ho1 hr1; have HO1 := hide ho1; have HR1 := hide hr1; clear ho1 hr1))
  have KB := hide (throughB_ex w1 (w.heap.size + 1) m a b c d (unhide HF).root (unhide HR1))
  refine (unhide KB).mono ?_
  rintro e w2 ⟨rfl, a', c', b', d', hv, hb, hsl, hrl⟩
  have HV := hide hv
  have HB2 : Hid (Below w.heap.size w w2) := hide (((unhide HB).trans ((unhide HO1).below (by omega))).trans (hb.below (by rw [(unhide HO1).size]; exact (unhide HB).size) fun g e => by have e2 : g = w.heap.size + 1 := e; omega))
  have HR2 := hide (VRow.beside (VRow.only (unhide HR') (unhide HO1) (by omega)) hb (by intro e; have e2 : w.heap.size = w.heap.size + 1 := e; omega))
  have HL2 := hide (mL_len (blank_few (unhide HF)).root a' c' b' d')
  have x0 := m0 (unhide HR2)
  have x1 := m1 (unhide HR2)
  have x2 := m2 (unhide HR2)
  have x3 := m3 (unhide HR2)
  have KS : Hid (Calls Try.prog 41 #[.agg (mL (blankM m) a' c' b' d').toArray, .agg #[.int .i64 m.kind, .int .i64 m.frm, .int .i64 m.dst, .int .i64 m.sid, .bool false, .string ⟨#[]⟩, .int .u8 0, .int .u8 0, .int .u8 0, .int .u8 0, .int .u8 0, .int .u8 0, .int .u8 0, .int .u8 0, .int .u8 0, .int .u8 0, .int .u8 0, .int .u8 0, .int .u8 0, .int .u8 0, .int .u8 0, .int .u8 0, .int .u8 0, .int .u8 0, .int .u8 0, .int .u8 0, .int .u8 0, .int .u8 0, .int .u8 0, .int .u8 0, .int .u8 0, .int .u8 0, .int .u8 0, .int .u8 0, .int .u8 0, .int .u8 0, .int .u8 0, .int .u8 0, .slice none 0 0, .slice none 0 0, .string ⟨#[]⟩]] w2 fun e w' => e = .returned (.bool (!foreign m)) ∧ Below w2.heap.size w2 w') := hide (sameM_any (blankM m) { zeroM with kind := m.kind, frm := m.frm, dst := m.dst, sid := m.sid } a' b' none none c' d' 0 0 w2
    (blank_few (unhide HF)) (zero_few _ _ _ _) (hsl _ ((unhide HS1).after (unhide HB2))) (hrl _ ((unhide HS2).after (unhide HB2))) (Sl.none _ _) (RL.none _ _) (!foreign m) (by rw [unhide HI]; simp))
  clear hv hb hsl hrl
  go_wp2_with ((with_reducible refine at27 ?_); (refine load_msg (by rfl) (.tmp 3) (by rfl) (w.heap.size + 1) (by rfl) _ (unhide HV) (unhide HL2) ?_))
  refine (unhide KS).mono ?_
  rintro e w3 ⟨rfl, hb⟩
  have HB3 := hide (below_grow (unhide HB2) (Nat.le_refl _) hb)
  clear hb x0 x1 x2 x3
  go_wp2_with fail
  go_ret
  exact ⟨rfl, unhide HB3⟩

set_option maxRecDepth 100000 in
set_option maxHeartbeats 2000000 in
theorem checkM_any (m : Msg) (a b : Option Addr) (c d : Nat) (w : World) (hf : FewM m) (s1 : Sl w a m.ctx) (s2 : RL w b m.rows) :
    Calls Try.prog 14 #[.agg (mL m a c b d).toArray] w fun e w' => e = .returned (.int .i64 (checkM m)) ∧ Below w.heap.size w w' := by
  have HR := hide (VRow.new w 27 (mL m a c b d))
  have HB := hide (below_alloc' (w := w) (.cells (mL m a c b d).toArray 27))
  have HL := hide (mL_len hf.root a c b d)
  have a0 := m0 (unhide HR)
  have a1 := m1 (unhide HR)
  have a2 := m2 (unhide HR)
  have a3 := m3 (unhide HR)
  have KO := hide fun W (h1 : Sl W a m.ctx) (h2 : RL W b m.rows) => onlyOwn_any m a b c d W hf h1 h2
  have KF := hide fun W (h1 : Sl W a m.ctx) (h2 : RL W b m.rows) => checkFields_any m a b c d W hf h1 h2
  have HS1 := hide (s1.after (unhide HB))
  have HS2 := hide (s2.after (unhide HB))
  obtain ⟨V, hV⟩ : ∃ V, checkM m = V := ⟨_, rfl⟩
  rw [hV]
  have HCV := hide hV
  unfold checkM headM at hV
  have hk1 : kindErr m.kind = 0 ∨ kindErr m.kind = 15 := by unfold kindErr; split; exact Or.inr rfl; exact Or.inl rfl
  have hk2 : kindErr m.kind = 0 ↔ ¬ (m.kind < 1 ∨ 6 < m.kind) := by
    unfold kindErr
    constructor
    · intro h hc
      rw [if_pos hc] at h
      exact absurd h (by omega)
    · intro h
      rw [if_neg h]
  obtain ⟨E, hE⟩ : ∃ E, kindErr m.kind = E := ⟨_, rfl⟩
  have KK := hide fun W => checkKind_any m.kind W
  rw [hE] at hk1 hk2 KK
  clear hE
  by_cases hk : m.kind < 1 ∨ 6 < m.kind
  · rw [if_pos (show ¬ (if m.kind < 1 ∨ 6 < m.kind then (15 : Int) else _) = 0 from by rw [if_pos hk]; omega), if_pos hk] at hV
    obtain rfl : E = 15 := by rcases hk1 with h | h; exact absurd hk (hk2.1 h); exact h
    have HV : Hid (15 = V) := hide hV
    clear hV hk hk1 hk2 hf s1 s2
    go_enter Try.func14, Try.ntmps14
    go_wp2_with fail
    refine (unhide KK _).mono ?_
    rintro e w1 ⟨rfl, rfl⟩
    go_wp2_with fail
    go_ret
    exact ⟨ret_int (unhide HV), unhide HB⟩
  obtain rfl : E = 0 := hk2.2 hk
  rw [if_neg hk] at hV
  clear hk1 hk2
  have KP1 := hide fun W (D : Bool) => isPeer_any m.frm W D
  have KP2 := hide fun W (D : Bool) => isPeer_any m.dst W D
  by_cases hp1 : 0 ≤ m.frm ∧ m.frm ≤ 63
  · have HP1 := hide (unhide KP1 (w.alloc (.cells (mL m a c b d).toArray 27)) true (by simp [hp1]))
    by_cases hp2 : 0 ≤ m.dst ∧ m.dst ≤ 63
    · have HP2 := hide (unhide KP2 (w.alloc (.cells (mL m a c b d).toArray 27)) true (by simp [hp2]))
      by_cases hq : m.frm = m.dst
      · rw [if_pos (show m.frm < 0 ∨ 63 < m.frm ∨ m.dst < 0 ∨ 63 < m.dst ∨ m.frm = m.dst from by omega)] at hV
        have HV : Hid (11 = V) := hide (by simpa using hV)
        have hq2 : (m.frm == m.dst) = true := beq_iff_eq.2 hq
        clear hV hk hf s1 s2 hp1 hp2 hq KP1 KP2
        go_enter Try.func14, Try.ntmps14
        go_wp2_with fail
        refine (unhide KK _).mono ?_
        rintro e w1 ⟨rfl, rfl⟩
        go_wp2_with fail
        refine (unhide HP1).mono ?_
        rintro e w1 ⟨rfl, rfl⟩
        go_wp2_with fail
        refine (unhide HP2).mono ?_
        rintro e w1 ⟨rfl, rfl⟩
        go_wp2_with fail
        go_ret
        exact ⟨ret_int (unhide HV), unhide HB⟩
      · rw [if_neg (show ¬ (m.frm < 0 ∨ 63 < m.frm ∨ m.dst < 0 ∨ 63 < m.dst ∨ m.frm = m.dst) from by omega)] at hV
        have hq2 : (m.frm == m.dst) = false := beq_eq_false_iff_ne.2 hq
        rcases (by omega : m.sid < 1 ∨ 1048576 < m.sid ∨ (1 ≤ m.sid ∧ m.sid ≤ 1048576)) with h9 | h9 | h9
        iterate 2
          · rw [if_pos (show m.sid < 1 ∨ 1048576 < m.sid from by omega)] at hV
            have HV : Hid (12 = V) := hide (by simpa using hV)
            clear hV hk hf s1 s2 hp1 hp2 hq KP1 KP2
            go_enter Try.func14, Try.ntmps14
            go_wp2_with fail
            refine (unhide KK _).mono ?_
            rintro e w1 ⟨rfl, rfl⟩
            go_wp2_with fail
            refine (unhide HP1).mono ?_
            rintro e w1 ⟨rfl, rfl⟩
            go_wp2_with fail
            refine (unhide HP2).mono ?_
            rintro e w1 ⟨rfl, rfl⟩
            go_wp2_with fail
            go_ret
            exact ⟨ret_int (unhide HV), unhide HB⟩
        · obtain ⟨h10, h11⟩ := h9
          rw [if_neg (show ¬ (m.sid < 1 ∨ 1048576 < m.sid) from by omega), if_neg (by simp)] at hV
          have HV := hide hV
          clear hV hk hf s1 s2 hp1 hp2 hq KP1 KP2
          obtain ⟨D, hD⟩ : ∃ D, foreign m = D := ⟨_, rfl⟩
          rw [hD] at KO HV
          clear hD
          cases D with
          | true =>
            have HV2 : Hid (7 = V) := hide (by have h := unhide HV; rw [if_pos rfl] at h; exact h)
            go_enter Try.func14, Try.ntmps14
            go_wp2_with fail
            refine (unhide KK _).mono ?_
            rintro e w1 ⟨rfl, rfl⟩
            go_wp2_with fail
            refine (unhide HP1).mono ?_
            rintro e w1 ⟨rfl, rfl⟩
            go_wp2_with fail
            refine (unhide HP2).mono ?_
            rintro e w1 ⟨rfl, rfl⟩
            go_wp2_with ((with_reducible refine at27 ?_); (refine load_msg (by rfl) _ (by rfl) w.heap.size (by rfl) _ (unhide HR) (unhide HL) ?_))
            refine (unhide KO _ (unhide HS1) (unhide HS2)).mono ?_
            rintro e w2 ⟨rfl, hb⟩
            have HB2 := hide (below_grow (unhide HB) (Nat.le_refl _) hb)
            clear hb a0 a1 a2 a3
            go_wp2_with fail
            go_ret
            exact ⟨ret_int (unhide HV2), unhide HB2⟩
          | false =>
            have HV2 : Hid (ownErr m = V) := hide (by have h := unhide HV; rw [if_neg (by simp)] at h; exact h)
            go_enter Try.func14, Try.ntmps14
            go_wp2_with fail
            refine (unhide KK _).mono ?_
            rintro e w1 ⟨rfl, rfl⟩
            go_wp2_with fail
            refine (unhide HP1).mono ?_
            rintro e w1 ⟨rfl, rfl⟩
            go_wp2_with fail
            refine (unhide HP2).mono ?_
            rintro e w1 ⟨rfl, rfl⟩
            go_wp2_with ((with_reducible refine at27 ?_); (refine load_msg (by rfl) _ (by rfl) w.heap.size (by rfl) _ (unhide HR) (unhide HL) ?_))
            refine (unhide KO _ (unhide HS1) (unhide HS2)).mono ?_
            rintro e w2 ⟨rfl, hb⟩
            have HB2 := hide (below_grow (unhide HB) (Nat.le_refl _) hb)
            have HR2 := hide ((unhide HR).after hb)
            have HT1 := hide ((unhide HS1).after hb)
            have HT2 := hide ((unhide HS2).after hb)
            clear hb a0 a1 a2 a3
            go_wp2_with ((with_reducible refine at27 ?_); (refine load_msg (by rfl) _ (by rfl) w.heap.size (by rfl) _ (unhide HR2) (unhide HL) ?_))
            refine (unhide KF _ (unhide HT1) (unhide HT2)).mono ?_
            rintro e w3 ⟨rfl, hb⟩
            have HB3 := hide (below_grow (unhide HB2) (Nat.le_refl _) hb)
            clear hb
            go_wp2_with fail
            go_ret
            exact ⟨ret_int (unhide HV2), unhide HB3⟩
    · have HP2 := hide (unhide KP2 (w.alloc (.cells (mL m a c b d).toArray 27)) false (by simp; omega))
      rw [if_pos (show m.frm < 0 ∨ 63 < m.frm ∨ m.dst < 0 ∨ 63 < m.dst ∨ m.frm = m.dst from by omega)] at hV
      have HV : Hid (11 = V) := hide (by simpa using hV)
      clear hV hk hf s1 s2 hp1 hp2 KP1 KP2
      go_enter Try.func14, Try.ntmps14
      go_wp2_with fail
      refine (unhide KK _).mono ?_
      rintro e w1 ⟨rfl, rfl⟩
      go_wp2_with fail
      refine (unhide HP1).mono ?_
      rintro e w1 ⟨rfl, rfl⟩
      go_wp2_with fail
      refine (unhide HP2).mono ?_
      rintro e w1 ⟨rfl, rfl⟩
      go_wp2_with fail
      go_ret
      exact ⟨ret_int (unhide HV), unhide HB⟩
  · have HP1 := hide (unhide KP1 (w.alloc (.cells (mL m a c b d).toArray 27)) false (by simp; omega))
    rw [if_pos (show m.frm < 0 ∨ 63 < m.frm ∨ m.dst < 0 ∨ 63 < m.dst ∨ m.frm = m.dst from by omega)] at hV
    have HV : Hid (11 = V) := hide (by simpa using hV)
    clear hV hk hf s1 s2 hp1 KP1 KP2
    go_enter Try.func14, Try.ntmps14
    go_wp2_with fail
    refine (unhide KK _).mono ?_
    rintro e w1 ⟨rfl, rfl⟩
    go_wp2_with fail
    refine (unhide HP1).mono ?_
    rintro e w1 ⟨rfl, rfl⟩
    go_wp2_with fail
    go_ret
    exact ⟨ret_int (unhide HV), unhide HB⟩
end Go.Proofs.Ythecijjmgfempaa
