/-
  Whether a message may be: the document's, kind by kind.
-/
import Derived.Test.YthecijjmgfempaaM2
namespace Go.Proofs.Ythecijjmgfempaa
open Go.RowKit

set_option maxRecDepth 100000 in
set_option maxHeartbeats 4000000 in
theorem refCheck_k4 (F T S : Int) (TU : Bool) (P : ByteArray) (R : List UInt8) (C : List Vc.D) (RW : List (List Vc.D)) (TX : ByteArray) (a b : Option Addr) (c d : Nat) (w : World)
    (hf : FewM ⟨4, F, T, S, TU, P, R, C, RW, TX⟩) (hh : headM ⟨4, F, T, S, TU, P, R, C, RW, TX⟩ = 0) (s1 : Sl w a C) (s2 : RL w b RW) :
    Calls Try.prog 21 #[.agg (mL ⟨4, F, T, S, TU, P, R, C, RW, TX⟩ a c b d).toArray] w fun e w' => e = .returned (.int .i64 (checkM ⟨4, F, T, S, TU, P, R, C, RW, TX⟩)) ∧ Below w.heap.size w w' := by
  obtain ⟨V, hV⟩ : ∃ V, checkM ⟨4, F, T, S, TU, P, R, C, RW, TX⟩ = V := ⟨_, rfl⟩
  rw [hV]
  have hsm := fun w => eq_zero R hf.root w
  by_cases hroot : R = zero32
  · have hr2 : (R == zero32) = true := by simpa using hroot
    rw [hr2] at hsm
    by_cases hp : P = ⟨#[]⟩
    · have hp2 := str_is hp
      by_cases hc : 0 < C.length
      · have HV : Hid (7 = V) := hide (by rw [← hV, checkM_foreign hh (by simp [foreign, hroot, hc])])
        clear hV
        have R0 := VRow.new w 27 (mL ⟨4, F, T, S, TU, P, R, C, RW, TX⟩ a c b d)
        have HB := hide (below_alloc' (w := w) (.cells (mL ⟨4, F, T, S, TU, P, R, C, RW, TX⟩ a c b d).toArray 27))
        have HR := hide R0
        have HL := hide (mL_len (m := ⟨4, F, T, S, TU, P, R, C, RW, TX⟩) hf.root a c b d)
        have K1 := hide fun W => refHead_any ⟨4, F, T, S, TU, P, R, C, RW, TX⟩ a b c d W
        have HRT : Hid (R.length = 32) := hide hf.root
        have HS1 := hide s1
        have HS2 := hide s2
        have HF := hide hf
        rw [hh] at K1
        clear hr2 hroot hp R0 hf hh s1 s2
        go_enter Try.func21, Try.ntmps21
        go_wp2_with ((have hrx := unhide HR); (refine load_msg (by rfl) (.tmp 1) (by rfl) w.heap.size (by rfl) _ hrx (unhide HL) ?_))
        refine (unhide K1 _).mono ?_
        rintro e w1 ⟨rfl, hb⟩
        have HR1 := hide ((unhide HR).after hb)
        have HB1 := hide (below_grow (unhide HB) (Nat.le_refl _) hb)
        have HR6 : Hid (w1.rangeAt w.heap.size 6 (R.map byteVal)) := hide (m6 (unhide HR1))
        have a0 := m0 (unhide HR1)
        have a4 := m4 (unhide HR1)
        have a5 := m5 (unhide HR1)
        have a38 := m38 (unhide HR1) (unhide HRT)
        have a39 := m39 (unhide HR1) (unhide HRT)
        have a40 := m40 (unhide HR1) (unhide HRT)
        dsimp only at a0 a4 a5 a38 a39 a40
        clear hb HR
        go_wp2_with ((have hrx := unhide HR6); (refine load_root (by rfl) (.tmp 13) (by rfl) w.heap.size (by rfl) R hrx (unhide HRT) ?_); (clear hrx HR6))
        go_ret
        exact ⟨ret_int (unhide HV), unhide HB1⟩
      · have hc0 : C.length ≤ 0 := by omega
        by_cases hw : 0 < RW.length
        · have HV : Hid (7 = V) := hide (by rw [← hV, checkM_foreign hh (by simp [foreign, hroot, hc, hw])])
          clear hV
          have R0 := VRow.new w 27 (mL ⟨4, F, T, S, TU, P, R, C, RW, TX⟩ a c b d)
          have HB := hide (below_alloc' (w := w) (.cells (mL ⟨4, F, T, S, TU, P, R, C, RW, TX⟩ a c b d).toArray 27))
          have HR := hide R0
          have HL := hide (mL_len (m := ⟨4, F, T, S, TU, P, R, C, RW, TX⟩) hf.root a c b d)
          have K1 := hide fun W => refHead_any ⟨4, F, T, S, TU, P, R, C, RW, TX⟩ a b c d W
          have HRT : Hid (R.length = 32) := hide hf.root
          have HS1 := hide s1
          have HS2 := hide s2
          have HF := hide hf
          rw [hh] at K1
          clear hr2 hroot hp hc R0 hf hh s1 s2
          go_enter Try.func21, Try.ntmps21
          go_wp2_with ((have hrx := unhide HR); (refine load_msg (by rfl) (.tmp 1) (by rfl) w.heap.size (by rfl) _ hrx (unhide HL) ?_))
          refine (unhide K1 _).mono ?_
          rintro e w1 ⟨rfl, hb⟩
          have HR1 := hide ((unhide HR).after hb)
          have HB1 := hide (below_grow (unhide HB) (Nat.le_refl _) hb)
          have HR6 : Hid (w1.rangeAt w.heap.size 6 (R.map byteVal)) := hide (m6 (unhide HR1))
          have a0 := m0 (unhide HR1)
          have a4 := m4 (unhide HR1)
          have a5 := m5 (unhide HR1)
          have a38 := m38 (unhide HR1) (unhide HRT)
          have a39 := m39 (unhide HR1) (unhide HRT)
          have a40 := m40 (unhide HR1) (unhide HRT)
          dsimp only at a0 a4 a5 a38 a39 a40
          clear hb HR
          go_wp2_with ((have hrx := unhide HR6); (refine load_root (by rfl) (.tmp 13) (by rfl) w.heap.size (by rfl) R hrx (unhide HRT) ?_); (clear hrx HR6))
          go_ret
          exact ⟨ret_int (unhide HV), unhide HB1⟩
        · have hw0 : RW.length ≤ 0 := by omega
          by_cases ht : TX = ⟨#[]⟩
          · have ht2 := str_is ht
            cases TU with
            | true =>
              have HV : Hid (7 = V) := hide (by rw [← hV, checkM_foreign hh (by simp [foreign, hroot, hc, hw])])
              clear hV
              have R0 := VRow.new w 27 (mL ⟨4, F, T, S, true, P, R, C, RW, TX⟩ a c b d)
              have HB := hide (below_alloc' (w := w) (.cells (mL ⟨4, F, T, S, true, P, R, C, RW, TX⟩ a c b d).toArray 27))
              have HR := hide R0
              have HL := hide (mL_len (m := ⟨4, F, T, S, true, P, R, C, RW, TX⟩) hf.root a c b d)
              have K1 := hide fun W => refHead_any ⟨4, F, T, S, true, P, R, C, RW, TX⟩ a b c d W
              have HRT : Hid (R.length = 32) := hide hf.root
              have HS1 := hide s1
              have HS2 := hide s2
              have HF := hide hf
              rw [hh] at K1
              clear hr2 hroot hp hc hw ht R0 hf hh s1 s2
              go_enter Try.func21, Try.ntmps21
              go_wp2_with ((have hrx := unhide HR); (refine load_msg (by rfl) (.tmp 1) (by rfl) w.heap.size (by rfl) _ hrx (unhide HL) ?_))
              refine (unhide K1 _).mono ?_
              rintro e w1 ⟨rfl, hb⟩
              have HR1 := hide ((unhide HR).after hb)
              have HB1 := hide (below_grow (unhide HB) (Nat.le_refl _) hb)
              have HR6 : Hid (w1.rangeAt w.heap.size 6 (R.map byteVal)) := hide (m6 (unhide HR1))
              have a0 := m0 (unhide HR1)
              have a4 := m4 (unhide HR1)
              have a5 := m5 (unhide HR1)
              have a38 := m38 (unhide HR1) (unhide HRT)
              have a39 := m39 (unhide HR1) (unhide HRT)
              have a40 := m40 (unhide HR1) (unhide HRT)
              dsimp only at a0 a4 a5 a38 a39 a40
              clear hb HR
              go_wp2_with ((have hrx := unhide HR6); (refine load_root (by rfl) (.tmp 13) (by rfl) w.heap.size (by rfl) R hrx (unhide HRT) ?_); (clear hrx HR6))
              go_ret
              exact ⟨ret_int (unhide HV), unhide HB1⟩
            | false =>
              have HV : Hid (ownErr ⟨4, F, T, S, false, P, R, C, RW, TX⟩ = V) := hide (by rw [← hV, checkM_own hh (by simp [foreign, hroot, hc, hw])])
              clear hV
              have HP : Hid (pathErr P = 0) := hide (by rw [hp]; exact pathErr_none)
              have R0 := VRow.new w 27 (mL ⟨4, F, T, S, false, P, R, C, RW, TX⟩ a c b d)
              have HB := hide (below_alloc' (w := w) (.cells (mL ⟨4, F, T, S, false, P, R, C, RW, TX⟩ a c b d).toArray 27))
              have HR := hide R0
              have HL := hide (mL_len (m := ⟨4, F, T, S, false, P, R, C, RW, TX⟩) hf.root a c b d)
              have K1 := hide fun W => refHead_any ⟨4, F, T, S, false, P, R, C, RW, TX⟩ a b c d W
              have HRT : Hid (R.length = 32) := hide hf.root
              have HS1 := hide s1
              have HS2 := hide s2
              have HF := hide hf
              rw [hh] at K1
              clear hr2 hroot hp hc hw ht R0 hf hh s1 s2
              go_enter Try.func21, Try.ntmps21
              go_wp2_with ((have hrx := unhide HR); (refine load_msg (by rfl) (.tmp 1) (by rfl) w.heap.size (by rfl) _ hrx (unhide HL) ?_))
              refine (unhide K1 _).mono ?_
              rintro e w1 ⟨rfl, hb⟩
              have HR1 := hide ((unhide HR).after hb)
              have HB1 := hide (below_grow (unhide HB) (Nat.le_refl _) hb)
              have HR6 : Hid (w1.rangeAt w.heap.size 6 (R.map byteVal)) := hide (m6 (unhide HR1))
              have a0 := m0 (unhide HR1)
              have a4 := m4 (unhide HR1)
              have a5 := m5 (unhide HR1)
              have a38 := m38 (unhide HR1) (unhide HRT)
              have a39 := m39 (unhide HR1) (unhide HRT)
              have a40 := m40 (unhide HR1) (unhide HRT)
              dsimp only at a0 a4 a5 a38 a39 a40
              clear hb HR
              go_wp2_with ((have hrx := unhide HR6); (refine load_root (by rfl) (.tmp 13) (by rfl) w.heap.size (by rfl) R hrx (unhide HRT) ?_); (clear hrx HR6))
              have KC := hide (refCheck_any a c C (unhide HF).ctx _ ((unhide HS1).after (unhide HB1)))
              obtain ⟨X, hX⟩ : ∃ X, Vc.check C = X := ⟨_, rfl⟩
              rw [hX] at KC
              refine (unhide KC).mono ?_
              rintro e w2 ⟨rfl, hb⟩
              have HR2 := hide ((unhide HR1).after hb)
              have HB2 := hide (below_grow (unhide HB1) (Nat.le_refl _) hb)
              clear hb a5 a38 a39 a40
              by_cases hx : X = 0
              · subst hx
                have a5 := m5 (unhide HR2)
                have a38 := m38 (unhide HR2) (unhide HRT)
                have a39 := m39 (unhide HR2) (unhide HRT)
                have a40 := m40 (unhide HR2) (unhide HRT)
                dsimp only at a5 a38 a39 a40
                by_cases h64 : 64 < RW.length
                · exact absurd h64 (by omega)
                · have HO : Hid (V = if rowsErr RW ≠ 0 then rowsErr RW else if 65536 < TX.size then 2 else 0) := hide (by rw [← unhide HV]; unfold ownErr; rw [if_neg (by simp [unhide HP]), if_neg (by simp [hX]), if_neg h64])
                  clear hX
                  go_wp2_with fail
                  go_loopw [3, 5] (fun e i wr => ∃ k : Nat, k ≤ RW.length ∧ (∃ x : Int, e = .int .i64 x) ∧ i = .int .i64 k ∧ Hid (rowsErr (RW.drop k) = rowsErr RW) ∧ Hid (VRow wr w.heap.size 27 (mL ⟨4, F, T, S, false, P, R, C, RW, TX⟩ a c b d) ∧ Below w.heap.size w wr)) (fun _ i _ => RW.length - (intOf i).toNat)
                  case atStart => exact ⟨0, Nat.zero_le _, ⟨0, rfl⟩, rfl, hide rfl, hide ⟨unhide HR2, unhide HB2⟩⟩
                  case round =>
                    obtain ⟨k, hk, ⟨x, rfl⟩, rfl, HE, HH2⟩ := hrel
                    have HRk := hide (unhide HH2).1
                    have HBk := hide (unhide HH2).2
                    clear a39 a38 a40 a5
                    have a39 := m39 (unhide HRk) (unhide HRT)
                    have a40 := m40 (unhide HRk) (unhide HRT)
                    dsimp only at a39 a40
                    by_cases hlt : k < RW.length
                    · exact absurd hlt (by omega)
                    · obtain rfl : k = RW.length := by omega
                      have hE := unhide HE
                      rw [List.drop_length] at hE
                      have HO2 : Hid (V = if 65536 < TX.size then 2 else 0) := hide (by rw [unhide HO, ← hE]; rfl)
                      clear hE
                      by_cases htx : 65536 < TX.size
                      · have HV : Hid (2 = V) := hide (by rw [unhide HO2, if_pos htx])
                        go_wp2_with fail
                        go_ret
                        exact ⟨ret_int (unhide HV), unhide HBk⟩
                      · have HV : Hid (0 = V) := hide (by rw [unhide HO2, if_neg htx])
                        go_wp2_with fail
                        go_ret
                        exact ⟨ret_int (unhide HV), unhide HBk⟩
              · have hne : (X != 0) = true := bne_iff_ne.2 hx
                have HV : Hid (X = V) := hide (by rw [← unhide HV]; unfold ownErr; rw [if_neg (by simp [unhide HP]), if_pos (by rw [hX]; exact hx), hX])
                clear hX hx
                go_wp2_with fail
                go_ret
                exact ⟨ret_int (unhide HV), unhide HB2⟩
          · have ht2 := str_not ht
            cases TU with
            | true =>
              have HV : Hid (7 = V) := hide (by rw [← hV, checkM_foreign hh (by simp [foreign, hroot, hc, hw])])
              clear hV
              have R0 := VRow.new w 27 (mL ⟨4, F, T, S, true, P, R, C, RW, TX⟩ a c b d)
              have HB := hide (below_alloc' (w := w) (.cells (mL ⟨4, F, T, S, true, P, R, C, RW, TX⟩ a c b d).toArray 27))
              have HR := hide R0
              have HL := hide (mL_len (m := ⟨4, F, T, S, true, P, R, C, RW, TX⟩) hf.root a c b d)
              have K1 := hide fun W => refHead_any ⟨4, F, T, S, true, P, R, C, RW, TX⟩ a b c d W
              have HRT : Hid (R.length = 32) := hide hf.root
              have HS1 := hide s1
              have HS2 := hide s2
              have HF := hide hf
              rw [hh] at K1
              clear hr2 hroot hp hc hw ht R0 hf hh s1 s2
              go_enter Try.func21, Try.ntmps21
              go_wp2_with ((have hrx := unhide HR); (refine load_msg (by rfl) (.tmp 1) (by rfl) w.heap.size (by rfl) _ hrx (unhide HL) ?_))
              refine (unhide K1 _).mono ?_
              rintro e w1 ⟨rfl, hb⟩
              have HR1 := hide ((unhide HR).after hb)
              have HB1 := hide (below_grow (unhide HB) (Nat.le_refl _) hb)
              have HR6 : Hid (w1.rangeAt w.heap.size 6 (R.map byteVal)) := hide (m6 (unhide HR1))
              have a0 := m0 (unhide HR1)
              have a4 := m4 (unhide HR1)
              have a5 := m5 (unhide HR1)
              have a38 := m38 (unhide HR1) (unhide HRT)
              have a39 := m39 (unhide HR1) (unhide HRT)
              have a40 := m40 (unhide HR1) (unhide HRT)
              dsimp only at a0 a4 a5 a38 a39 a40
              clear hb HR
              go_wp2_with ((have hrx := unhide HR6); (refine load_root (by rfl) (.tmp 13) (by rfl) w.heap.size (by rfl) R hrx (unhide HRT) ?_); (clear hrx HR6))
              go_ret
              exact ⟨ret_int (unhide HV), unhide HB1⟩
            | false =>
              have HV : Hid (ownErr ⟨4, F, T, S, false, P, R, C, RW, TX⟩ = V) := hide (by rw [← hV, checkM_own hh (by simp [foreign, hroot, hc, hw])])
              clear hV
              have HP : Hid (pathErr P = 0) := hide (by rw [hp]; exact pathErr_none)
              have R0 := VRow.new w 27 (mL ⟨4, F, T, S, false, P, R, C, RW, TX⟩ a c b d)
              have HB := hide (below_alloc' (w := w) (.cells (mL ⟨4, F, T, S, false, P, R, C, RW, TX⟩ a c b d).toArray 27))
              have HR := hide R0
              have HL := hide (mL_len (m := ⟨4, F, T, S, false, P, R, C, RW, TX⟩) hf.root a c b d)
              have K1 := hide fun W => refHead_any ⟨4, F, T, S, false, P, R, C, RW, TX⟩ a b c d W
              have HRT : Hid (R.length = 32) := hide hf.root
              have HS1 := hide s1
              have HS2 := hide s2
              have HF := hide hf
              rw [hh] at K1
              clear hr2 hroot hp hc hw ht R0 hf hh s1 s2
              go_enter Try.func21, Try.ntmps21
              go_wp2_with ((have hrx := unhide HR); (refine load_msg (by rfl) (.tmp 1) (by rfl) w.heap.size (by rfl) _ hrx (unhide HL) ?_))
              refine (unhide K1 _).mono ?_
              rintro e w1 ⟨rfl, hb⟩
              have HR1 := hide ((unhide HR).after hb)
              have HB1 := hide (below_grow (unhide HB) (Nat.le_refl _) hb)
              have HR6 : Hid (w1.rangeAt w.heap.size 6 (R.map byteVal)) := hide (m6 (unhide HR1))
              have a0 := m0 (unhide HR1)
              have a4 := m4 (unhide HR1)
              have a5 := m5 (unhide HR1)
              have a38 := m38 (unhide HR1) (unhide HRT)
              have a39 := m39 (unhide HR1) (unhide HRT)
              have a40 := m40 (unhide HR1) (unhide HRT)
              dsimp only at a0 a4 a5 a38 a39 a40
              clear hb HR
              go_wp2_with ((have hrx := unhide HR6); (refine load_root (by rfl) (.tmp 13) (by rfl) w.heap.size (by rfl) R hrx (unhide HRT) ?_); (clear hrx HR6))
              have KC := hide (refCheck_any a c C (unhide HF).ctx _ ((unhide HS1).after (unhide HB1)))
              obtain ⟨X, hX⟩ : ∃ X, Vc.check C = X := ⟨_, rfl⟩
              rw [hX] at KC
              refine (unhide KC).mono ?_
              rintro e w2 ⟨rfl, hb⟩
              have HR2 := hide ((unhide HR1).after hb)
              have HB2 := hide (below_grow (unhide HB1) (Nat.le_refl _) hb)
              clear hb a5 a38 a39 a40
              by_cases hx : X = 0
              · subst hx
                have a5 := m5 (unhide HR2)
                have a38 := m38 (unhide HR2) (unhide HRT)
                have a39 := m39 (unhide HR2) (unhide HRT)
                have a40 := m40 (unhide HR2) (unhide HRT)
                dsimp only at a5 a38 a39 a40
                by_cases h64 : 64 < RW.length
                · exact absurd h64 (by omega)
                · have HO : Hid (V = if rowsErr RW ≠ 0 then rowsErr RW else if 65536 < TX.size then 2 else 0) := hide (by rw [← unhide HV]; unfold ownErr; rw [if_neg (by simp [unhide HP]), if_neg (by simp [hX]), if_neg h64])
                  clear hX
                  go_wp2_with fail
                  go_loopw [3, 5] (fun e i wr => ∃ k : Nat, k ≤ RW.length ∧ (∃ x : Int, e = .int .i64 x) ∧ i = .int .i64 k ∧ Hid (rowsErr (RW.drop k) = rowsErr RW) ∧ Hid (VRow wr w.heap.size 27 (mL ⟨4, F, T, S, false, P, R, C, RW, TX⟩ a c b d) ∧ Below w.heap.size w wr)) (fun _ i _ => RW.length - (intOf i).toNat)
                  case atStart => exact ⟨0, Nat.zero_le _, ⟨0, rfl⟩, rfl, hide rfl, hide ⟨unhide HR2, unhide HB2⟩⟩
                  case round =>
                    obtain ⟨k, hk, ⟨x, rfl⟩, rfl, HE, HH2⟩ := hrel
                    have HRk := hide (unhide HH2).1
                    have HBk := hide (unhide HH2).2
                    clear a39 a38 a40 a5
                    have a39 := m39 (unhide HRk) (unhide HRT)
                    have a40 := m40 (unhide HRk) (unhide HRT)
                    dsimp only at a39 a40
                    by_cases hlt : k < RW.length
                    · exact absurd hlt (by omega)
                    · obtain rfl : k = RW.length := by omega
                      have hE := unhide HE
                      rw [List.drop_length] at hE
                      have HO2 : Hid (V = if 65536 < TX.size then 2 else 0) := hide (by rw [unhide HO, ← hE]; rfl)
                      clear hE
                      by_cases htx : 65536 < TX.size
                      · have HV : Hid (2 = V) := hide (by rw [unhide HO2, if_pos htx])
                        go_wp2_with fail
                        go_ret
                        exact ⟨ret_int (unhide HV), unhide HBk⟩
                      · have HV : Hid (0 = V) := hide (by rw [unhide HO2, if_neg htx])
                        go_wp2_with fail
                        go_ret
                        exact ⟨ret_int (unhide HV), unhide HBk⟩
              · have hne : (X != 0) = true := bne_iff_ne.2 hx
                have HV : Hid (X = V) := hide (by rw [← unhide HV]; unfold ownErr; rw [if_neg (by simp [unhide HP]), if_pos (by rw [hX]; exact hx), hX])
                clear hX hx
                go_wp2_with fail
                go_ret
                exact ⟨ret_int (unhide HV), unhide HB2⟩
    · have hp2 := str_not hp
      have hp3 : P.toList.isEmpty = false := by simpa using hp2
      by_cases hc : 0 < C.length
      · have HV : Hid (7 = V) := hide (by rw [← hV, checkM_foreign hh (by simp [foreign, hroot, hc])])
        clear hV
        have R0 := VRow.new w 27 (mL ⟨4, F, T, S, TU, P, R, C, RW, TX⟩ a c b d)
        have HB := hide (below_alloc' (w := w) (.cells (mL ⟨4, F, T, S, TU, P, R, C, RW, TX⟩ a c b d).toArray 27))
        have HR := hide R0
        have HL := hide (mL_len (m := ⟨4, F, T, S, TU, P, R, C, RW, TX⟩) hf.root a c b d)
        have K1 := hide fun W => refHead_any ⟨4, F, T, S, TU, P, R, C, RW, TX⟩ a b c d W
        have HRT : Hid (R.length = 32) := hide hf.root
        have HS1 := hide s1
        have HS2 := hide s2
        have HF := hide hf
        rw [hh] at K1
        clear hr2 hroot hp R0 hf hh s1 s2
        go_enter Try.func21, Try.ntmps21
        go_wp2_with ((have hrx := unhide HR); (refine load_msg (by rfl) (.tmp 1) (by rfl) w.heap.size (by rfl) _ hrx (unhide HL) ?_))
        refine (unhide K1 _).mono ?_
        rintro e w1 ⟨rfl, hb⟩
        have HR1 := hide ((unhide HR).after hb)
        have HB1 := hide (below_grow (unhide HB) (Nat.le_refl _) hb)
        have HR6 : Hid (w1.rangeAt w.heap.size 6 (R.map byteVal)) := hide (m6 (unhide HR1))
        have a0 := m0 (unhide HR1)
        have a4 := m4 (unhide HR1)
        have a5 := m5 (unhide HR1)
        have a38 := m38 (unhide HR1) (unhide HRT)
        have a39 := m39 (unhide HR1) (unhide HRT)
        have a40 := m40 (unhide HR1) (unhide HRT)
        dsimp only at a0 a4 a5 a38 a39 a40
        clear hb HR
        go_wp2_with ((have hrx := unhide HR6); (refine load_root (by rfl) (.tmp 13) (by rfl) w.heap.size (by rfl) R hrx (unhide HRT) ?_); (clear hrx HR6))
        go_ret
        exact ⟨ret_int (unhide HV), unhide HB1⟩
      · have hc0 : C.length ≤ 0 := by omega
        by_cases hw : 0 < RW.length
        · have HV : Hid (7 = V) := hide (by rw [← hV, checkM_foreign hh (by simp [foreign, hroot, hc, hw])])
          clear hV
          have R0 := VRow.new w 27 (mL ⟨4, F, T, S, TU, P, R, C, RW, TX⟩ a c b d)
          have HB := hide (below_alloc' (w := w) (.cells (mL ⟨4, F, T, S, TU, P, R, C, RW, TX⟩ a c b d).toArray 27))
          have HR := hide R0
          have HL := hide (mL_len (m := ⟨4, F, T, S, TU, P, R, C, RW, TX⟩) hf.root a c b d)
          have K1 := hide fun W => refHead_any ⟨4, F, T, S, TU, P, R, C, RW, TX⟩ a b c d W
          have HRT : Hid (R.length = 32) := hide hf.root
          have HS1 := hide s1
          have HS2 := hide s2
          have HF := hide hf
          rw [hh] at K1
          clear hr2 hroot hp hc R0 hf hh s1 s2
          go_enter Try.func21, Try.ntmps21
          go_wp2_with ((have hrx := unhide HR); (refine load_msg (by rfl) (.tmp 1) (by rfl) w.heap.size (by rfl) _ hrx (unhide HL) ?_))
          refine (unhide K1 _).mono ?_
          rintro e w1 ⟨rfl, hb⟩
          have HR1 := hide ((unhide HR).after hb)
          have HB1 := hide (below_grow (unhide HB) (Nat.le_refl _) hb)
          have HR6 : Hid (w1.rangeAt w.heap.size 6 (R.map byteVal)) := hide (m6 (unhide HR1))
          have a0 := m0 (unhide HR1)
          have a4 := m4 (unhide HR1)
          have a5 := m5 (unhide HR1)
          have a38 := m38 (unhide HR1) (unhide HRT)
          have a39 := m39 (unhide HR1) (unhide HRT)
          have a40 := m40 (unhide HR1) (unhide HRT)
          dsimp only at a0 a4 a5 a38 a39 a40
          clear hb HR
          go_wp2_with ((have hrx := unhide HR6); (refine load_root (by rfl) (.tmp 13) (by rfl) w.heap.size (by rfl) R hrx (unhide HRT) ?_); (clear hrx HR6))
          go_ret
          exact ⟨ret_int (unhide HV), unhide HB1⟩
        · have hw0 : RW.length ≤ 0 := by omega
          by_cases ht : TX = ⟨#[]⟩
          · have ht2 := str_is ht
            cases TU with
            | true =>
              have HV : Hid (7 = V) := hide (by rw [← hV, checkM_foreign hh (by simp [foreign, hroot, hc, hw])])
              clear hV
              have R0 := VRow.new w 27 (mL ⟨4, F, T, S, true, P, R, C, RW, TX⟩ a c b d)
              have HB := hide (below_alloc' (w := w) (.cells (mL ⟨4, F, T, S, true, P, R, C, RW, TX⟩ a c b d).toArray 27))
              have HR := hide R0
              have HL := hide (mL_len (m := ⟨4, F, T, S, true, P, R, C, RW, TX⟩) hf.root a c b d)
              have K1 := hide fun W => refHead_any ⟨4, F, T, S, true, P, R, C, RW, TX⟩ a b c d W
              have HRT : Hid (R.length = 32) := hide hf.root
              have HS1 := hide s1
              have HS2 := hide s2
              have HF := hide hf
              rw [hh] at K1
              clear hr2 hroot hp hc hw ht R0 hf hh s1 s2
              go_enter Try.func21, Try.ntmps21
              go_wp2_with ((have hrx := unhide HR); (refine load_msg (by rfl) (.tmp 1) (by rfl) w.heap.size (by rfl) _ hrx (unhide HL) ?_))
              refine (unhide K1 _).mono ?_
              rintro e w1 ⟨rfl, hb⟩
              have HR1 := hide ((unhide HR).after hb)
              have HB1 := hide (below_grow (unhide HB) (Nat.le_refl _) hb)
              have HR6 : Hid (w1.rangeAt w.heap.size 6 (R.map byteVal)) := hide (m6 (unhide HR1))
              have a0 := m0 (unhide HR1)
              have a4 := m4 (unhide HR1)
              have a5 := m5 (unhide HR1)
              have a38 := m38 (unhide HR1) (unhide HRT)
              have a39 := m39 (unhide HR1) (unhide HRT)
              have a40 := m40 (unhide HR1) (unhide HRT)
              dsimp only at a0 a4 a5 a38 a39 a40
              clear hb HR
              go_wp2_with ((have hrx := unhide HR6); (refine load_root (by rfl) (.tmp 13) (by rfl) w.heap.size (by rfl) R hrx (unhide HRT) ?_); (clear hrx HR6))
              go_ret
              exact ⟨ret_int (unhide HV), unhide HB1⟩
            | false =>
              have HV : Hid (ownErr ⟨4, F, T, S, false, P, R, C, RW, TX⟩ = V) := hide (by rw [← hV, checkM_own hh (by simp [foreign, hroot, hc, hw])])
              clear hV
              have HPE := hide (pathErr_some hp)
              have KP := hide fun W => Pth.refCheck_any P hf.path W
              obtain ⟨Z, hZ⟩ : ∃ Z, Pth.Pt.check P.data.toList = Z := ⟨_, rfl⟩
              rw [hZ] at KP HPE
              clear hZ
              by_cases hz : Z = 0
              · subst hz
                have HP := HPE
                have R0 := VRow.new w 27 (mL ⟨4, F, T, S, false, P, R, C, RW, TX⟩ a c b d)
                have HB := hide (below_alloc' (w := w) (.cells (mL ⟨4, F, T, S, false, P, R, C, RW, TX⟩ a c b d).toArray 27))
                have HR := hide R0
                have HL := hide (mL_len (m := ⟨4, F, T, S, false, P, R, C, RW, TX⟩) hf.root a c b d)
                have K1 := hide fun W => refHead_any ⟨4, F, T, S, false, P, R, C, RW, TX⟩ a b c d W
                have HRT : Hid (R.length = 32) := hide hf.root
                have HS1 := hide s1
                have HS2 := hide s2
                have HF := hide hf
                rw [hh] at K1
                clear hr2 hroot hp hc hw ht R0 hf hh s1 s2
                go_enter Try.func21, Try.ntmps21
                go_wp2_with ((have hrx := unhide HR); (refine load_msg (by rfl) (.tmp 1) (by rfl) w.heap.size (by rfl) _ hrx (unhide HL) ?_))
                refine (unhide K1 _).mono ?_
                rintro e w1 ⟨rfl, hb⟩
                have HR1 := hide ((unhide HR).after hb)
                have HB1 := hide (below_grow (unhide HB) (Nat.le_refl _) hb)
                have HR6 : Hid (w1.rangeAt w.heap.size 6 (R.map byteVal)) := hide (m6 (unhide HR1))
                have a0 := m0 (unhide HR1)
                have a4 := m4 (unhide HR1)
                have a5 := m5 (unhide HR1)
                have a38 := m38 (unhide HR1) (unhide HRT)
                have a39 := m39 (unhide HR1) (unhide HRT)
                have a40 := m40 (unhide HR1) (unhide HRT)
                dsimp only at a0 a4 a5 a38 a39 a40
                clear hb HR
                go_wp2_with ((have hrx := unhide HR6); (refine load_root (by rfl) (.tmp 13) (by rfl) w.heap.size (by rfl) R hrx (unhide HRT) ?_); (clear hrx HR6))
                refine (unhide KP _).mono ?_
                rintro e w2 ⟨rfl, hb⟩
                have HR2 := hide ((unhide HR1).after hb)
                have HB2 := hide (below_grow (unhide HB1) (Nat.le_refl _) hb)
                clear hb a0 a4 a5 a38 a39 a40
                have a5 := m5 (unhide HR2)
                have a38 := m38 (unhide HR2) (unhide HRT)
                have a39 := m39 (unhide HR2) (unhide HRT)
                have a40 := m40 (unhide HR2) (unhide HRT)
                dsimp only at a5 a38 a39 a40
                go_wp2_with fail
                have KC := hide (refCheck_any a c C (unhide HF).ctx _ ((unhide HS1).after (unhide HB2)))
                obtain ⟨X, hX⟩ : ∃ X, Vc.check C = X := ⟨_, rfl⟩
                rw [hX] at KC
                refine (unhide KC).mono ?_
                rintro e w3 ⟨rfl, hb⟩
                have HR3 := hide ((unhide HR2).after hb)
                have HB3 := hide (below_grow (unhide HB2) (Nat.le_refl _) hb)
                clear hb a5 a38 a39 a40
                by_cases hx : X = 0
                · subst hx
                  have a5 := m5 (unhide HR3)
                  have a38 := m38 (unhide HR3) (unhide HRT)
                  have a39 := m39 (unhide HR3) (unhide HRT)
                  have a40 := m40 (unhide HR3) (unhide HRT)
                  dsimp only at a5 a38 a39 a40
                  by_cases h64 : 64 < RW.length
                  · exact absurd h64 (by omega)
                  · have HO : Hid (V = if rowsErr RW ≠ 0 then rowsErr RW else if 65536 < TX.size then 2 else 0) := hide (by rw [← unhide HV]; unfold ownErr; rw [if_neg (by simp [unhide HP]), if_neg (by simp [hX]), if_neg h64])
                    clear hX
                    go_wp2_with fail
                    go_loopw [3, 5] (fun e i wr => ∃ k : Nat, k ≤ RW.length ∧ (∃ x : Int, e = .int .i64 x) ∧ i = .int .i64 k ∧ Hid (rowsErr (RW.drop k) = rowsErr RW) ∧ Hid (VRow wr w.heap.size 27 (mL ⟨4, F, T, S, false, P, R, C, RW, TX⟩ a c b d) ∧ Below w.heap.size w wr)) (fun _ i _ => RW.length - (intOf i).toNat)
                    case atStart => exact ⟨0, Nat.zero_le _, ⟨0, rfl⟩, rfl, hide rfl, hide ⟨unhide HR3, unhide HB3⟩⟩
                    case round =>
                      obtain ⟨k, hk, ⟨x, rfl⟩, rfl, HE, HH2⟩ := hrel
                      have HRk := hide (unhide HH2).1
                      have HBk := hide (unhide HH2).2
                      clear a39 a38 a40 a5
                      have a39 := m39 (unhide HRk) (unhide HRT)
                      have a40 := m40 (unhide HRk) (unhide HRT)
                      dsimp only at a39 a40
                      by_cases hlt : k < RW.length
                      · exact absurd hlt (by omega)
                      · obtain rfl : k = RW.length := by omega
                        have hE := unhide HE
                        rw [List.drop_length] at hE
                        have HO2 : Hid (V = if 65536 < TX.size then 2 else 0) := hide (by rw [unhide HO, ← hE]; rfl)
                        clear hE
                        by_cases htx : 65536 < TX.size
                        · have HV : Hid (2 = V) := hide (by rw [unhide HO2, if_pos htx])
                          go_wp2_with fail
                          go_ret
                          exact ⟨ret_int (unhide HV), unhide HBk⟩
                        · have HV : Hid (0 = V) := hide (by rw [unhide HO2, if_neg htx])
                          go_wp2_with fail
                          go_ret
                          exact ⟨ret_int (unhide HV), unhide HBk⟩
                · have hne : (X != 0) = true := bne_iff_ne.2 hx
                  have HV : Hid (X = V) := hide (by rw [← unhide HV]; unfold ownErr; rw [if_neg (by simp [unhide HP]), if_pos (by rw [hX]; exact hx), hX])
                  clear hX hx
                  go_wp2_with fail
                  go_ret
                  exact ⟨ret_int (unhide HV), unhide HB3⟩
              · have hne : (Z != 0) = true := bne_iff_ne.2 hz
                have HV : Hid (Z = V) := hide (by rw [← unhide HV]; unfold ownErr; rw [if_pos (by rw [unhide HPE]; exact hz), unhide HPE])
                have R0 := VRow.new w 27 (mL ⟨4, F, T, S, false, P, R, C, RW, TX⟩ a c b d)
                have HB := hide (below_alloc' (w := w) (.cells (mL ⟨4, F, T, S, false, P, R, C, RW, TX⟩ a c b d).toArray 27))
                have HR := hide R0
                have HL := hide (mL_len (m := ⟨4, F, T, S, false, P, R, C, RW, TX⟩) hf.root a c b d)
                have K1 := hide fun W => refHead_any ⟨4, F, T, S, false, P, R, C, RW, TX⟩ a b c d W
                have HRT : Hid (R.length = 32) := hide hf.root
                have HS1 := hide s1
                have HS2 := hide s2
                have HF := hide hf
                rw [hh] at K1
                clear hr2 hroot hp hc hw ht R0 hf hh s1 s2
                go_enter Try.func21, Try.ntmps21
                go_wp2_with ((have hrx := unhide HR); (refine load_msg (by rfl) (.tmp 1) (by rfl) w.heap.size (by rfl) _ hrx (unhide HL) ?_))
                refine (unhide K1 _).mono ?_
                rintro e w1 ⟨rfl, hb⟩
                have HR1 := hide ((unhide HR).after hb)
                have HB1 := hide (below_grow (unhide HB) (Nat.le_refl _) hb)
                have HR6 : Hid (w1.rangeAt w.heap.size 6 (R.map byteVal)) := hide (m6 (unhide HR1))
                have a0 := m0 (unhide HR1)
                have a4 := m4 (unhide HR1)
                have a5 := m5 (unhide HR1)
                have a38 := m38 (unhide HR1) (unhide HRT)
                have a39 := m39 (unhide HR1) (unhide HRT)
                have a40 := m40 (unhide HR1) (unhide HRT)
                dsimp only at a0 a4 a5 a38 a39 a40
                clear hb HR
                go_wp2_with ((have hrx := unhide HR6); (refine load_root (by rfl) (.tmp 13) (by rfl) w.heap.size (by rfl) R hrx (unhide HRT) ?_); (clear hrx HR6))
                refine (unhide KP _).mono ?_
                rintro e w2 ⟨rfl, hb⟩
                have HR2 := hide ((unhide HR1).after hb)
                have HB2 := hide (below_grow (unhide HB1) (Nat.le_refl _) hb)
                clear hb a0 a4 a5 a38 a39 a40
                have a5 := m5 (unhide HR2)
                have a38 := m38 (unhide HR2) (unhide HRT)
                have a39 := m39 (unhide HR2) (unhide HRT)
                have a40 := m40 (unhide HR2) (unhide HRT)
                dsimp only at a5 a38 a39 a40
                go_wp2_with fail
                refine (unhide KP _).mono ?_
                rintro e w3 ⟨rfl, hb⟩
                have HB3 := hide (below_grow (unhide HB2) (Nat.le_refl _) hb)
                clear hb a5 a38 a39 a40
                go_wp2_with fail
                go_ret
                exact ⟨ret_int (unhide HV), unhide HB3⟩
          · have ht2 := str_not ht
            cases TU with
            | true =>
              have HV : Hid (7 = V) := hide (by rw [← hV, checkM_foreign hh (by simp [foreign, hroot, hc, hw])])
              clear hV
              have R0 := VRow.new w 27 (mL ⟨4, F, T, S, true, P, R, C, RW, TX⟩ a c b d)
              have HB := hide (below_alloc' (w := w) (.cells (mL ⟨4, F, T, S, true, P, R, C, RW, TX⟩ a c b d).toArray 27))
              have HR := hide R0
              have HL := hide (mL_len (m := ⟨4, F, T, S, true, P, R, C, RW, TX⟩) hf.root a c b d)
              have K1 := hide fun W => refHead_any ⟨4, F, T, S, true, P, R, C, RW, TX⟩ a b c d W
              have HRT : Hid (R.length = 32) := hide hf.root
              have HS1 := hide s1
              have HS2 := hide s2
              have HF := hide hf
              rw [hh] at K1
              clear hr2 hroot hp hc hw ht R0 hf hh s1 s2
              go_enter Try.func21, Try.ntmps21
              go_wp2_with ((have hrx := unhide HR); (refine load_msg (by rfl) (.tmp 1) (by rfl) w.heap.size (by rfl) _ hrx (unhide HL) ?_))
              refine (unhide K1 _).mono ?_
              rintro e w1 ⟨rfl, hb⟩
              have HR1 := hide ((unhide HR).after hb)
              have HB1 := hide (below_grow (unhide HB) (Nat.le_refl _) hb)
              have HR6 : Hid (w1.rangeAt w.heap.size 6 (R.map byteVal)) := hide (m6 (unhide HR1))
              have a0 := m0 (unhide HR1)
              have a4 := m4 (unhide HR1)
              have a5 := m5 (unhide HR1)
              have a38 := m38 (unhide HR1) (unhide HRT)
              have a39 := m39 (unhide HR1) (unhide HRT)
              have a40 := m40 (unhide HR1) (unhide HRT)
              dsimp only at a0 a4 a5 a38 a39 a40
              clear hb HR
              go_wp2_with ((have hrx := unhide HR6); (refine load_root (by rfl) (.tmp 13) (by rfl) w.heap.size (by rfl) R hrx (unhide HRT) ?_); (clear hrx HR6))
              go_ret
              exact ⟨ret_int (unhide HV), unhide HB1⟩
            | false =>
              have HV : Hid (ownErr ⟨4, F, T, S, false, P, R, C, RW, TX⟩ = V) := hide (by rw [← hV, checkM_own hh (by simp [foreign, hroot, hc, hw])])
              clear hV
              have HPE := hide (pathErr_some hp)
              have KP := hide fun W => Pth.refCheck_any P hf.path W
              obtain ⟨Z, hZ⟩ : ∃ Z, Pth.Pt.check P.data.toList = Z := ⟨_, rfl⟩
              rw [hZ] at KP HPE
              clear hZ
              by_cases hz : Z = 0
              · subst hz
                have HP := HPE
                have R0 := VRow.new w 27 (mL ⟨4, F, T, S, false, P, R, C, RW, TX⟩ a c b d)
                have HB := hide (below_alloc' (w := w) (.cells (mL ⟨4, F, T, S, false, P, R, C, RW, TX⟩ a c b d).toArray 27))
                have HR := hide R0
                have HL := hide (mL_len (m := ⟨4, F, T, S, false, P, R, C, RW, TX⟩) hf.root a c b d)
                have K1 := hide fun W => refHead_any ⟨4, F, T, S, false, P, R, C, RW, TX⟩ a b c d W
                have HRT : Hid (R.length = 32) := hide hf.root
                have HS1 := hide s1
                have HS2 := hide s2
                have HF := hide hf
                rw [hh] at K1
                clear hr2 hroot hp hc hw ht R0 hf hh s1 s2
                go_enter Try.func21, Try.ntmps21
                go_wp2_with ((have hrx := unhide HR); (refine load_msg (by rfl) (.tmp 1) (by rfl) w.heap.size (by rfl) _ hrx (unhide HL) ?_))
                refine (unhide K1 _).mono ?_
                rintro e w1 ⟨rfl, hb⟩
                have HR1 := hide ((unhide HR).after hb)
                have HB1 := hide (below_grow (unhide HB) (Nat.le_refl _) hb)
                have HR6 : Hid (w1.rangeAt w.heap.size 6 (R.map byteVal)) := hide (m6 (unhide HR1))
                have a0 := m0 (unhide HR1)
                have a4 := m4 (unhide HR1)
                have a5 := m5 (unhide HR1)
                have a38 := m38 (unhide HR1) (unhide HRT)
                have a39 := m39 (unhide HR1) (unhide HRT)
                have a40 := m40 (unhide HR1) (unhide HRT)
                dsimp only at a0 a4 a5 a38 a39 a40
                clear hb HR
                go_wp2_with ((have hrx := unhide HR6); (refine load_root (by rfl) (.tmp 13) (by rfl) w.heap.size (by rfl) R hrx (unhide HRT) ?_); (clear hrx HR6))
                refine (unhide KP _).mono ?_
                rintro e w2 ⟨rfl, hb⟩
                have HR2 := hide ((unhide HR1).after hb)
                have HB2 := hide (below_grow (unhide HB1) (Nat.le_refl _) hb)
                clear hb a0 a4 a5 a38 a39 a40
                have a5 := m5 (unhide HR2)
                have a38 := m38 (unhide HR2) (unhide HRT)
                have a39 := m39 (unhide HR2) (unhide HRT)
                have a40 := m40 (unhide HR2) (unhide HRT)
                dsimp only at a5 a38 a39 a40
                go_wp2_with fail
                have KC := hide (refCheck_any a c C (unhide HF).ctx _ ((unhide HS1).after (unhide HB2)))
                obtain ⟨X, hX⟩ : ∃ X, Vc.check C = X := ⟨_, rfl⟩
                rw [hX] at KC
                refine (unhide KC).mono ?_
                rintro e w3 ⟨rfl, hb⟩
                have HR3 := hide ((unhide HR2).after hb)
                have HB3 := hide (below_grow (unhide HB2) (Nat.le_refl _) hb)
                clear hb a5 a38 a39 a40
                by_cases hx : X = 0
                · subst hx
                  have a5 := m5 (unhide HR3)
                  have a38 := m38 (unhide HR3) (unhide HRT)
                  have a39 := m39 (unhide HR3) (unhide HRT)
                  have a40 := m40 (unhide HR3) (unhide HRT)
                  dsimp only at a5 a38 a39 a40
                  by_cases h64 : 64 < RW.length
                  · exact absurd h64 (by omega)
                  · have HO : Hid (V = if rowsErr RW ≠ 0 then rowsErr RW else if 65536 < TX.size then 2 else 0) := hide (by rw [← unhide HV]; unfold ownErr; rw [if_neg (by simp [unhide HP]), if_neg (by simp [hX]), if_neg h64])
                    clear hX
                    go_wp2_with fail
                    go_loopw [3, 5] (fun e i wr => ∃ k : Nat, k ≤ RW.length ∧ (∃ x : Int, e = .int .i64 x) ∧ i = .int .i64 k ∧ Hid (rowsErr (RW.drop k) = rowsErr RW) ∧ Hid (VRow wr w.heap.size 27 (mL ⟨4, F, T, S, false, P, R, C, RW, TX⟩ a c b d) ∧ Below w.heap.size w wr)) (fun _ i _ => RW.length - (intOf i).toNat)
                    case atStart => exact ⟨0, Nat.zero_le _, ⟨0, rfl⟩, rfl, hide rfl, hide ⟨unhide HR3, unhide HB3⟩⟩
                    case round =>
                      obtain ⟨k, hk, ⟨x, rfl⟩, rfl, HE, HH2⟩ := hrel
                      have HRk := hide (unhide HH2).1
                      have HBk := hide (unhide HH2).2
                      clear a39 a38 a40 a5
                      have a39 := m39 (unhide HRk) (unhide HRT)
                      have a40 := m40 (unhide HRk) (unhide HRT)
                      dsimp only at a39 a40
                      by_cases hlt : k < RW.length
                      · exact absurd hlt (by omega)
                      · obtain rfl : k = RW.length := by omega
                        have hE := unhide HE
                        rw [List.drop_length] at hE
                        have HO2 : Hid (V = if 65536 < TX.size then 2 else 0) := hide (by rw [unhide HO, ← hE]; rfl)
                        clear hE
                        by_cases htx : 65536 < TX.size
                        · have HV : Hid (2 = V) := hide (by rw [unhide HO2, if_pos htx])
                          go_wp2_with fail
                          go_ret
                          exact ⟨ret_int (unhide HV), unhide HBk⟩
                        · have HV : Hid (0 = V) := hide (by rw [unhide HO2, if_neg htx])
                          go_wp2_with fail
                          go_ret
                          exact ⟨ret_int (unhide HV), unhide HBk⟩
                · have hne : (X != 0) = true := bne_iff_ne.2 hx
                  have HV : Hid (X = V) := hide (by rw [← unhide HV]; unfold ownErr; rw [if_neg (by simp [unhide HP]), if_pos (by rw [hX]; exact hx), hX])
                  clear hX hx
                  go_wp2_with fail
                  go_ret
                  exact ⟨ret_int (unhide HV), unhide HB3⟩
              · have hne : (Z != 0) = true := bne_iff_ne.2 hz
                have HV : Hid (Z = V) := hide (by rw [← unhide HV]; unfold ownErr; rw [if_pos (by rw [unhide HPE]; exact hz), unhide HPE])
                have R0 := VRow.new w 27 (mL ⟨4, F, T, S, false, P, R, C, RW, TX⟩ a c b d)
                have HB := hide (below_alloc' (w := w) (.cells (mL ⟨4, F, T, S, false, P, R, C, RW, TX⟩ a c b d).toArray 27))
                have HR := hide R0
                have HL := hide (mL_len (m := ⟨4, F, T, S, false, P, R, C, RW, TX⟩) hf.root a c b d)
                have K1 := hide fun W => refHead_any ⟨4, F, T, S, false, P, R, C, RW, TX⟩ a b c d W
                have HRT : Hid (R.length = 32) := hide hf.root
                have HS1 := hide s1
                have HS2 := hide s2
                have HF := hide hf
                rw [hh] at K1
                clear hr2 hroot hp hc hw ht R0 hf hh s1 s2
                go_enter Try.func21, Try.ntmps21
                go_wp2_with ((have hrx := unhide HR); (refine load_msg (by rfl) (.tmp 1) (by rfl) w.heap.size (by rfl) _ hrx (unhide HL) ?_))
                refine (unhide K1 _).mono ?_
                rintro e w1 ⟨rfl, hb⟩
                have HR1 := hide ((unhide HR).after hb)
                have HB1 := hide (below_grow (unhide HB) (Nat.le_refl _) hb)
                have HR6 : Hid (w1.rangeAt w.heap.size 6 (R.map byteVal)) := hide (m6 (unhide HR1))
                have a0 := m0 (unhide HR1)
                have a4 := m4 (unhide HR1)
                have a5 := m5 (unhide HR1)
                have a38 := m38 (unhide HR1) (unhide HRT)
                have a39 := m39 (unhide HR1) (unhide HRT)
                have a40 := m40 (unhide HR1) (unhide HRT)
                dsimp only at a0 a4 a5 a38 a39 a40
                clear hb HR
                go_wp2_with ((have hrx := unhide HR6); (refine load_root (by rfl) (.tmp 13) (by rfl) w.heap.size (by rfl) R hrx (unhide HRT) ?_); (clear hrx HR6))
                refine (unhide KP _).mono ?_
                rintro e w2 ⟨rfl, hb⟩
                have HR2 := hide ((unhide HR1).after hb)
                have HB2 := hide (below_grow (unhide HB1) (Nat.le_refl _) hb)
                clear hb a0 a4 a5 a38 a39 a40
                have a5 := m5 (unhide HR2)
                have a38 := m38 (unhide HR2) (unhide HRT)
                have a39 := m39 (unhide HR2) (unhide HRT)
                have a40 := m40 (unhide HR2) (unhide HRT)
                dsimp only at a5 a38 a39 a40
                go_wp2_with fail
                refine (unhide KP _).mono ?_
                rintro e w3 ⟨rfl, hb⟩
                have HB3 := hide (below_grow (unhide HB2) (Nat.le_refl _) hb)
                clear hb a5 a38 a39 a40
                go_wp2_with fail
                go_ret
                exact ⟨ret_int (unhide HV), unhide HB3⟩
  · have hr2 : (R == zero32) = false := by simpa using hroot
    rw [hr2] at hsm
    have HV : Hid (7 = V) := hide (by rw [← hV, checkM_foreign hh (by simp [foreign, hroot])])
    clear hV
    have R0 := VRow.new w 27 (mL ⟨4, F, T, S, TU, P, R, C, RW, TX⟩ a c b d)
    have HB := hide (below_alloc' (w := w) (.cells (mL ⟨4, F, T, S, TU, P, R, C, RW, TX⟩ a c b d).toArray 27))
    have HR := hide R0
    have HL := hide (mL_len (m := ⟨4, F, T, S, TU, P, R, C, RW, TX⟩) hf.root a c b d)
    have K1 := hide fun W => refHead_any ⟨4, F, T, S, TU, P, R, C, RW, TX⟩ a b c d W
    have HRT : Hid (R.length = 32) := hide hf.root
    have HS1 := hide s1
    have HS2 := hide s2
    have HF := hide hf
    rw [hh] at K1
    clear hr2 hroot R0 hf hh s1 s2
    go_enter Try.func21, Try.ntmps21
    go_wp2_with ((have hrx := unhide HR); (refine load_msg (by rfl) (.tmp 1) (by rfl) w.heap.size (by rfl) _ hrx (unhide HL) ?_))
    refine (unhide K1 _).mono ?_
    rintro e w1 ⟨rfl, hb⟩
    have HR1 := hide ((unhide HR).after hb)
    have HB1 := hide (below_grow (unhide HB) (Nat.le_refl _) hb)
    have HR6 : Hid (w1.rangeAt w.heap.size 6 (R.map byteVal)) := hide (m6 (unhide HR1))
    have a0 := m0 (unhide HR1)
    have a4 := m4 (unhide HR1)
    have a5 := m5 (unhide HR1)
    have a38 := m38 (unhide HR1) (unhide HRT)
    have a39 := m39 (unhide HR1) (unhide HRT)
    have a40 := m40 (unhide HR1) (unhide HRT)
    dsimp only at a0 a4 a5 a38 a39 a40
    clear hb HR
    go_wp2_with ((have hrx := unhide HR6); (refine load_root (by rfl) (.tmp 13) (by rfl) w.heap.size (by rfl) R hrx (unhide HRT) ?_); (clear hrx HR6))
    go_ret
    exact ⟨ret_int (unhide HV), unhide HB1⟩

set_option maxRecDepth 100000 in
set_option maxHeartbeats 4000000 in
theorem refCheck_k6 (F T S : Int) (TU : Bool) (P : ByteArray) (R : List UInt8) (C : List Vc.D) (RW : List (List Vc.D)) (TX : ByteArray) (a b : Option Addr) (c d : Nat) (w : World)
    (hf : FewM ⟨6, F, T, S, TU, P, R, C, RW, TX⟩) (hh : headM ⟨6, F, T, S, TU, P, R, C, RW, TX⟩ = 0) (s1 : Sl w a C) (s2 : RL w b RW) :
    Calls Try.prog 21 #[.agg (mL ⟨6, F, T, S, TU, P, R, C, RW, TX⟩ a c b d).toArray] w fun e w' => e = .returned (.int .i64 (checkM ⟨6, F, T, S, TU, P, R, C, RW, TX⟩)) ∧ Below w.heap.size w w' := by
  obtain ⟨V, hV⟩ : ∃ V, checkM ⟨6, F, T, S, TU, P, R, C, RW, TX⟩ = V := ⟨_, rfl⟩
  rw [hV]
  have hsm := fun w => eq_zero R hf.root w
  by_cases hroot : R = zero32
  · have hr2 : (R == zero32) = true := by simpa using hroot
    rw [hr2] at hsm
    by_cases hp : P = ⟨#[]⟩
    · have hp2 := str_is hp
      by_cases hc : 0 < C.length
      · have HV : Hid (7 = V) := hide (by rw [← hV, checkM_foreign hh (by simp [foreign, hroot, hp, hc])])
        clear hV
        have R0 := VRow.new w 27 (mL ⟨6, F, T, S, TU, P, R, C, RW, TX⟩ a c b d)
        have HB := hide (below_alloc' (w := w) (.cells (mL ⟨6, F, T, S, TU, P, R, C, RW, TX⟩ a c b d).toArray 27))
        have HR := hide R0
        have HL := hide (mL_len (m := ⟨6, F, T, S, TU, P, R, C, RW, TX⟩) hf.root a c b d)
        have K1 := hide fun W => refHead_any ⟨6, F, T, S, TU, P, R, C, RW, TX⟩ a b c d W
        have HRT : Hid (R.length = 32) := hide hf.root
        have HS1 := hide s1
        have HS2 := hide s2
        have HF := hide hf
        rw [hh] at K1
        clear hr2 hroot hp R0 hf hh s1 s2
        go_enter Try.func21, Try.ntmps21
        go_wp2_with ((have hrx := unhide HR); (refine load_msg (by rfl) (.tmp 1) (by rfl) w.heap.size (by rfl) _ hrx (unhide HL) ?_))
        refine (unhide K1 _).mono ?_
        rintro e w1 ⟨rfl, hb⟩
        have HR1 := hide ((unhide HR).after hb)
        have HB1 := hide (below_grow (unhide HB) (Nat.le_refl _) hb)
        have HR6 : Hid (w1.rangeAt w.heap.size 6 (R.map byteVal)) := hide (m6 (unhide HR1))
        have a0 := m0 (unhide HR1)
        have a4 := m4 (unhide HR1)
        have a5 := m5 (unhide HR1)
        have a38 := m38 (unhide HR1) (unhide HRT)
        have a39 := m39 (unhide HR1) (unhide HRT)
        have a40 := m40 (unhide HR1) (unhide HRT)
        dsimp only at a0 a4 a5 a38 a39 a40
        clear hb HR
        go_wp2_with ((have hrx := unhide HR6); (refine load_root (by rfl) (.tmp 13) (by rfl) w.heap.size (by rfl) R hrx (unhide HRT) ?_); (clear hrx HR6))
        go_ret
        exact ⟨ret_int (unhide HV), unhide HB1⟩
      · have hc0 : C.length ≤ 0 := by omega
        by_cases hw : 0 < RW.length
        · have HV : Hid (7 = V) := hide (by rw [← hV, checkM_foreign hh (by simp [foreign, hroot, hp, hc, hw])])
          clear hV
          have R0 := VRow.new w 27 (mL ⟨6, F, T, S, TU, P, R, C, RW, TX⟩ a c b d)
          have HB := hide (below_alloc' (w := w) (.cells (mL ⟨6, F, T, S, TU, P, R, C, RW, TX⟩ a c b d).toArray 27))
          have HR := hide R0
          have HL := hide (mL_len (m := ⟨6, F, T, S, TU, P, R, C, RW, TX⟩) hf.root a c b d)
          have K1 := hide fun W => refHead_any ⟨6, F, T, S, TU, P, R, C, RW, TX⟩ a b c d W
          have HRT : Hid (R.length = 32) := hide hf.root
          have HS1 := hide s1
          have HS2 := hide s2
          have HF := hide hf
          rw [hh] at K1
          clear hr2 hroot hp hc R0 hf hh s1 s2
          go_enter Try.func21, Try.ntmps21
          go_wp2_with ((have hrx := unhide HR); (refine load_msg (by rfl) (.tmp 1) (by rfl) w.heap.size (by rfl) _ hrx (unhide HL) ?_))
          refine (unhide K1 _).mono ?_
          rintro e w1 ⟨rfl, hb⟩
          have HR1 := hide ((unhide HR).after hb)
          have HB1 := hide (below_grow (unhide HB) (Nat.le_refl _) hb)
          have HR6 : Hid (w1.rangeAt w.heap.size 6 (R.map byteVal)) := hide (m6 (unhide HR1))
          have a0 := m0 (unhide HR1)
          have a4 := m4 (unhide HR1)
          have a5 := m5 (unhide HR1)
          have a38 := m38 (unhide HR1) (unhide HRT)
          have a39 := m39 (unhide HR1) (unhide HRT)
          have a40 := m40 (unhide HR1) (unhide HRT)
          dsimp only at a0 a4 a5 a38 a39 a40
          clear hb HR
          go_wp2_with ((have hrx := unhide HR6); (refine load_root (by rfl) (.tmp 13) (by rfl) w.heap.size (by rfl) R hrx (unhide HRT) ?_); (clear hrx HR6))
          go_ret
          exact ⟨ret_int (unhide HV), unhide HB1⟩
        · have hw0 : RW.length ≤ 0 := by omega
          by_cases ht : TX = ⟨#[]⟩
          · have ht2 := str_is ht
            cases TU with
            | true =>
              have HV : Hid (ownErr ⟨6, F, T, S, true, P, R, C, RW, TX⟩ = V) := hide (by rw [← hV, checkM_own hh (by simp [foreign, hroot, hp, hc, hw, ht])])
              clear hV
              have HP : Hid (pathErr P = 0) := hide (by rw [hp]; exact pathErr_none)
              have R0 := VRow.new w 27 (mL ⟨6, F, T, S, true, P, R, C, RW, TX⟩ a c b d)
              have HB := hide (below_alloc' (w := w) (.cells (mL ⟨6, F, T, S, true, P, R, C, RW, TX⟩ a c b d).toArray 27))
              have HR := hide R0
              have HL := hide (mL_len (m := ⟨6, F, T, S, true, P, R, C, RW, TX⟩) hf.root a c b d)
              have K1 := hide fun W => refHead_any ⟨6, F, T, S, true, P, R, C, RW, TX⟩ a b c d W
              have HRT : Hid (R.length = 32) := hide hf.root
              have HS1 := hide s1
              have HS2 := hide s2
              have HF := hide hf
              rw [hh] at K1
              clear hr2 hroot hp hc hw ht R0 hf hh s1 s2
              go_enter Try.func21, Try.ntmps21
              go_wp2_with ((have hrx := unhide HR); (refine load_msg (by rfl) (.tmp 1) (by rfl) w.heap.size (by rfl) _ hrx (unhide HL) ?_))
              refine (unhide K1 _).mono ?_
              rintro e w1 ⟨rfl, hb⟩
              have HR1 := hide ((unhide HR).after hb)
              have HB1 := hide (below_grow (unhide HB) (Nat.le_refl _) hb)
              have HR6 : Hid (w1.rangeAt w.heap.size 6 (R.map byteVal)) := hide (m6 (unhide HR1))
              have a0 := m0 (unhide HR1)
              have a4 := m4 (unhide HR1)
              have a5 := m5 (unhide HR1)
              have a38 := m38 (unhide HR1) (unhide HRT)
              have a39 := m39 (unhide HR1) (unhide HRT)
              have a40 := m40 (unhide HR1) (unhide HRT)
              dsimp only at a0 a4 a5 a38 a39 a40
              clear hb HR
              go_wp2_with ((have hrx := unhide HR6); (refine load_root (by rfl) (.tmp 13) (by rfl) w.heap.size (by rfl) R hrx (unhide HRT) ?_); (clear hrx HR6))
              have KC := hide (refCheck_any a c C (unhide HF).ctx _ ((unhide HS1).after (unhide HB1)))
              obtain ⟨X, hX⟩ : ∃ X, Vc.check C = X := ⟨_, rfl⟩
              rw [hX] at KC
              refine (unhide KC).mono ?_
              rintro e w2 ⟨rfl, hb⟩
              have HR2 := hide ((unhide HR1).after hb)
              have HB2 := hide (below_grow (unhide HB1) (Nat.le_refl _) hb)
              clear hb a5 a38 a39 a40
              by_cases hx : X = 0
              · subst hx
                have a5 := m5 (unhide HR2)
                have a38 := m38 (unhide HR2) (unhide HRT)
                have a39 := m39 (unhide HR2) (unhide HRT)
                have a40 := m40 (unhide HR2) (unhide HRT)
                dsimp only at a5 a38 a39 a40
                by_cases h64 : 64 < RW.length
                · exact absurd h64 (by omega)
                · have HO : Hid (V = if rowsErr RW ≠ 0 then rowsErr RW else if 65536 < TX.size then 2 else 0) := hide (by rw [← unhide HV]; unfold ownErr; rw [if_neg (by simp [unhide HP]), if_neg (by simp [hX]), if_neg h64])
                  clear hX
                  go_wp2_with fail
                  go_loopw [3, 5] (fun e i wr => ∃ k : Nat, k ≤ RW.length ∧ (∃ x : Int, e = .int .i64 x) ∧ i = .int .i64 k ∧ Hid (rowsErr (RW.drop k) = rowsErr RW) ∧ Hid (VRow wr w.heap.size 27 (mL ⟨6, F, T, S, true, P, R, C, RW, TX⟩ a c b d) ∧ Below w.heap.size w wr)) (fun _ i _ => RW.length - (intOf i).toNat)
                  case atStart => exact ⟨0, Nat.zero_le _, ⟨0, rfl⟩, rfl, hide rfl, hide ⟨unhide HR2, unhide HB2⟩⟩
                  case round =>
                    obtain ⟨k, hk, ⟨x, rfl⟩, rfl, HE, HH2⟩ := hrel
                    have HRk := hide (unhide HH2).1
                    have HBk := hide (unhide HH2).2
                    clear a39 a38 a40 a5
                    have a39 := m39 (unhide HRk) (unhide HRT)
                    have a40 := m40 (unhide HRk) (unhide HRT)
                    dsimp only at a39 a40
                    by_cases hlt : k < RW.length
                    · exact absurd hlt (by omega)
                    · obtain rfl : k = RW.length := by omega
                      have hE := unhide HE
                      rw [List.drop_length] at hE
                      have HO2 : Hid (V = if 65536 < TX.size then 2 else 0) := hide (by rw [unhide HO, ← hE]; rfl)
                      clear hE
                      by_cases htx : 65536 < TX.size
                      · have HV : Hid (2 = V) := hide (by rw [unhide HO2, if_pos htx])
                        go_wp2_with fail
                        go_ret
                        exact ⟨ret_int (unhide HV), unhide HBk⟩
                      · have HV : Hid (0 = V) := hide (by rw [unhide HO2, if_neg htx])
                        go_wp2_with fail
                        go_ret
                        exact ⟨ret_int (unhide HV), unhide HBk⟩
              · have hne : (X != 0) = true := bne_iff_ne.2 hx
                have HV : Hid (X = V) := hide (by rw [← unhide HV]; unfold ownErr; rw [if_neg (by simp [unhide HP]), if_pos (by rw [hX]; exact hx), hX])
                clear hX hx
                go_wp2_with fail
                go_ret
                exact ⟨ret_int (unhide HV), unhide HB2⟩
            | false =>
              have HV : Hid (ownErr ⟨6, F, T, S, false, P, R, C, RW, TX⟩ = V) := hide (by rw [← hV, checkM_own hh (by simp [foreign, hroot, hp, hc, hw, ht])])
              clear hV
              have HP : Hid (pathErr P = 0) := hide (by rw [hp]; exact pathErr_none)
              have R0 := VRow.new w 27 (mL ⟨6, F, T, S, false, P, R, C, RW, TX⟩ a c b d)
              have HB := hide (below_alloc' (w := w) (.cells (mL ⟨6, F, T, S, false, P, R, C, RW, TX⟩ a c b d).toArray 27))
              have HR := hide R0
              have HL := hide (mL_len (m := ⟨6, F, T, S, false, P, R, C, RW, TX⟩) hf.root a c b d)
              have K1 := hide fun W => refHead_any ⟨6, F, T, S, false, P, R, C, RW, TX⟩ a b c d W
              have HRT : Hid (R.length = 32) := hide hf.root
              have HS1 := hide s1
              have HS2 := hide s2
              have HF := hide hf
              rw [hh] at K1
              clear hr2 hroot hp hc hw ht R0 hf hh s1 s2
              go_enter Try.func21, Try.ntmps21
              go_wp2_with ((have hrx := unhide HR); (refine load_msg (by rfl) (.tmp 1) (by rfl) w.heap.size (by rfl) _ hrx (unhide HL) ?_))
              refine (unhide K1 _).mono ?_
              rintro e w1 ⟨rfl, hb⟩
              have HR1 := hide ((unhide HR).after hb)
              have HB1 := hide (below_grow (unhide HB) (Nat.le_refl _) hb)
              have HR6 : Hid (w1.rangeAt w.heap.size 6 (R.map byteVal)) := hide (m6 (unhide HR1))
              have a0 := m0 (unhide HR1)
              have a4 := m4 (unhide HR1)
              have a5 := m5 (unhide HR1)
              have a38 := m38 (unhide HR1) (unhide HRT)
              have a39 := m39 (unhide HR1) (unhide HRT)
              have a40 := m40 (unhide HR1) (unhide HRT)
              dsimp only at a0 a4 a5 a38 a39 a40
              clear hb HR
              go_wp2_with ((have hrx := unhide HR6); (refine load_root (by rfl) (.tmp 13) (by rfl) w.heap.size (by rfl) R hrx (unhide HRT) ?_); (clear hrx HR6))
              have KC := hide (refCheck_any a c C (unhide HF).ctx _ ((unhide HS1).after (unhide HB1)))
              obtain ⟨X, hX⟩ : ∃ X, Vc.check C = X := ⟨_, rfl⟩
              rw [hX] at KC
              refine (unhide KC).mono ?_
              rintro e w2 ⟨rfl, hb⟩
              have HR2 := hide ((unhide HR1).after hb)
              have HB2 := hide (below_grow (unhide HB1) (Nat.le_refl _) hb)
              clear hb a5 a38 a39 a40
              by_cases hx : X = 0
              · subst hx
                have a5 := m5 (unhide HR2)
                have a38 := m38 (unhide HR2) (unhide HRT)
                have a39 := m39 (unhide HR2) (unhide HRT)
                have a40 := m40 (unhide HR2) (unhide HRT)
                dsimp only at a5 a38 a39 a40
                by_cases h64 : 64 < RW.length
                · exact absurd h64 (by omega)
                · have HO : Hid (V = if rowsErr RW ≠ 0 then rowsErr RW else if 65536 < TX.size then 2 else 0) := hide (by rw [← unhide HV]; unfold ownErr; rw [if_neg (by simp [unhide HP]), if_neg (by simp [hX]), if_neg h64])
                  clear hX
                  go_wp2_with fail
                  go_loopw [3, 5] (fun e i wr => ∃ k : Nat, k ≤ RW.length ∧ (∃ x : Int, e = .int .i64 x) ∧ i = .int .i64 k ∧ Hid (rowsErr (RW.drop k) = rowsErr RW) ∧ Hid (VRow wr w.heap.size 27 (mL ⟨6, F, T, S, false, P, R, C, RW, TX⟩ a c b d) ∧ Below w.heap.size w wr)) (fun _ i _ => RW.length - (intOf i).toNat)
                  case atStart => exact ⟨0, Nat.zero_le _, ⟨0, rfl⟩, rfl, hide rfl, hide ⟨unhide HR2, unhide HB2⟩⟩
                  case round =>
                    obtain ⟨k, hk, ⟨x, rfl⟩, rfl, HE, HH2⟩ := hrel
                    have HRk := hide (unhide HH2).1
                    have HBk := hide (unhide HH2).2
                    clear a39 a38 a40 a5
                    have a39 := m39 (unhide HRk) (unhide HRT)
                    have a40 := m40 (unhide HRk) (unhide HRT)
                    dsimp only at a39 a40
                    by_cases hlt : k < RW.length
                    · exact absurd hlt (by omega)
                    · obtain rfl : k = RW.length := by omega
                      have hE := unhide HE
                      rw [List.drop_length] at hE
                      have HO2 : Hid (V = if 65536 < TX.size then 2 else 0) := hide (by rw [unhide HO, ← hE]; rfl)
                      clear hE
                      by_cases htx : 65536 < TX.size
                      · have HV : Hid (2 = V) := hide (by rw [unhide HO2, if_pos htx])
                        go_wp2_with fail
                        go_ret
                        exact ⟨ret_int (unhide HV), unhide HBk⟩
                      · have HV : Hid (0 = V) := hide (by rw [unhide HO2, if_neg htx])
                        go_wp2_with fail
                        go_ret
                        exact ⟨ret_int (unhide HV), unhide HBk⟩
              · have hne : (X != 0) = true := bne_iff_ne.2 hx
                have HV : Hid (X = V) := hide (by rw [← unhide HV]; unfold ownErr; rw [if_neg (by simp [unhide HP]), if_pos (by rw [hX]; exact hx), hX])
                clear hX hx
                go_wp2_with fail
                go_ret
                exact ⟨ret_int (unhide HV), unhide HB2⟩
          · have ht2 := str_not ht
            have HV : Hid (7 = V) := hide (by rw [← hV, checkM_foreign hh (by simp [foreign, hroot, hp, hc, hw, ht])])
            clear hV
            have R0 := VRow.new w 27 (mL ⟨6, F, T, S, TU, P, R, C, RW, TX⟩ a c b d)
            have HB := hide (below_alloc' (w := w) (.cells (mL ⟨6, F, T, S, TU, P, R, C, RW, TX⟩ a c b d).toArray 27))
            have HR := hide R0
            have HL := hide (mL_len (m := ⟨6, F, T, S, TU, P, R, C, RW, TX⟩) hf.root a c b d)
            have K1 := hide fun W => refHead_any ⟨6, F, T, S, TU, P, R, C, RW, TX⟩ a b c d W
            have HRT : Hid (R.length = 32) := hide hf.root
            have HS1 := hide s1
            have HS2 := hide s2
            have HF := hide hf
            rw [hh] at K1
            clear hr2 hroot hp hc hw ht R0 hf hh s1 s2
            go_enter Try.func21, Try.ntmps21
            go_wp2_with ((have hrx := unhide HR); (refine load_msg (by rfl) (.tmp 1) (by rfl) w.heap.size (by rfl) _ hrx (unhide HL) ?_))
            refine (unhide K1 _).mono ?_
            rintro e w1 ⟨rfl, hb⟩
            have HR1 := hide ((unhide HR).after hb)
            have HB1 := hide (below_grow (unhide HB) (Nat.le_refl _) hb)
            have HR6 : Hid (w1.rangeAt w.heap.size 6 (R.map byteVal)) := hide (m6 (unhide HR1))
            have a0 := m0 (unhide HR1)
            have a4 := m4 (unhide HR1)
            have a5 := m5 (unhide HR1)
            have a38 := m38 (unhide HR1) (unhide HRT)
            have a39 := m39 (unhide HR1) (unhide HRT)
            have a40 := m40 (unhide HR1) (unhide HRT)
            dsimp only at a0 a4 a5 a38 a39 a40
            clear hb HR
            go_wp2_with ((have hrx := unhide HR6); (refine load_root (by rfl) (.tmp 13) (by rfl) w.heap.size (by rfl) R hrx (unhide HRT) ?_); (clear hrx HR6))
            go_ret
            exact ⟨ret_int (unhide HV), unhide HB1⟩
    · have hp2 := str_not hp
      have hp3 : P.toList.isEmpty = false := by simpa using hp2
      have HV : Hid (7 = V) := hide (by rw [← hV, checkM_foreign hh (by simp [foreign, hroot, hp])])
      clear hV
      have R0 := VRow.new w 27 (mL ⟨6, F, T, S, TU, P, R, C, RW, TX⟩ a c b d)
      have HB := hide (below_alloc' (w := w) (.cells (mL ⟨6, F, T, S, TU, P, R, C, RW, TX⟩ a c b d).toArray 27))
      have HR := hide R0
      have HL := hide (mL_len (m := ⟨6, F, T, S, TU, P, R, C, RW, TX⟩) hf.root a c b d)
      have K1 := hide fun W => refHead_any ⟨6, F, T, S, TU, P, R, C, RW, TX⟩ a b c d W
      have HRT : Hid (R.length = 32) := hide hf.root
      have HS1 := hide s1
      have HS2 := hide s2
      have HF := hide hf
      rw [hh] at K1
      clear hr2 hroot hp R0 hf hh s1 s2
      go_enter Try.func21, Try.ntmps21
      go_wp2_with ((have hrx := unhide HR); (refine load_msg (by rfl) (.tmp 1) (by rfl) w.heap.size (by rfl) _ hrx (unhide HL) ?_))
      refine (unhide K1 _).mono ?_
      rintro e w1 ⟨rfl, hb⟩
      have HR1 := hide ((unhide HR).after hb)
      have HB1 := hide (below_grow (unhide HB) (Nat.le_refl _) hb)
      have HR6 : Hid (w1.rangeAt w.heap.size 6 (R.map byteVal)) := hide (m6 (unhide HR1))
      have a0 := m0 (unhide HR1)
      have a4 := m4 (unhide HR1)
      have a5 := m5 (unhide HR1)
      have a38 := m38 (unhide HR1) (unhide HRT)
      have a39 := m39 (unhide HR1) (unhide HRT)
      have a40 := m40 (unhide HR1) (unhide HRT)
      dsimp only at a0 a4 a5 a38 a39 a40
      clear hb HR
      go_wp2_with ((have hrx := unhide HR6); (refine load_root (by rfl) (.tmp 13) (by rfl) w.heap.size (by rfl) R hrx (unhide HRT) ?_); (clear hrx HR6))
      go_ret
      exact ⟨ret_int (unhide HV), unhide HB1⟩
  · have hr2 : (R == zero32) = false := by simpa using hroot
    rw [hr2] at hsm
    have HV : Hid (7 = V) := hide (by rw [← hV, checkM_foreign hh (by simp [foreign, hroot])])
    clear hV
    have R0 := VRow.new w 27 (mL ⟨6, F, T, S, TU, P, R, C, RW, TX⟩ a c b d)
    have HB := hide (below_alloc' (w := w) (.cells (mL ⟨6, F, T, S, TU, P, R, C, RW, TX⟩ a c b d).toArray 27))
    have HR := hide R0
    have HL := hide (mL_len (m := ⟨6, F, T, S, TU, P, R, C, RW, TX⟩) hf.root a c b d)
    have K1 := hide fun W => refHead_any ⟨6, F, T, S, TU, P, R, C, RW, TX⟩ a b c d W
    have HRT : Hid (R.length = 32) := hide hf.root
    have HS1 := hide s1
    have HS2 := hide s2
    have HF := hide hf
    rw [hh] at K1
    clear hr2 hroot R0 hf hh s1 s2
    go_enter Try.func21, Try.ntmps21
    go_wp2_with ((have hrx := unhide HR); (refine load_msg (by rfl) (.tmp 1) (by rfl) w.heap.size (by rfl) _ hrx (unhide HL) ?_))
    refine (unhide K1 _).mono ?_
    rintro e w1 ⟨rfl, hb⟩
    have HR1 := hide ((unhide HR).after hb)
    have HB1 := hide (below_grow (unhide HB) (Nat.le_refl _) hb)
    have HR6 : Hid (w1.rangeAt w.heap.size 6 (R.map byteVal)) := hide (m6 (unhide HR1))
    have a0 := m0 (unhide HR1)
    have a4 := m4 (unhide HR1)
    have a5 := m5 (unhide HR1)
    have a38 := m38 (unhide HR1) (unhide HRT)
    have a39 := m39 (unhide HR1) (unhide HRT)
    have a40 := m40 (unhide HR1) (unhide HRT)
    dsimp only at a0 a4 a5 a38 a39 a40
    clear hb HR
    go_wp2_with ((have hrx := unhide HR6); (refine load_root (by rfl) (.tmp 13) (by rfl) w.heap.size (by rfl) R hrx (unhide HRT) ?_); (clear hrx HR6))
    go_ret
    exact ⟨ret_int (unhide HV), unhide HB1⟩
end Go.Proofs.Ythecijjmgfempaa
