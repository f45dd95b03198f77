/-
  Which messages are the same: the program's.
-/
import Derived.Test.YthecijjmgfempaaM5
import Derived.Test.YthecijjmgfempaaM2
namespace Go.Proofs.Ythecijjmgfempaa
open Go.RowKit

set_option maxRecDepth 100000 in
set_option maxHeartbeats 4000000 in
theorem sameM (K : Int) (F : Int) (T : Int) (S : Int) (TU : Bool) (P : ByteArray) (R : List UInt8) (TX : ByteArray) (C : List Vc.D) (RW : List (List Vc.D)) (K' : Int) (F' : Int) (T' : Int) (S' : Int) (TU' : Bool) (P' : ByteArray) (R' : List UInt8) (TX' : ByteArray) (C' : List Vc.D) (RW' : List (List Vc.D)) (a1 b1 a2 b2 : Option Addr) (c1 d1 c2 d2 : Nat) (w : World)
    (hf : FewM ⟨K, F, T, S, TU, P, R, C, RW, TX⟩) (hg : FewM ⟨K', F', T', S', TU', P', R', C', RW', TX'⟩) (s1 : Sl w a1 C) (s2 : RL w b1 RW) (s3 : Sl w a2 C') (s4 : RL w b2 RW') (D : Bool) (hD : D = true ↔ (⟨K, F, T, S, TU, P, R, C, RW, TX⟩ : Msg) = ⟨K', F', T', S', TU', P', R', C', RW', TX'⟩) :
    Calls Try.prog 41 #[.agg (mL ⟨K, F, T, S, TU, P, R, C, RW, TX⟩ a1 c1 b1 d1).toArray, .agg (mL ⟨K', F', T', S', TU', P', R', C', RW', TX'⟩ a2 c2 b2 d2).toArray] w fun e w' => e = .returned (.bool D) ∧ Below w.heap.size w w' := by
  by_cases h : K = K'
  · subst h
    by_cases h : F = F'
    · subst h
      by_cases h : T = T'
      · subst h
        by_cases h : S = S'
        · subst h
          by_cases h : TU = TU'
          · subst h
            by_cases h : P = P'
            · subst h
              by_cases h : R = R'
              · subst h
                by_cases h : TX = TX'
                · subst h
                  by_cases h : C = C'
                  · subst h
                    by_cases h : RW = RW'
                    · subst h
                      obtain rfl : D = true := hD.2 rfl
                      have hsm := fun w => eq_root R R hf.root hf.root w
                      rw [show (R == R) = true from by simp] at hsm
                      have R0 := VRow.new w 27 (mL ⟨K, F, T, S, TU, P, R, C, RW, TX⟩ a1 c1 b1 d1)
                      have R1 := R0.alloc (.cells (mL ⟨K, F, T, S, TU, P, R, C, RW, TX⟩ a2 c2 b2 d2).toArray 27)
                      have R2 := VRow.newAt (W := w.alloc (.cells (mL ⟨K, F, T, S, TU, P, R, C, RW, TX⟩ a1 c1 b1 d1).toArray 27)) (T := 27) (n := w.heap.size + 1) (vs := mL ⟨K, F, T, S, TU, P, R, C, RW, TX⟩ a2 c2 b2 d2) (by simp)
                      have HB := hide ((below_alloc' (w := w) (.cells (mL ⟨K, F, T, S, TU, P, R, C, RW, TX⟩ a1 c1 b1 d1).toArray 27)).alloc (by simp) (.cells (mL ⟨K, F, T, S, TU, P, R, C, RW, TX⟩ a2 c2 b2 d2).toArray 27))
                      have hrt : R.length = 32 := hf.root
                      have hrt' : R.length = 32 := hg.root
                      have HRT := hide hrt
                      have HRT' := hide hrt'
                      have HA6 := hide (m6 R1)
                      have HB6 := hide (m6 R2)
                      have HS1 := hide s1
                      have HS2 := hide s2
                      have HS3 := hide s3
                      have HS4 := hide s4
                      have HF := hide hf
                      have HG := hide hg
                      have HD := hide hD
                      have x0 := m0 R1
                      have y0 := m0 R2
                      have x1 := m1 R1
                      have y1 := m1 R2
                      have x2 := m2 R1
                      have y2 := m2 R2
                      have x3 := m3 R1
                      have y3 := m3 R2
                      have x4 := m4 R1
                      have y4 := m4 R2
                      have x5 := m5 R1
                      have y5 := m5 R2
                      have x38 := m38 R1 hrt
                      have y38 := m38 R2 hrt'
                      have x39 := m39 R1 hrt
                      have y39 := m39 R2 hrt'
                      have x40 := m40 R1 hrt
                      have y40 := m40 R2 hrt'
                      dsimp only at x0 y0 x1 y1 x2 y2 x3 y3 x4 y4 x5 y5 x38 y38 x39 y39 x40 y40 HA6 HB6
                      clear R0 R1 R2 s1 s2 s3 s4 hf hg hD hrt hrt'
                      go_enter Try.func41, Try.ntmps41
                      go_wp2_with ((with_reducible refine at23 ?_); (first | ((have hrx := unhide HA6); (refine load_root_want (by rfl) (.tmp 46) (by rfl) w.heap.size (by rfl) R hrx (unhide HRT) ?_); (clear hrx HA6)) | ((have hrx := unhide HB6); (refine load_root_want (by rfl) (.tmp 48) (by rfl) (w.heap.size + 1) (by rfl) R hrx (unhide HRT') ?_); (clear hrx HB6))))
                      have KC := hide (same_any a1 a2 c1 c2 C C (unhide HF).ctx _ ((unhide HS1).after (unhide HB)) ((unhide HS3).after (unhide HB)) true (by simp))
                      refine (unhide KC).mono ?_
                      rintro e w1 ⟨rfl, hb⟩
                      have HB1 := hide (below_grow (unhide HB) (Nat.le_refl _) hb)
                      have x39' := x39
                      have HR1 := hide hb
                      clear x0 y0 x1 y1 x2 y2 x3 y3 x4 y4 x5 y5 x38 y38 x40 y40
                      have x39 := cellB hb x39
                      have y39 := cellB hb y39
                      clear hb x39'
                      go_wp2_with fail
                      have KR := hide (equalR_any b1 b2 d1 d2 RW RW (unhide HF).rows (unhide HG).rows _ ((unhide HS2).after (unhide HB1)) ((unhide HS4).after (unhide HB1)) true (by simp))
                      refine (unhide KR).mono ?_
                      rintro e w2 ⟨rfl, hb⟩
                      have HB2 := hide (below_grow (unhide HB1) (Nat.le_refl _) hb)
                      clear hb x39 y39
                      go_wp2_with fail
                      go_ret
                      exact ⟨rfl, unhide HB2⟩
                    · obtain rfl : D = false := by
                        cases D with
                        | false => rfl
                        | true => exact absurd (congrArg Msg.rows (hD.1 rfl)) h
                      have HH := hide h
                      clear h
                      have hsm := fun w => eq_root R R hf.root hf.root w
                      rw [show (R == R) = true from by simp] at hsm
                      have R0 := VRow.new w 27 (mL ⟨K, F, T, S, TU, P, R, C, RW, TX⟩ a1 c1 b1 d1)
                      have R1 := R0.alloc (.cells (mL ⟨K, F, T, S, TU, P, R, C, RW', TX⟩ a2 c2 b2 d2).toArray 27)
                      have R2 := VRow.newAt (W := w.alloc (.cells (mL ⟨K, F, T, S, TU, P, R, C, RW, TX⟩ a1 c1 b1 d1).toArray 27)) (T := 27) (n := w.heap.size + 1) (vs := mL ⟨K, F, T, S, TU, P, R, C, RW', TX⟩ a2 c2 b2 d2) (by simp)
                      have HB := hide ((below_alloc' (w := w) (.cells (mL ⟨K, F, T, S, TU, P, R, C, RW, TX⟩ a1 c1 b1 d1).toArray 27)).alloc (by simp) (.cells (mL ⟨K, F, T, S, TU, P, R, C, RW', TX⟩ a2 c2 b2 d2).toArray 27))
                      have hrt : R.length = 32 := hf.root
                      have hrt' : R.length = 32 := hg.root
                      have HRT := hide hrt
                      have HRT' := hide hrt'
                      have HA6 := hide (m6 R1)
                      have HB6 := hide (m6 R2)
                      have HS1 := hide s1
                      have HS2 := hide s2
                      have HS3 := hide s3
                      have HS4 := hide s4
                      have HF := hide hf
                      have HG := hide hg
                      have HD := hide hD
                      have x0 := m0 R1
                      have y0 := m0 R2
                      have x1 := m1 R1
                      have y1 := m1 R2
                      have x2 := m2 R1
                      have y2 := m2 R2
                      have x3 := m3 R1
                      have y3 := m3 R2
                      have x4 := m4 R1
                      have y4 := m4 R2
                      have x5 := m5 R1
                      have y5 := m5 R2
                      have x38 := m38 R1 hrt
                      have y38 := m38 R2 hrt'
                      have x39 := m39 R1 hrt
                      have y39 := m39 R2 hrt'
                      have x40 := m40 R1 hrt
                      have y40 := m40 R2 hrt'
                      dsimp only at x0 y0 x1 y1 x2 y2 x3 y3 x4 y4 x5 y5 x38 y38 x39 y39 x40 y40 HA6 HB6
                      clear R0 R1 R2 s1 s2 s3 s4 hf hg hD hrt hrt'
                      go_enter Try.func41, Try.ntmps41
                      go_wp2_with ((with_reducible refine at23 ?_); (first | ((have hrx := unhide HA6); (refine load_root_want (by rfl) (.tmp 46) (by rfl) w.heap.size (by rfl) R hrx (unhide HRT) ?_); (clear hrx HA6)) | ((have hrx := unhide HB6); (refine load_root_want (by rfl) (.tmp 48) (by rfl) (w.heap.size + 1) (by rfl) R hrx (unhide HRT') ?_); (clear hrx HB6))))
                      have KC := hide (same_any a1 a2 c1 c2 C C (unhide HF).ctx _ ((unhide HS1).after (unhide HB)) ((unhide HS3).after (unhide HB)) true (by simp))
                      refine (unhide KC).mono ?_
                      rintro e w1 ⟨rfl, hb⟩
                      have HB1 := hide (below_grow (unhide HB) (Nat.le_refl _) hb)
                      have x39' := x39
                      have HR1 := hide hb
                      clear x0 y0 x1 y1 x2 y2 x3 y3 x4 y4 x5 y5 x38 y38 x40 y40
                      have x39 := cellB hb x39
                      have y39 := cellB hb y39
                      clear hb x39'
                      go_wp2_with fail
                      have KR := hide (equalR_any b1 b2 d1 d2 RW RW' (unhide HF).rows (unhide HG).rows _ ((unhide HS2).after (unhide HB1)) ((unhide HS4).after (unhide HB1)) false (by simp [unhide HH]))
                      refine (unhide KR).mono ?_
                      rintro e w2 ⟨rfl, hb⟩
                      have HB2 := hide (below_grow (unhide HB1) (Nat.le_refl _) hb)
                      clear hb x39 y39
                      go_wp2_with fail
                      go_ret
                      exact ⟨rfl, unhide HB2⟩
                  · obtain rfl : D = false := by
                      cases D with
                      | false => rfl
                      | true => exact absurd (congrArg Msg.ctx (hD.1 rfl)) h
                    have hsm := fun w => eq_root R R hf.root hf.root w
                    rw [show (R == R) = true from by simp] at hsm
                    have HH := hide h
                    clear h
                    have R0 := VRow.new w 27 (mL ⟨K, F, T, S, TU, P, R, C, RW, TX⟩ a1 c1 b1 d1)
                    have R1 := R0.alloc (.cells (mL ⟨K, F, T, S, TU, P, R, C', RW', TX⟩ a2 c2 b2 d2).toArray 27)
                    have R2 := VRow.newAt (W := w.alloc (.cells (mL ⟨K, F, T, S, TU, P, R, C, RW, TX⟩ a1 c1 b1 d1).toArray 27)) (T := 27) (n := w.heap.size + 1) (vs := mL ⟨K, F, T, S, TU, P, R, C', RW', TX⟩ a2 c2 b2 d2) (by simp)
                    have HB := hide ((below_alloc' (w := w) (.cells (mL ⟨K, F, T, S, TU, P, R, C, RW, TX⟩ a1 c1 b1 d1).toArray 27)).alloc (by simp) (.cells (mL ⟨K, F, T, S, TU, P, R, C', RW', TX⟩ a2 c2 b2 d2).toArray 27))
                    have hrt : R.length = 32 := hf.root
                    have hrt' : R.length = 32 := hg.root
                    have HRT := hide hrt
                    have HRT' := hide hrt'
                    have HA6 := hide (m6 R1)
                    have HB6 := hide (m6 R2)
                    have HS1 := hide s1
                    have HS2 := hide s2
                    have HS3 := hide s3
                    have HS4 := hide s4
                    have HF := hide hf
                    have HG := hide hg
                    have HD := hide hD
                    have x0 := m0 R1
                    have y0 := m0 R2
                    have x1 := m1 R1
                    have y1 := m1 R2
                    have x2 := m2 R1
                    have y2 := m2 R2
                    have x3 := m3 R1
                    have y3 := m3 R2
                    have x4 := m4 R1
                    have y4 := m4 R2
                    have x5 := m5 R1
                    have y5 := m5 R2
                    have x38 := m38 R1 hrt
                    have y38 := m38 R2 hrt'
                    have x39 := m39 R1 hrt
                    have y39 := m39 R2 hrt'
                    have x40 := m40 R1 hrt
                    have y40 := m40 R2 hrt'
                    dsimp only at x0 y0 x1 y1 x2 y2 x3 y3 x4 y4 x5 y5 x38 y38 x39 y39 x40 y40 HA6 HB6
                    clear R0 R1 R2 s1 s2 s3 s4 hf hg hD hrt hrt'
                    go_enter Try.func41, Try.ntmps41
                    go_wp2_with ((with_reducible refine at23 ?_); (first | ((have hrx := unhide HA6); (refine load_root_want (by rfl) (.tmp 46) (by rfl) w.heap.size (by rfl) R hrx (unhide HRT) ?_); (clear hrx HA6)) | ((have hrx := unhide HB6); (refine load_root_want (by rfl) (.tmp 48) (by rfl) (w.heap.size + 1) (by rfl) R hrx (unhide HRT') ?_); (clear hrx HB6))))
                    have KC := hide (same_any a1 a2 c1 c2 C C' (unhide HF).ctx _ ((unhide HS1).after (unhide HB)) ((unhide HS3).after (unhide HB)) false (by simp [unhide HH]))
                    refine (unhide KC).mono ?_
                    rintro e w1 ⟨rfl, hb⟩
                    have HB1 := hide (below_grow (unhide HB) (Nat.le_refl _) hb)
                    clear hb
                    go_wp2_with fail
                    go_ret
                    exact ⟨rfl, unhide HB1⟩
                · obtain rfl : D = false := by
                    cases D with
                    | false => rfl
                    | true => exact absurd (congrArg Msg.text (hD.1 rfl)) h
                  have hsm := fun w => eq_root R R hf.root hf.root w
                  rw [show (R == R) = true from by simp] at hsm
                  have hne : (TX.toList == TX'.toList) = false := (toList_eq _ _).trans (decide_eq_false h)
                  clear h
                  have R0 := VRow.new w 27 (mL ⟨K, F, T, S, TU, P, R, C, RW, TX⟩ a1 c1 b1 d1)
                  have R1 := R0.alloc (.cells (mL ⟨K, F, T, S, TU, P, R, C', RW', TX'⟩ a2 c2 b2 d2).toArray 27)
                  have R2 := VRow.newAt (W := w.alloc (.cells (mL ⟨K, F, T, S, TU, P, R, C, RW, TX⟩ a1 c1 b1 d1).toArray 27)) (T := 27) (n := w.heap.size + 1) (vs := mL ⟨K, F, T, S, TU, P, R, C', RW', TX'⟩ a2 c2 b2 d2) (by simp)
                  have HB := hide ((below_alloc' (w := w) (.cells (mL ⟨K, F, T, S, TU, P, R, C, RW, TX⟩ a1 c1 b1 d1).toArray 27)).alloc (by simp) (.cells (mL ⟨K, F, T, S, TU, P, R, C', RW', TX'⟩ a2 c2 b2 d2).toArray 27))
                  have hrt : R.length = 32 := hf.root
                  have hrt' : R.length = 32 := hg.root
                  have HRT := hide hrt
                  have HRT' := hide hrt'
                  have HA6 := hide (m6 R1)
                  have HB6 := hide (m6 R2)
                  have HS1 := hide s1
                  have HS2 := hide s2
                  have HS3 := hide s3
                  have HS4 := hide s4
                  have HF := hide hf
                  have HG := hide hg
                  have HD := hide hD
                  have x0 := m0 R1
                  have y0 := m0 R2
                  have x1 := m1 R1
                  have y1 := m1 R2
                  have x2 := m2 R1
                  have y2 := m2 R2
                  have x3 := m3 R1
                  have y3 := m3 R2
                  have x4 := m4 R1
                  have y4 := m4 R2
                  have x5 := m5 R1
                  have y5 := m5 R2
                  have x38 := m38 R1 hrt
                  have y38 := m38 R2 hrt'
                  have x39 := m39 R1 hrt
                  have y39 := m39 R2 hrt'
                  have x40 := m40 R1 hrt
                  have y40 := m40 R2 hrt'
                  dsimp only at x0 y0 x1 y1 x2 y2 x3 y3 x4 y4 x5 y5 x38 y38 x39 y39 x40 y40 HA6 HB6
                  clear R0 R1 R2 s1 s2 s3 s4 hf hg hD hrt hrt'
                  go_enter Try.func41, Try.ntmps41
                  go_wp2_with ((with_reducible refine at23 ?_); (first | ((have hrx := unhide HA6); (refine load_root_want (by rfl) (.tmp 46) (by rfl) w.heap.size (by rfl) R hrx (unhide HRT) ?_); (clear hrx HA6)) | ((have hrx := unhide HB6); (refine load_root_want (by rfl) (.tmp 48) (by rfl) (w.heap.size + 1) (by rfl) R hrx (unhide HRT') ?_); (clear hrx HB6))))
                  go_ret
                  exact ⟨rfl, unhide HB⟩
              · obtain rfl : D = false := by
                  cases D with
                  | false => rfl
                  | true => exact absurd (congrArg Msg.root (hD.1 rfl)) h
                have hsm := fun w => eq_root R R' hf.root hg.root w
                rw [show (R == R') = false from by simpa using h] at hsm
                clear h
                have R0 := VRow.new w 27 (mL ⟨K, F, T, S, TU, P, R, C, RW, TX⟩ a1 c1 b1 d1)
                have R1 := R0.alloc (.cells (mL ⟨K, F, T, S, TU, P, R', C', RW', TX'⟩ a2 c2 b2 d2).toArray 27)
                have R2 := VRow.newAt (W := w.alloc (.cells (mL ⟨K, F, T, S, TU, P, R, C, RW, TX⟩ a1 c1 b1 d1).toArray 27)) (T := 27) (n := w.heap.size + 1) (vs := mL ⟨K, F, T, S, TU, P, R', C', RW', TX'⟩ a2 c2 b2 d2) (by simp)
                have HB := hide ((below_alloc' (w := w) (.cells (mL ⟨K, F, T, S, TU, P, R, C, RW, TX⟩ a1 c1 b1 d1).toArray 27)).alloc (by simp) (.cells (mL ⟨K, F, T, S, TU, P, R', C', RW', TX'⟩ a2 c2 b2 d2).toArray 27))
                have hrt : R.length = 32 := hf.root
                have hrt' : R'.length = 32 := hg.root
                have HRT := hide hrt
                have HRT' := hide hrt'
                have HA6 := hide (m6 R1)
                have HB6 := hide (m6 R2)
                have HS1 := hide s1
                have HS2 := hide s2
                have HS3 := hide s3
                have HS4 := hide s4
                have HF := hide hf
                have HG := hide hg
                have HD := hide hD
                have x0 := m0 R1
                have y0 := m0 R2
                have x1 := m1 R1
                have y1 := m1 R2
                have x2 := m2 R1
                have y2 := m2 R2
                have x3 := m3 R1
                have y3 := m3 R2
                have x4 := m4 R1
                have y4 := m4 R2
                have x5 := m5 R1
                have y5 := m5 R2
                have x38 := m38 R1 hrt
                have y38 := m38 R2 hrt'
                have x39 := m39 R1 hrt
                have y39 := m39 R2 hrt'
                have x40 := m40 R1 hrt
                have y40 := m40 R2 hrt'
                dsimp only at x0 y0 x1 y1 x2 y2 x3 y3 x4 y4 x5 y5 x38 y38 x39 y39 x40 y40 HA6 HB6
                clear R0 R1 R2 s1 s2 s3 s4 hf hg hD hrt hrt'
                go_enter Try.func41, Try.ntmps41
                go_wp2_with ((with_reducible refine at23 ?_); (first | ((have hrx := unhide HA6); (refine load_root_want (by rfl) (.tmp 46) (by rfl) w.heap.size (by rfl) R hrx (unhide HRT) ?_); (clear hrx HA6)) | ((have hrx := unhide HB6); (refine load_root_want (by rfl) (.tmp 48) (by rfl) (w.heap.size + 1) (by rfl) R' hrx (unhide HRT') ?_); (clear hrx HB6))))
                go_ret
                exact ⟨rfl, unhide HB⟩
            · obtain rfl : D = false := by
                cases D with
                | false => rfl
                | true => exact absurd (congrArg Msg.path (hD.1 rfl)) h
              have hne : (P.toList == P'.toList) = false := (toList_eq _ _).trans (decide_eq_false h)
              clear h
              have R0 := VRow.new w 27 (mL ⟨K, F, T, S, TU, P, R, C, RW, TX⟩ a1 c1 b1 d1)
              have R1 := R0.alloc (.cells (mL ⟨K, F, T, S, TU, P', R', C', RW', TX'⟩ a2 c2 b2 d2).toArray 27)
              have R2 := VRow.newAt (W := w.alloc (.cells (mL ⟨K, F, T, S, TU, P, R, C, RW, TX⟩ a1 c1 b1 d1).toArray 27)) (T := 27) (n := w.heap.size + 1) (vs := mL ⟨K, F, T, S, TU, P', R', C', RW', TX'⟩ a2 c2 b2 d2) (by simp)
              have HB := hide ((below_alloc' (w := w) (.cells (mL ⟨K, F, T, S, TU, P, R, C, RW, TX⟩ a1 c1 b1 d1).toArray 27)).alloc (by simp) (.cells (mL ⟨K, F, T, S, TU, P', R', C', RW', TX'⟩ a2 c2 b2 d2).toArray 27))
              have hrt : R.length = 32 := hf.root
              have hrt' : R'.length = 32 := hg.root
              have HRT := hide hrt
              have HRT' := hide hrt'
              have HA6 := hide (m6 R1)
              have HB6 := hide (m6 R2)
              have HS1 := hide s1
              have HS2 := hide s2
              have HS3 := hide s3
              have HS4 := hide s4
              have HF := hide hf
              have HG := hide hg
              have HD := hide hD
              have x0 := m0 R1
              have y0 := m0 R2
              have x1 := m1 R1
              have y1 := m1 R2
              have x2 := m2 R1
              have y2 := m2 R2
              have x3 := m3 R1
              have y3 := m3 R2
              have x4 := m4 R1
              have y4 := m4 R2
              have x5 := m5 R1
              have y5 := m5 R2
              have x38 := m38 R1 hrt
              have y38 := m38 R2 hrt'
              have x39 := m39 R1 hrt
              have y39 := m39 R2 hrt'
              have x40 := m40 R1 hrt
              have y40 := m40 R2 hrt'
              dsimp only at x0 y0 x1 y1 x2 y2 x3 y3 x4 y4 x5 y5 x38 y38 x39 y39 x40 y40 HA6 HB6
              clear R0 R1 R2 s1 s2 s3 s4 hf hg hD hrt hrt'
              go_enter Try.func41, Try.ntmps41
              go_wp2_with fail
              go_ret
              exact ⟨rfl, unhide HB⟩
          · obtain rfl : D = false := by
              cases D with
              | false => rfl
              | true => exact absurd (congrArg Msg.turn (hD.1 rfl)) h
            have hne : (TU == TU') = false := by simpa using h
            clear h
            have R0 := VRow.new w 27 (mL ⟨K, F, T, S, TU, P, R, C, RW, TX⟩ a1 c1 b1 d1)
            have R1 := R0.alloc (.cells (mL ⟨K, F, T, S, TU', P', R', C', RW', TX'⟩ a2 c2 b2 d2).toArray 27)
            have R2 := VRow.newAt (W := w.alloc (.cells (mL ⟨K, F, T, S, TU, P, R, C, RW, TX⟩ a1 c1 b1 d1).toArray 27)) (T := 27) (n := w.heap.size + 1) (vs := mL ⟨K, F, T, S, TU', P', R', C', RW', TX'⟩ a2 c2 b2 d2) (by simp)
            have HB := hide ((below_alloc' (w := w) (.cells (mL ⟨K, F, T, S, TU, P, R, C, RW, TX⟩ a1 c1 b1 d1).toArray 27)).alloc (by simp) (.cells (mL ⟨K, F, T, S, TU', P', R', C', RW', TX'⟩ a2 c2 b2 d2).toArray 27))
            have hrt : R.length = 32 := hf.root
            have hrt' : R'.length = 32 := hg.root
            have HRT := hide hrt
            have HRT' := hide hrt'
            have HA6 := hide (m6 R1)
            have HB6 := hide (m6 R2)
            have HS1 := hide s1
            have HS2 := hide s2
            have HS3 := hide s3
            have HS4 := hide s4
            have HF := hide hf
            have HG := hide hg
            have HD := hide hD
            have x0 := m0 R1
            have y0 := m0 R2
            have x1 := m1 R1
            have y1 := m1 R2
            have x2 := m2 R1
            have y2 := m2 R2
            have x3 := m3 R1
            have y3 := m3 R2
            have x4 := m4 R1
            have y4 := m4 R2
            have x5 := m5 R1
            have y5 := m5 R2
            have x38 := m38 R1 hrt
            have y38 := m38 R2 hrt'
            have x39 := m39 R1 hrt
            have y39 := m39 R2 hrt'
            have x40 := m40 R1 hrt
            have y40 := m40 R2 hrt'
            dsimp only at x0 y0 x1 y1 x2 y2 x3 y3 x4 y4 x5 y5 x38 y38 x39 y39 x40 y40 HA6 HB6
            clear R0 R1 R2 s1 s2 s3 s4 hf hg hD hrt hrt'
            go_enter Try.func41, Try.ntmps41
            go_wp2_with fail
            go_ret
            exact ⟨rfl, unhide HB⟩
        · obtain rfl : D = false := by
            cases D with
            | false => rfl
            | true => exact absurd (congrArg Msg.sid (hD.1 rfl)) h
          have hne : (S == S') = false := by simpa using h
          clear h
          have R0 := VRow.new w 27 (mL ⟨K, F, T, S, TU, P, R, C, RW, TX⟩ a1 c1 b1 d1)
          have R1 := R0.alloc (.cells (mL ⟨K, F, T, S', TU', P', R', C', RW', TX'⟩ a2 c2 b2 d2).toArray 27)
          have R2 := VRow.newAt (W := w.alloc (.cells (mL ⟨K, F, T, S, TU, P, R, C, RW, TX⟩ a1 c1 b1 d1).toArray 27)) (T := 27) (n := w.heap.size + 1) (vs := mL ⟨K, F, T, S', TU', P', R', C', RW', TX'⟩ a2 c2 b2 d2) (by simp)
          have HB := hide ((below_alloc' (w := w) (.cells (mL ⟨K, F, T, S, TU, P, R, C, RW, TX⟩ a1 c1 b1 d1).toArray 27)).alloc (by simp) (.cells (mL ⟨K, F, T, S', TU', P', R', C', RW', TX'⟩ a2 c2 b2 d2).toArray 27))
          have hrt : R.length = 32 := hf.root
          have hrt' : R'.length = 32 := hg.root
          have HRT := hide hrt
          have HRT' := hide hrt'
          have HA6 := hide (m6 R1)
          have HB6 := hide (m6 R2)
          have HS1 := hide s1
          have HS2 := hide s2
          have HS3 := hide s3
          have HS4 := hide s4
          have HF := hide hf
          have HG := hide hg
          have HD := hide hD
          have x0 := m0 R1
          have y0 := m0 R2
          have x1 := m1 R1
          have y1 := m1 R2
          have x2 := m2 R1
          have y2 := m2 R2
          have x3 := m3 R1
          have y3 := m3 R2
          have x4 := m4 R1
          have y4 := m4 R2
          have x5 := m5 R1
          have y5 := m5 R2
          have x38 := m38 R1 hrt
          have y38 := m38 R2 hrt'
          have x39 := m39 R1 hrt
          have y39 := m39 R2 hrt'
          have x40 := m40 R1 hrt
          have y40 := m40 R2 hrt'
          dsimp only at x0 y0 x1 y1 x2 y2 x3 y3 x4 y4 x5 y5 x38 y38 x39 y39 x40 y40 HA6 HB6
          clear R0 R1 R2 s1 s2 s3 s4 hf hg hD hrt hrt'
          go_enter Try.func41, Try.ntmps41
          go_wp2_with fail
          go_ret
          exact ⟨rfl, unhide HB⟩
      · obtain rfl : D = false := by
          cases D with
          | false => rfl
          | true => exact absurd (congrArg Msg.dst (hD.1 rfl)) h
        have hne : (T == T') = false := by simpa using h
        clear h
        have R0 := VRow.new w 27 (mL ⟨K, F, T, S, TU, P, R, C, RW, TX⟩ a1 c1 b1 d1)
        have R1 := R0.alloc (.cells (mL ⟨K, F, T', S', TU', P', R', C', RW', TX'⟩ a2 c2 b2 d2).toArray 27)
        have R2 := VRow.newAt (W := w.alloc (.cells (mL ⟨K, F, T, S, TU, P, R, C, RW, TX⟩ a1 c1 b1 d1).toArray 27)) (T := 27) (n := w.heap.size + 1) (vs := mL ⟨K, F, T', S', TU', P', R', C', RW', TX'⟩ a2 c2 b2 d2) (by simp)
        have HB := hide ((below_alloc' (w := w) (.cells (mL ⟨K, F, T, S, TU, P, R, C, RW, TX⟩ a1 c1 b1 d1).toArray 27)).alloc (by simp) (.cells (mL ⟨K, F, T', S', TU', P', R', C', RW', TX'⟩ a2 c2 b2 d2).toArray 27))
        have hrt : R.length = 32 := hf.root
        have hrt' : R'.length = 32 := hg.root
        have HRT := hide hrt
        have HRT' := hide hrt'
        have HA6 := hide (m6 R1)
        have HB6 := hide (m6 R2)
        have HS1 := hide s1
        have HS2 := hide s2
        have HS3 := hide s3
        have HS4 := hide s4
        have HF := hide hf
        have HG := hide hg
        have HD := hide hD
        have x0 := m0 R1
        have y0 := m0 R2
        have x1 := m1 R1
        have y1 := m1 R2
        have x2 := m2 R1
        have y2 := m2 R2
        have x3 := m3 R1
        have y3 := m3 R2
        have x4 := m4 R1
        have y4 := m4 R2
        have x5 := m5 R1
        have y5 := m5 R2
        have x38 := m38 R1 hrt
        have y38 := m38 R2 hrt'
        have x39 := m39 R1 hrt
        have y39 := m39 R2 hrt'
        have x40 := m40 R1 hrt
        have y40 := m40 R2 hrt'
        dsimp only at x0 y0 x1 y1 x2 y2 x3 y3 x4 y4 x5 y5 x38 y38 x39 y39 x40 y40 HA6 HB6
        clear R0 R1 R2 s1 s2 s3 s4 hf hg hD hrt hrt'
        go_enter Try.func41, Try.ntmps41
        go_wp2_with fail
        go_ret
        exact ⟨rfl, unhide HB⟩
    · obtain rfl : D = false := by
        cases D with
        | false => rfl
        | true => exact absurd (congrArg Msg.frm (hD.1 rfl)) h
      have hne : (F == F') = false := by simpa using h
      clear h
      have R0 := VRow.new w 27 (mL ⟨K, F, T, S, TU, P, R, C, RW, TX⟩ a1 c1 b1 d1)
      have R1 := R0.alloc (.cells (mL ⟨K, F', T', S', TU', P', R', C', RW', TX'⟩ a2 c2 b2 d2).toArray 27)
      have R2 := VRow.newAt (W := w.alloc (.cells (mL ⟨K, F, T, S, TU, P, R, C, RW, TX⟩ a1 c1 b1 d1).toArray 27)) (T := 27) (n := w.heap.size + 1) (vs := mL ⟨K, F', T', S', TU', P', R', C', RW', TX'⟩ a2 c2 b2 d2) (by simp)
      have HB := hide ((below_alloc' (w := w) (.cells (mL ⟨K, F, T, S, TU, P, R, C, RW, TX⟩ a1 c1 b1 d1).toArray 27)).alloc (by simp) (.cells (mL ⟨K, F', T', S', TU', P', R', C', RW', TX'⟩ a2 c2 b2 d2).toArray 27))
      have hrt : R.length = 32 := hf.root
      have hrt' : R'.length = 32 := hg.root
      have HRT := hide hrt
      have HRT' := hide hrt'
      have HA6 := hide (m6 R1)
      have HB6 := hide (m6 R2)
      have HS1 := hide s1
      have HS2 := hide s2
      have HS3 := hide s3
      have HS4 := hide s4
      have HF := hide hf
      have HG := hide hg
      have HD := hide hD
      have x0 := m0 R1
      have y0 := m0 R2
      have x1 := m1 R1
      have y1 := m1 R2
      have x2 := m2 R1
      have y2 := m2 R2
      have x3 := m3 R1
      have y3 := m3 R2
      have x4 := m4 R1
      have y4 := m4 R2
      have x5 := m5 R1
      have y5 := m5 R2
      have x38 := m38 R1 hrt
      have y38 := m38 R2 hrt'
      have x39 := m39 R1 hrt
      have y39 := m39 R2 hrt'
      have x40 := m40 R1 hrt
      have y40 := m40 R2 hrt'
      dsimp only at x0 y0 x1 y1 x2 y2 x3 y3 x4 y4 x5 y5 x38 y38 x39 y39 x40 y40 HA6 HB6
      clear R0 R1 R2 s1 s2 s3 s4 hf hg hD hrt hrt'
      go_enter Try.func41, Try.ntmps41
      go_wp2_with fail
      go_ret
      exact ⟨rfl, unhide HB⟩
  · obtain rfl : D = false := by
      cases D with
      | false => rfl
      | true => exact absurd (congrArg Msg.kind (hD.1 rfl)) h
    have hne : (K == K') = false := by simpa using h
    clear h
    have R0 := VRow.new w 27 (mL ⟨K, F, T, S, TU, P, R, C, RW, TX⟩ a1 c1 b1 d1)
    have R1 := R0.alloc (.cells (mL ⟨K', F', T', S', TU', P', R', C', RW', TX'⟩ a2 c2 b2 d2).toArray 27)
    have R2 := VRow.newAt (W := w.alloc (.cells (mL ⟨K, F, T, S, TU, P, R, C, RW, TX⟩ a1 c1 b1 d1).toArray 27)) (T := 27) (n := w.heap.size + 1) (vs := mL ⟨K', F', T', S', TU', P', R', C', RW', TX'⟩ a2 c2 b2 d2) (by simp)
    have HB := hide ((below_alloc' (w := w) (.cells (mL ⟨K, F, T, S, TU, P, R, C, RW, TX⟩ a1 c1 b1 d1).toArray 27)).alloc (by simp) (.cells (mL ⟨K', F', T', S', TU', P', R', C', RW', TX'⟩ a2 c2 b2 d2).toArray 27))
    have hrt : R.length = 32 := hf.root
    have hrt' : R'.length = 32 := hg.root
    have HRT := hide hrt
    have HRT' := hide hrt'
    have HA6 := hide (m6 R1)
    have HB6 := hide (m6 R2)
    have HS1 := hide s1
    have HS2 := hide s2
    have HS3 := hide s3
    have HS4 := hide s4
    have HF := hide hf
    have HG := hide hg
    have HD := hide hD
    have x0 := m0 R1
    have y0 := m0 R2
    have x1 := m1 R1
    have y1 := m1 R2
    have x2 := m2 R1
    have y2 := m2 R2
    have x3 := m3 R1
    have y3 := m3 R2
    have x4 := m4 R1
    have y4 := m4 R2
    have x5 := m5 R1
    have y5 := m5 R2
    have x38 := m38 R1 hrt
    have y38 := m38 R2 hrt'
    have x39 := m39 R1 hrt
    have y39 := m39 R2 hrt'
    have x40 := m40 R1 hrt
    have y40 := m40 R2 hrt'
    dsimp only at x0 y0 x1 y1 x2 y2 x3 y3 x4 y4 x5 y5 x38 y38 x39 y39 x40 y40 HA6 HB6
    clear R0 R1 R2 s1 s2 s3 s4 hf hg hD hrt hrt'
    go_enter Try.func41, Try.ntmps41
    go_wp2_with fail
    go_ret
    exact ⟨rfl, unhide HB⟩

theorem sameM_any (m n : Msg) (a1 b1 a2 b2 : Option Addr) (c1 d1 c2 d2 : Nat) (w : World) (hf : FewM m) (hg : FewM n) (s1 : Sl w a1 m.ctx) (s2 : RL w b1 m.rows) (s3 : Sl w a2 n.ctx) (s4 : RL w b2 n.rows) (D : Bool) (hD : D = true ↔ m = n) :
    Calls Try.prog 41 #[.agg (mL m a1 c1 b1 d1).toArray, .agg (mL n a2 c2 b2 d2).toArray] w fun e w' => e = .returned (.bool D) ∧ Below w.heap.size w w' := by
  obtain ⟨K, F, T, S, TU, P, R, C, RW, TX⟩ := m
  obtain ⟨K', F', T', S', TU', P', R', C', RW', TX'⟩ := n
  exact sameM K F T S TU P R TX C RW K' F' T' S' TU' P' R' TX' C' RW' a1 b1 a2 b2 c1 d1 c2 d2 w hf hg s1 s2 s3 s4 D hD
end Go.Proofs.Ythecijjmgfempaa
