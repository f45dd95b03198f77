/-
  A message's bytes: the program's; the chapter's example.
-/
import Derived.Test.YthecijjmgfempaaN1
import Derived.Test.YthecijjmgfempaaT3e
namespace Go.Proofs.Ythecijjmgfempaa
open Go.RowKit

theorem checkM_zero {m : Msg} (h : checkM m = 0) : headM m = 0 ∧ foreign m = false ∧ pathErr m.path = 0 ∧ Vc.check m.ctx = 0 ∧ m.rows.length ≤ 64 ∧ rowsErr m.rows = 0 ∧ m.text.size ≤ 65536 := by
  unfold checkM at h
  split at h
  · contradiction
  · rename_i h1
    split at h
    · exact absurd h (by omega)
    · rename_i h2
      unfold ownErr at h
      split at h
      · contradiction
      · rename_i h3
        split at h
        · contradiction
        · rename_i h4
          split at h
          · exact absurd h (by omega)
          · rename_i h5
            split at h
            · contradiction
            · rename_i h6
              split at h
              · exact absurd h (by omega)
              · rename_i h7
                exact ⟨by omega, by simpa using h2, by omega, by omega, by omega, by omega, by omega⟩
/-- A message's bytes, and why it has none. -/
def bytesM (m : Msg) : List UInt8 × Int := if checkM m ≠ 0 then ([], checkM m) else (told (wMsg ([], 0) m), (wMsg ([], 0) m).2)

set_option maxRecDepth 100000 in
set_option maxHeartbeats 1000000 in
theorem bytes_any (m : Msg) (a b : Option Addr) (c d : Nat) (w : World) (hf : FewM m) (s1 : Sl w a m.ctx) (s2 : RL w b m.rows) :
    Calls Try.prog 8 #[.agg (mL m a c b d).toArray] w fun e w' => e = .returned (.tuple #[.string (str (bytesM m).1), .int .i64 (bytesM m).2]) ∧ Below w.heap.size w w' := by
  have HR := hide (VRow.new w 27 (mL m a c b d))
  have HB := hide (below_alloc' (w := w) (.cells (mL m a c b d).toArray 27))
  have HL := hide (mL_len hf.root a c b d)
  have KC := hide (checkM_any m a b c d _ hf (s1.after (unhide HB)) (s2.after (unhide HB)))
  have HF := hide hf
  have HS1 := hide s1
  have HS2 := hide s2
  by_cases hc : checkM m = 0
  · obtain ⟨h1, _, _, _, h5, _, _⟩ := checkM_zero hc
    have hkz := headM_zero h1
    have HK := hide (show 1 ≤ m.kind ∧ m.kind ≤ 6 from ⟨hkz.1, hkz.2.1⟩)
    have HN := hide h5
    have e : bytesM m = (told (wMsg ([], 0) m), (wMsg ([], 0) m).2) := by unfold bytesM; rw [if_neg (by simp [hc])]
    rw [e]
    dsimp only
    obtain ⟨X, hX⟩ : ∃ X, wMsg ([], 0) m = X := ⟨_, rfl⟩
    rw [hX]
    have HX := hide hX
    rw [hc] at KC
    clear hX
    clear hf s1 s2 h1 h5 hkz e hc
    go_enter Try.func8, Try.ntmps8
    go_wp2_with ((with_reducible refine at27 ?_); (refine load_msg (by rfl) _ (by rfl) w.heap.size (by rfl) _ (unhide HR) (unhide HL) ?_))
    refine (unhide KC).mono ?_
    rintro e w1 ⟨rfl, hb⟩
    have HR1 := hide ((unhide HR).after hb)
    have HB1 := hide (below_grow (unhide HB) (Nat.le_refl _) hb)
    clear hb
    obtain ⟨own, hz, ho⟩ := wr_zero w1
    have HBZ := hide (below_grow (unhide HB1) (Nat.le_refl _) (below_alloc' (w := w1) (.cells zeroW 38)))
    have KT := hide (throughP_any (B := w.heap.size) hz (by simp) w (unhide HBZ) (fun g hg => Nat.le_trans (unhide HB1).size (ho g hg)) (fun h => by have h2 := ho _ h; have h3 := (unhide HR1).lt; omega) ((unhide HR1).alloc _) (unhide HF) (unhide HN) (unhide HS1) (unhide HS2) (unhide HK))
    have HO := hide ho
    rw [unhide HX] at KT
    clear hz ho
    go_wp2_with fail
    refine (unhide KT).mono ?_
    intro e w2 hm
    obtain ⟨rfl, hs⟩ := ws_of hm
    have HB2 := hide ((unhide HBZ).trans (hs.below (unhide HBZ).size fun g hg => Nat.le_trans (unhide HB1).size (unhide HO g hg)))
    obtain ⟨own1, _, hx, _, _⟩ := hs
    have KD := hide (wdone_any hx)
    clear hm hx
    go_wp2_with fail
    refine (unhide KD).mono ?_
    rintro e w3 ⟨rfl, hb⟩
    have HB3 := hide (below_grow (unhide HB2) (Nat.le_refl _) hb)
    clear hb
    go_wp2_with fail
    go_ret2
    exact ⟨rfl, unhide HB3⟩
  · have e : bytesM m = ([], checkM m) := by unfold bytesM; rw [if_pos hc]
    rw [e]
    dsimp only
    have hne : (checkM m != 0) = true := bne_iff_ne.2 hc
    generalize checkM m = V at KC hne hc ⊢
    clear hf s1 s2 e
    go_enter Try.func8, Try.ntmps8
    go_wp2_with ((with_reducible refine at27 ?_); (refine load_msg (by rfl) _ (by rfl) w.heap.size (by rfl) _ (unhide HR) (unhide HL) ?_))
    refine (unhide KC).mono ?_
    rintro e w1 ⟨rfl, hb⟩
    have HB1 := hide (below_grow (unhide HB) (Nat.le_refl _) hb)
    clear hb
    go_wp2_with fail
    go_ret2
    exact ⟨rfl, unhide HB1⟩

def exM : Msg := { zeroM with kind := 1, frm := 1, dst := 2, sid := 3 }
theorem exM_bytes : bytesM exM = ([1, 1, 2, 3], 0) := by decide +kernel
end Go.Proofs.Ythecijjmgfempaa
