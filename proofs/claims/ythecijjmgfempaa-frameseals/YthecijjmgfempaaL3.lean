/-
  The walk of a law: which frame a message has.
-/
import Derived.Test.YthecijjmgfempaaL1
import Derived.Test.YthecijjmgfempaaS2
namespace Go.Proofs.Ythecijjmgfempaa
open Go.RowKit
set_option maxRecDepth 100000 in
set_option maxHeartbeats 2000000 in
theorem seals_walk (m : Msg) (a b : Option Addr) (c d : Nat) (hr : m.root.length = 32) (hn : m.rows.length ≤ 9223372036854775807) (w : World) (s1 : Sl w a m.ctx) (s2 : RL w b m.rows) :
    Calls Try.prog 3 #[.agg (mL m a c b d).toArray] w fun e w' => e = .returned (.bool true) ∧ Below w.heap.size w w' := by
  have HR := hide (VRow.new w 27 (mL m a c b d))
  have HB := hide (below_alloc' (w := w) (.cells (mL m a c b d).toArray 27))
  have HL := hide (mL_len hr a c b d)
  have HS1 := hide (s1.after (unhide HB))
  have HS2 := hide (s2.after (unhide HB))
  have KG := hide (great_any m a b c d _ hr hn (unhide HS2))
  obtain ⟨G, hG⟩ : ∃ G, greatM m = G := ⟨_, rfl⟩
  rw [hG] at KG
  cases G with
  | true =>
    clear hr hn s1 s2 hG
    generalize mL m a c b d = L at *
    go_enter Try.func3, Try.ntmps3
    go_wp2_with ((with_reducible refine at27 ?_); (refine load_msg (by rfl) (.tmp 1) (by rfl) w.heap.size (by rfl) _ (unhide HR) (unhide HL) ?_))
    refine (unhide KG).mono ?_
    rintro e w1 ⟨rfl, hb⟩
    have HB1 := hide (below_grow (unhide HB) (Nat.le_refl _) hb)
    clear hb
    go_wp2_with fail
    refine (awake_any _).mono ?_
    rintro e w2 ⟨rfl, hb⟩
    have HB2 := hide (below_grow (unhide HB1) (Nat.le_refl _) hb)
    clear hb
    go_wp2_with fail
    go_ret
    exact ⟨rfl, unhide HB2⟩
  | false =>
    have hf := few_of hG hr
    obtain ⟨g1, g2, g3, g4, g5⟩ := greatM_no hG
    have K1 := hide fun W h1 h2 => seal_any m a b c d W hf (bytesM_len m hr g1) h1 h2
    have K2 := hide fun W h1 h2 => refSeal_any m a b c d W hf (bytesM_len m hr g1) g1 g3 h1 h2
    generalize sealF m = X at K1 K2
    obtain ⟨s, E⟩ := X
    dsimp only at K1 K2
    generalize str s = S at K1 K2
    clear hr hn s1 s2 hG hf g1 g2 g3 g4 g5
    generalize mL m a c b d = L at *
    go_enter Try.func3, Try.ntmps3
    go_wp2_with ((with_reducible refine at27 ?_); (refine load_msg (by rfl) (.tmp 1) (by rfl) w.heap.size (by rfl) _ (unhide HR) (unhide HL) ?_))
    refine (unhide KG).mono ?_
    rintro e w1 ⟨rfl, hb⟩
    have HB1 := hide (below_grow (unhide HB) (Nat.le_refl _) hb)
    have HR1 := hide ((unhide HR).after hb)
    have HT1 := hide ((unhide HS1).after hb)
    have HT2 := hide ((unhide HS2).after hb)
    clear hb
    go_wp2_with ((with_reducible refine at27 ?_); (refine load_msg (by rfl) (.tmp 1) (by rfl) w.heap.size (by rfl) _ (unhide HR1) (unhide HL) ?_))
    refine (unhide K1 _ (unhide HT1) (unhide HT2)).mono ?_
    rintro e w2 ⟨rfl, hb⟩
    have HB2 := hide (below_grow (unhide HB1) (Nat.le_refl _) hb)
    have HR2 := hide ((unhide HR1).after hb)
    have HU1 := hide ((unhide HT1).after hb)
    have HU2 := hide ((unhide HT2).after hb)
    clear hb
    go_wp2_with ((with_reducible refine at27 ?_); (refine load_msg (by rfl) (.tmp 1) (by rfl) w.heap.size (by rfl) _ (unhide HR2) (unhide HL) ?_))
    refine (unhide K2 _ (unhide HU1) (unhide HU2)).mono ?_
    rintro e w3 ⟨rfl, hb⟩
    have HB3 := hide (below_grow (unhide HB2) (Nat.le_refl _) hb)
    clear hb
    go_wp2_with fail
    refine (awake_any _).mono ?_
    rintro e w4 ⟨rfl, hb⟩
    have HB4 := hide (below_grow (unhide HB3) (Nat.le_refl _) hb)
    clear hb
    go_wp2_with fail
    go_ret
    exact ⟨rfl, unhide HB4⟩
end Go.Proofs.Ythecijjmgfempaa
