/-
  A message's frame: the document's Seal.
-/
import Derived.Test.YthecijjmgfempaaS1
import Derived.Test.YthecijjmgfempaaW1
namespace Go.Proofs.Ythecijjmgfempaa
open Go.RowKit

theorem told_len (st : St) : (told st).length ≤ st.1.length := by
  unfold told
  split
  · exact Nat.zero_le _
  · exact Nat.le_refl _
theorem wMsg_len (m : Msg) (hr : m.root.length = 32) (hn : m.rows.length ≤ 70) : (wMsg ([], 0) m).1.length ≤ 1000000 := by
  have h0 := wHead_len ([], 0) m
  have h1 := wDigest_len (wHead ([], 0) m) hr
  unfold wMsg
  split
  · have h2 := wVec_len (wDigest (wHead ([], 0) m) m.root) m.ctx
    have h3 := wRows_len (wVec (wDigest (wHead ([], 0) m) m.root) m.ctx) m.rows
    simp only [List.length_nil] at h0
    omega
  · split
    · have h2 := (wText_len (wDigest (wHead ([], 0) m) m.root) m.path).1
      simp only [List.length_nil] at h0
      omega
    · split
      · have h2 := (wText_len (wHead ([], 0) m) m.path).1
        have h3 := (wText_len (wText (wHead ([], 0) m) m.path) m.text).1
        simp only [List.length_nil] at h0
        omega
      · split
        · have h2 := wFlag_len (wHead ([], 0) m) m.turn
          simp only [List.length_nil] at h0
          omega
        · simp only [List.length_nil] at h0
          omega
theorem bytesM_len (m : Msg) (hr : m.root.length = 32) (hn : m.rows.length ≤ 70) : (bytesM m).1.length ≤ 1000000 := by
  unfold bytesM
  split
  · exact Nat.zero_le _
  · exact Nat.le_trans (told_len _) (wMsg_len m hr hn)

set_option maxRecDepth 100000 in
set_option maxHeartbeats 1000000 in
theorem refSeal_any (m : Msg) (a b : Option Addr) (c d : Nat) (w : World) (hf : FewM m) (hn : (bytesM m).1.length ≤ 1000000) (hn1 : m.rows.length ≤ 70) (hn2 : m.text.size ≤ 70000) (s1 : Sl w a m.ctx) (s2 : RL w b m.rows) :
    Calls Try.prog 7 #[.agg (mL m a c b d).toArray] w fun e w' => e = .returned (.tuple #[.string (str (sealF m).1), .int .i64 (sealF m).2]) ∧ Below w.heap.size w w' := by
  have HR := hide (VRow.new w 27 (mL m a c b d))
  have HB := hide (below_alloc' (w := w) (.cells (mL m a c b d).toArray 27))
  have HL := hide (mL_len hf.root a c b d)
  have KB := hide (refBytes_any m a b c d _ hf hn1 hn2 (s1.after (unhide HB)) (s2.after (unhide HB)))
  unfold sealF
  generalize bytesM m = X at KB hn ⊢
  obtain ⟨l, E⟩ := X
  dsimp only at KB hn ⊢
  clear hf s1 s2 hn1 hn2
  by_cases hE : E = 0
  · subst hE
    rw [if_neg (by simp)]
    have hz := str_size l
    have hp : (ByteArray.mk (Cnt.putL (l.length : Int)).toArray).size ≤ 5 := by
      have h := Cnt.putL_len (l.length : Int)
      rw [ByteArray.size_mk', List.size_toArray]
      exact h
    have hp3 : (ByteArray.mk #[104, 115, 1]).size = 3 := rfl
    have KS := hide fun W => Cr.refSeal_any ((ByteArray.mk #[104, 115, 1] ++ ByteArray.mk (Cnt.putL (l.length : Int)).toArray) ++ str l) (by rw [ByteArray.size_append, ByteArray.size_append]; omega) W
    rw [cat_putF] at KS
    have hcat : ¬ ((ByteArray.mk #[104, 115, 1] ++ ByteArray.mk (Cnt.putL (l.length : Int)).toArray).size + (str l).size > 9223372036854775807) := by rw [ByteArray.size_append]; omega
    have hlen : ((str l).size : Int) = (l.length : Int) := by rw [hz]
    go_enter Try.func7, Try.ntmps7
    go_wp2_with ((with_reducible refine at27 ?_); (refine load_msg (by rfl) (.tmp 1) (by rfl) w.heap.size (by rfl) _ (unhide HR) (unhide HL) ?_))
    refine (unhide KB).mono ?_
    rintro e w1 ⟨rfl, hb⟩
    have HB1 := hide (below_grow (unhide HB) (Nat.le_refl _) hb)
    clear hb
    go_wp2_with fail
    refine (refPut_all (l.length : Int) w1).mono ?_
    rintro e w2 ⟨rfl, hb⟩
    have HB2 := hide (below_grow (unhide HB1) (Nat.le_refl _) hb)
    clear hb
    go_wp2_with fail
    refine (KS _).mono ?_
    rintro e w3 ⟨rfl, hb⟩
    have HB3 := hide (below_grow (unhide HB2) (Nat.le_refl _) hb)
    clear hb
    go_wp2_with fail
    go_ret2
    exact ⟨rfl, unhide HB3⟩
  · have hne : (E != 0) = true := bne_iff_ne.2 hE
    rw [if_pos hE]
    go_enter Try.func7, Try.ntmps7
    go_wp2_with ((with_reducible refine at27 ?_); (refine load_msg (by rfl) (.tmp 1) (by rfl) w.heap.size (by rfl) _ (unhide HR) (unhide HL) ?_))
    refine (unhide KB).mono ?_
    rintro e w1 ⟨rfl, hb⟩
    have HB1 := hide (below_grow (unhide HB) (Nat.le_refl _) hb)
    clear hb
    go_wp2_with fail
    go_ret2
    exact ⟨rfl, unhide HB1⟩
end Go.Proofs.Ythecijjmgfempaa
