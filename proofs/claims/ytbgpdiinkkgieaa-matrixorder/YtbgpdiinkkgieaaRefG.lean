/-
  What is merged: the document's.
-/
import Derived.Test.YtbgpdiinkkgieaaRefL
namespace Go.Proofs.Ytbgpdiinkkgieaa
open Go.RowKit

/-- What the first rows that are merged come to. -/
def mgN (rows more : List (List Vc.D)) : Nat → List (List Vc.D) × Int
  | 0 => (rows, 0)
  | i + 1 => if (mgN rows more i).2 ≠ 0 then mgN rows more i else if (learnL (mgN rows more i).1 (i : Int) (more[i]?.getD [])).2 ≠ 0 then (rows, (learnL (mgN rows more i).1 (i : Int) (more[i]?.getD [])).2) else learnL (mgN rows more i).1 (i : Int) (more[i]?.getD [])
def mergeL (rows more : List (List Vc.D)) : List (List Vc.D) × Int := if rows.length ≠ more.length then (rows, 2) else mgN rows more rows.length
theorem mgN_stuck (rows more : List (List Vc.D)) {i : Nat} (h : (mgN rows more i).2 ≠ 0) : ∀ j, i ≤ j → mgN rows more j = mgN rows more i
  | 0, hj => by rw [show i = 0 by omega]
  | j + 1, hj => by
    by_cases e : i = j + 1
    · rw [e]
    · have ih := mgN_stuck rows more h j (by omega)
      rw [mgN, ih, if_pos h]
theorem learnL_len (rows : List (List Vc.D)) (peer : Int) (v : List Vc.D) : (learnL rows peer v).1.length = rows.length := by
  unfold learnL
  split
  · rfl
  · exact List.length_set
theorem learnL_few {rows : List (List Vc.D)} (h : FewR rows) (peer : Int) (v : List Vc.D) : FewR (learnL rows peer v).1 := by
  refine ⟨by rw [learnL_len]; exact h.1, fun ds hds => ?_⟩
  unfold learnL at hds
  split at hds
  · exact h.2 ds hds
  · rcases List.mem_or_eq_of_mem_set hds with h1 | h1
    · exact h.2 ds h1
    · rw [h1]
      have := Vc.joins_len (rows[peer.toNat]?.getD []) v
      omega

set_option maxRecDepth 100000 in
set_option maxHeartbeats 1000000 in
theorem refMerge_any (O : Nat → Prop) (a b : Option Addr) (ca cb : Nat) (rows more : List (List Vc.D)) (hf : FewR rows) (hg : FewR more) (hca : rows.length ≤ ca) (w : World) (hO : ∀ g, w.heap.size ≤ g → O g) (h : RL w a rows) (hpv : RProv O w a rows) (hb : RL w b more) :
    Calls Try.prog 11 #[.slice a rows.length ca, .slice b more.length cb] w (MadeRE O w (mergeL rows more)) := by
  have HOO := hide hO
  have HPV := hide hpv
  have HS := hide h
  have HM := hide hb
  have HF := hide hf
  have HG := hide hg
  have hl := hf.1
  have hl2 := hg.1
  obtain ⟨R, hR⟩ : ∃ R, mergeL rows more = R := ⟨_, rfl⟩
  rw [hR]
  unfold mergeL at hR
  clear h hb hf hg hpv hO
  by_cases hlen : rows.length = more.length
  · rw [if_neg (by simpa using hlen)] at hR
    have hbe : ((rows.length : Int) != (more.length : Int)) = false := by simp [hlen]
    have HLEN := hide hlen
    have HR := hide hR
    clear hlen hR
    go_enter Try.func11, Try.ntmps11
    go_wp2_with fail
    go_loopw [6, 7] (fun l i wr => ∃ (k : Nat) (r : Option Addr) (c : Nat) (cur : List (List Vc.D)), k ≤ rows.length ∧ i = .int .i64 k ∧ l = .slice r rows.length c ∧ rows.length ≤ c ∧ Hid (mgN rows more k = (cur, 0) ∧ cur.length = rows.length ∧ FewR cur) ∧ RL wr r cur ∧ RProv O wr r cur ∧ Below w.heap.size w wr) (fun _ i _ => rows.length - (intOf i).toNat)
    case atStart => exact ⟨0, a, ca, rows, Nat.zero_le _, rfl, rfl, hca, hide ⟨rfl, rfl, unhide HF⟩, unhide HS, unhide HPV, Below.refl _ _⟩
    case round =>
      obtain ⟨k, r, c, cur, hk, rfl, rfl, hrc, HC, hrl, hpr, hbw⟩ := hrel
      have RPc := hide hpr
      have RLc := hide hrl
      have HB := hide hbw
      have SM := (unhide HM).after hbw
      clear hrl hbw hpr
      by_cases hlt : k < rows.length
      · have hlt2 : k < more.length := by have := unhide HLEN; omega
        obtain ⟨v, hv⟩ : ∃ d, more[k]? = some d := ⟨_, List.getElem?_eq_getElem hlt2⟩
        obtain ⟨g, o, rfl, hg, hcell⟩ := SM (by omega)
        obtain ⟨q, d, x0, h5, h6⟩ := hcell k v hv
        have K := hide (refLearn_any O r q c d cur (unhide HC).2.2 (by rw [(unhide HC).2.1]; exact hrc) (k : Int) v ((unhide HG).at hv) wr (fun g hg => unhide HOO g (Nat.le_trans (unhide HB).size hg)) (unhide RLc) (unhide RPc) h6)
        rw [(unhide HC).2.1] at K
        have HST : Hid (mgN rows more (k + 1) = if (learnL cur (k : Int) v).2 ≠ 0 then (rows, (learnL cur (k : Int) v).2) else learnL cur (k : Int) v) := hide (by rw [mgN, (unhide HC).1, hv]; simp)
        have HL : Hid ((learnL cur (k : Int) v).1.length = rows.length ∧ FewR (learnL cur (k : Int) v).1) := hide ⟨(learnL_len _ _ _).trans (unhide HC).2.1, learnL_few (unhide HC).2.2 _ _⟩
        generalize learnL cur (k : Int) v = X at K HST HL
        obtain ⟨xr, xe⟩ := X
        clear hcell hv hg h5 h6
        go_wp2_with fail
        refine (unhide K).mono ?_
        rintro e w2 ⟨r2, c2, rfl, hc2, hr2, hp2, hb2⟩
        have P2 := hide hp2
        have PS2 := hide ((unhide HPV).after (unhide HS) (below_grow (unhide HB) (Nat.le_refl _) hb2))
        have HB2 := hide (below_grow (unhide HB) (Nat.le_refl _) hb2)
        have R2 := hide hr2
        have HC2 := hide hc2
        have S2 := hide ((unhide HS).after (unhide HB2))
        clear hb2 hr2 hc2 x0 K hp2
        by_cases he : xe = 0
        · subst he
          go_wp2_with fail
          go_roundw
          case rel => exact ⟨k + 1, r2, c2, xr, by omega, by go_num, by rw [← (unhide HL).1], by rw [← (unhide HL).1]; exact unhide HC2, hide ⟨by rw [unhide HST]; simp, (unhide HL).1, (unhide HL).2⟩, unhide R2, unhide P2, unhide HB2⟩
          case measure => simp [intOf]; omega
        · have heb : (xe != 0) = true := bne_iff_ne.2 he
          have HT : Hid (R = (rows, xe)) := hide (by
            have h1 : mgN rows more (k + 1) = (rows, xe) := by rw [unhide HST, if_pos he]
            rw [← unhide HR, mgN_stuck rows more (i := k + 1) (by rw [h1]; exact he) rows.length (by omega), h1])
          clear he
          go_wp2_with fail
          rw [unhide HT]
          go_ret2
          exact ⟨a, ca, rfl, hca, unhide S2, unhide PS2, unhide HB2⟩
      · obtain rfl : k = rows.length := by omega
        have HT : Hid (R = (cur, 0)) := hide ((unhide HR).symm.trans (unhide HC).1)
        go_wp2_with fail
        rw [unhide HT]
        go_ret2
        exact ⟨r, c, by rw [(unhide HC).2.1]; rfl, by rw [(unhide HC).2.1]; exact hrc, unhide RLc, unhide RPc, unhide HB⟩
  · rw [if_pos hlen] at hR
    subst hR
    have hbe : ((rows.length : Int) != (more.length : Int)) = true := by simp; omega
    go_enter Try.func11, Try.ntmps11
    go_wp2_with fail
    go_ret2
    exact ⟨a, ca, rfl, hca, unhide HS, unhide HPV, Below.refl _ _⟩
end Go.Proofs.Ytbgpdiinkkgieaa
