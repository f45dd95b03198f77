/-
  The walk of the statement on the path that comes next, the directories below one, and how deep a tree is. Conditions: those that each theorem names.
-/
import Derived.Test.YtpfighkafmammaaE01
namespace Go.Proofs.Ytpfighkafmammaa
open Go.RowKit

set_option maxRecDepth 100000 in
set_option maxHeartbeats 2000000 in
theorem dirs_walk {TA : World → Option Addr → List En → Prop} (P : PrgW TA) (a : Option Addr) (cap : Nat) (l : List En) (hl : l.length ≤ 9223372036854775807) (he : ∀ x ∈ l, EnOk x) (d s : ByteArray) (hd : d.size ≤ 9223372036854775807) (hs : s.size ≤ 9223372036854775807) (w : World) (h : EL w a l) :
    Calls Try.prog 4 #[.slice a l.length cap, .string d, .string s] w fun e w' => e = .returned (.bool true) ∧ Below w.heap.size w w' := by
  have HS := hide h
  have HOK := hide he
  have HP := hide P
  have KG := hide fun W (h : EL W a l) => greatE_any a cap l 20 (by omega) hl (fun x hx => (he x hx).1) W h
  have KA := hide fun W => awake16_any P W
  clear h he P
  go_enter Try.func4, Try.ntmps4
  go_wp2_with fail
  refine (unhide KG w (unhide HS)).mono ?_
  rintro e w1 ⟨D, rfl, hD, hb⟩
  have HB1 := hide hb
  have HS1 := hide ((unhide HS).after hb)
  clear hb KG
  cases D with
  | true =>
    clear hD
    go_wp2_with fail
    refine (unhide KA w1).mono ?_
    rintro e w2 ⟨rfl, hb⟩
    have HB2 := hide (below_grow (unhide HB1) (Nat.le_refl _) hb)
    clear hb
    go_wp2_with fail
    go_ret
    exact ⟨rfl, unhide HB2⟩
  | false =>
    have HEOK := hide (eok_of16 (hD rfl) (by omega) (unhide HOK))
    clear hD
    by_cases hbig : 200 < d.size
    · have hbd : decide ((200 : Int) < ((d.size : Nat) : Int)) = true := decide_eq_true (by omega)
      go_wp2_with fail
      refine (unhide KA w1).mono ?_
      rintro e w2 ⟨rfl, hb⟩
      have HB2 := hide (below_grow (unhide HB1) (Nat.le_refl _) hb)
      clear hb
      go_wp2_with fail
      go_ret
      exact ⟨rfl, unhide HB2⟩
    · have hbd : decide ((200 : Int) < ((d.size : Nat) : Int)) = false := decide_eq_false (by omega)
      by_cases hbig2 : 200 < s.size
      · have hbd2 : decide ((200 : Int) < ((s.size : Nat) : Int)) = true := decide_eq_true (by omega)
        go_wp2_with fail
        refine (unhide KA w1).mono ?_
        rintro e w2 ⟨rfl, hb⟩
        have HB2 := hide (below_grow (unhide HB1) (Nat.le_refl _) hb)
        clear hb
        go_wp2_with fail
        go_ret
        exact ⟨rfl, unhide HB2⟩
      · have hbd2 : decide ((200 : Int) < ((s.size : Nat) : Int)) = false := decide_eq_false (by omega)
        have HDS : Hid (d.size ≤ 200) := hide (by omega)
        have HSS : Hid (s.size ≤ 200) := hide (by omega)
        have KP := hide ((unhide HP).of a cap l (unhide HEOK) w1 (unhide HS1))
        have KR := hide fun W h => refOf_any a cap l (unhide HEOK) W h
        have HTR := hide (ofT_tr l)
        generalize ofT l = R at KP KR HTR
        obtain ⟨T, E⟩ := R
        dsimp only at KP KR HTR
        clear hbig hbig2 hd hs HOK HEOK
        go_wp2_with fail
        refine (unhide KP).mono ?_
        rintro e w2 ⟨q, rfl, ht2, hb⟩
        have HB2 := hide (below_grow (unhide HB1) (Nat.le_refl _) hb)
        have HS2 := hide ((unhide HS1).after hb)
        have HT2 := hide ht2
        clear hb ht2 KP HB1 HS1
        go_wp2_with fail
        refine (unhide KR w2 (unhide HS2)).mono ?_
        rintro e w3 ⟨r, c, rfl, _, hel, hb⟩
        have HP3 := hide (show StW TA w q r T w3 from ⟨below_grow (unhide HB2) (Nat.le_refl _) hb, (unhide HP).after (unhide HT2) hb, hel⟩)
        clear hb hel KR HB2 HS2 HT2 hbd hbd2
        have KN1 := hide fun W (h : StW TA w q r T W) => (unhide HP).next q T s (unhide HTR) (unhide HSS) W h.t
        have KN2 := hide fun W (h : StW TA w q r T W) => refList_any r c T (unhide HTR).eok ⟨#[]⟩ s (by decide) (Nat.le_trans (unhide HSS) (by omega)) 1 W h.m
        have KD1 := hide fun W (h : StW TA w q r T W) => (unhide HP).dirs q T d (unhide HTR) (unhide HDS) W h.t
        have KD2 := hide fun W (h : StW TA w q r T W) => refDirs_any r c T (unhide HTR).eok d (Nat.le_trans (unhide HDS) (by omega)) W h.m
        have KE1 := hide fun W (h : StW TA w q r T W) => (unhide HP).depth q T (unhide HTR) W h.t
        have KE2 := hide fun W (h : StW TA w q r T W) => refDepth_any r c T (unhide HTR).eok W h.m
        have HDL : Hid ((dirsT T d).length ≤ 100000) := hide (by have h1 := dirs_len d (belowAll T d) []; have h2 := list_len T d ⟨#[]⟩ T.length; have h3 := (unhide HTR).few; unfold dirsT; unfold belowAll at h1 ⊢; simp only [List.length_nil] at h1; omega)
        have hl1 : (listT T ⟨#[]⟩ s 1).length ≤ 1 := by rw [list_eq, List.length_take]; exact Nat.min_le_left _ _
        unfold nextT at KN1
        generalize listT T ⟨#[]⟩ s 1 = NL at KN1 KN2 hl1
        generalize dirsT T d = DL at KD1 KD2 HDL
        generalize depthT T = DT at KE1 KE2
        have KSD := hide fun a1 b1 c1 c2 W h1 h2 => sameTexts_any a1 b1 c1 c2 DL DL (unhide HDL) (unhide HDL) W h1 h2 true (by simp)
        clear HDL
        have hc : NL = [] ∨ ∃ x, NL = [x] := by
          cases NL with
          | nil => exact .inl rfl
          | cons x L => cases L with
            | nil => exact .inr ⟨x, rfl⟩
            | cons y M => simp at hl1
        clear hl1
        rcases hc with rfl | ⟨x, rfl⟩
        · dsimp only [List.getElem?_nil, List.getElem?_cons_zero] at KN1
          go_wp2_with fail
          refine (unhide KN1 w3 (unhide HP3)).mono ?_
          rintro e w4 ⟨rfl, hb⟩
          have HP4 := hide (StW.after (unhide HP) (unhide HP3) hb)
          clear hb
          go_wp2_with fail
          refine (unhide KN2 w4 (unhide HP4)).mono ?_
          rintro e w5 ⟨r4, c4, rfl, _, _, hb⟩
          have HP5 := hide (StW.after (unhide HP) (unhide HP4) hb)
          clear hb
          go_wp2_with fail
          refine (unhide KD1 w5 (unhide HP5)).mono ?_
          rintro e w6 ⟨a4, c7, rfl, _, hs4, _, hb⟩
          have HP6 := hide (StW.after (unhide HP) (unhide HP5) hb)
          have HD4 := hide hs4
          clear hs4
          clear hb
          go_wp2_with fail
          refine (unhide KD2 w6 (unhide HP6)).mono ?_
          rintro e w7 ⟨a5, c8, rfl, _, hs5, _, hb⟩
          have HP7 := hide (StW.after (unhide HP) (unhide HP6) hb)
          have HD4 := hide ((unhide HD4).after hb)
          have HD5 := hide hs5
          clear hs5
          clear hb
          go_wp2_with fail
          refine (unhide KSD a4 a5 c7 c8 w7 (unhide HD4) (unhide HD5)).mono ?_
          rintro e w8 ⟨rfl, hb⟩
          have HP8 := hide (StW.after (unhide HP) (unhide HP7) hb)
          clear hb
          go_wp2_with fail
          refine (unhide KE1 w8 (unhide HP8)).mono ?_
          rintro e w9 ⟨rfl, hb⟩
          have HP9 := hide (StW.after (unhide HP) (unhide HP8) hb)
          clear hb
          go_wp2_with fail
          refine (unhide KE2 w9 (unhide HP9)).mono ?_
          rintro e w10 ⟨rfl, hb⟩
          have HP10 := hide (StW.after (unhide HP) (unhide HP9) hb)
          clear hb
          go_wp2_with fail
          refine (unhide KA w10).mono ?_
          rintro e w11 ⟨rfl, hb⟩
          have HP11 := hide (StW.after (unhide HP) (unhide HP10) hb)
          clear hb
          go_wp2_with fail
          go_ret
          exact ⟨by first | rfl | simp, (unhide HP11).b⟩
        · dsimp only [List.getElem?_nil, List.getElem?_cons_zero] at KN1
          go_wp2_with fail
          refine (unhide KN1 w3 (unhide HP3)).mono ?_
          rintro e w4 ⟨rfl, hb⟩
          have HP4 := hide (StW.after (unhide HP) (unhide HP3) hb)
          clear hb
          go_wp2_with fail
          refine (unhide KN2 w4 (unhide HP4)).mono ?_
          rintro e w5 ⟨r4, c4, rfl, _, hel, hb⟩
          have HP5 := hide (StW.after (unhide HP) (unhide HP4) hb)
          obtain ⟨g4, o4, rfl, hg4, hcell⟩ := hel (by simp)
          obtain ⟨q5, c5, x0, _, _, _⟩ := hcell 0 x rfl
          rw [Nat.zero_mul, Nat.add_zero] at x0
          have hst := same_text x.1 x.1
          rw [decide_eq_true rfl] at hst
          clear hel hcell hg4
          clear hb
          go_wp2_with fail
          refine (unhide KD1 w5 (unhide HP5)).mono ?_
          rintro e w6 ⟨a4, c7, rfl, _, hs4, _, hb⟩
          have HP6 := hide (StW.after (unhide HP) (unhide HP5) hb)
          have HD4 := hide hs4
          clear hs4
          clear x0 hst
          clear hb
          go_wp2_with fail
          refine (unhide KD2 w6 (unhide HP6)).mono ?_
          rintro e w7 ⟨a5, c8, rfl, _, hs5, _, hb⟩
          have HP7 := hide (StW.after (unhide HP) (unhide HP6) hb)
          have HD4 := hide ((unhide HD4).after hb)
          have HD5 := hide hs5
          clear hs5
          clear hb
          go_wp2_with fail
          refine (unhide KSD a4 a5 c7 c8 w7 (unhide HD4) (unhide HD5)).mono ?_
          rintro e w8 ⟨rfl, hb⟩
          have HP8 := hide (StW.after (unhide HP) (unhide HP7) hb)
          clear hb
          go_wp2_with fail
          refine (unhide KE1 w8 (unhide HP8)).mono ?_
          rintro e w9 ⟨rfl, hb⟩
          have HP9 := hide (StW.after (unhide HP) (unhide HP8) hb)
          clear hb
          go_wp2_with fail
          refine (unhide KE2 w9 (unhide HP9)).mono ?_
          rintro e w10 ⟨rfl, hb⟩
          have HP10 := hide (StW.after (unhide HP) (unhide HP9) hb)
          clear hb
          go_wp2_with fail
          refine (unhide KA w10).mono ?_
          rintro e w11 ⟨rfl, hb⟩
          have HP11 := hide (StW.after (unhide HP) (unhide HP10) hb)
          clear hb
          go_wp2_with fail
          go_ret
          exact ⟨by first | rfl | simp, (unhide HP11).b⟩
end Go.Proofs.Ytpfighkafmammaa
