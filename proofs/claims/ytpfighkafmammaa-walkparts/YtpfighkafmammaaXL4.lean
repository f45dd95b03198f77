/-
  The walk of the statement on what is right below a directory and below its directories. Conditions: those that each theorem names.
-/
import Derived.Test.YtpfighkafmammaaE01
namespace Go.Proofs.Ytpfighkafmammaa
open Go.RowKit

def cntR (K : Nat) (l : List En) : Nat := (l.filter fun x => decide ((partsE x.1).length = K + 1)).length
theorem cntR_snoc (K : Nat) (l : List En) (j : Nat) (x : En) (h : l[j]? = some x) : cntR K (l.take (j + 1)) = cntR K (l.take j) + if (partsE x.1).length = K + 1 then 1 else 0 := by
  unfold cntR
  rw [List.take_add_one, h, List.filter_append, List.length_append]
  by_cases e : (partsE x.1).length = K + 1 <;> simp [e]
def sumR (T : List En) (d : ByteArray) (l : List ByteArray) : Nat := (l.map fun s => (belowAll T (downE d s)).length).sum
theorem sumR_snoc (T : List En) (d : ByteArray) (l : List ByteArray) (j : Nat) (s : ByteArray) (h : l[j]? = some s) : sumR T d (l.take (j + 1)) = sumR T d (l.take j) + (belowAll T (downE d s)).length := by
  unfold sumR
  rw [List.take_add_one, h]
  simp
theorem sumR_le (T : List En) (d : ByteArray) (l : List ByteArray) (j : Nat) : sumR T d (l.take j) ≤ sumR T d l := by
  unfold sumR
  conv => rhs; rw [← List.take_append_drop j l, List.map_append, List.sum_append]
  omega

set_option maxRecDepth 100000 in
set_option maxHeartbeats 2000000 in
theorem parts_step {TA : World → Option Addr → List En → Prop} (P : PrgW TA) (q : Option Addr) (T : List En) (hT : Tr T) (d : ByteArray) (hd : d.size ≤ 51) (K : Nat) (hK : (partsE d).length = K) (w : World) (h : TA w q T)
    (ih : ∀ s ∈ dirsT T d, ∀ W, TA W q T → Calls Try.prog 24 #[.pointer q, .string (downE d s), .int .i64 ((K : Int) + 1)] W fun e w' => e = .returned (.bool true) ∧ Below W.heap.size W w') :
    Calls Try.prog 24 #[.pointer q, .string d, .int .i64 K] w fun e w' => e = .returned (.bool true) ∧ Below w.heap.size w w' := by
  have hk4 : K ≤ 4 := by rw [← hK]; exact Pth.Pt.parts_le _
  have HT := hide hT
  have HA := hide h
  have HAF := hide P
  have KD := hide (P.dirs q T d hT (by omega) w h)
  have KU := hide fun d' (hd' : d'.size ≤ 51) W h => P.under q T d' hT (by omega) W h
  have KP := hide fun x (hx : x.size ≤ 1000) W => Pth.refParts_any x hx W
  have HPC : Hid (cntR K (belowAll T d) + sumR T d (dirsT T d) = (belowAll T d).length) := hide (by unfold cntR sumR; rw [← hK]; exact parts_count hT d)
  have HUP : Hid (∀ x ∈ belowAll T d, x.1.size ≤ 51) := hide fun x hx => path_size (hT.path x (list_mem x hx))
  have HUL : Hid ((belowAll T d).length ≤ 128) := hide (Nat.le_trans (list_len _ _ _ _) hT.few)
  have HIH := hide fun s (hs : s ∈ dirsT T d) => And.intro (And.intro (dirs_pos hT hs) (And.intro (path_size (path_down (dirs_below hT hs).1 (dirs_below hT hs).2.1 (by have := (dirs_below hT hs).2.2.2; omega))) (show s.size ≤ 1000 by have := path_size (path_down (d := ⟨#[]⟩) (.inl rfl) (dirs_below hT hs).2.1 (by decide)); have e : downE ⟨#[]⟩ s = s := if_pos rfl; rw [e] at this; omega))) (ih s hs)
  have hdl : (dirsT T d).length ≤ 128 := by have h1 := dirs_len d (belowAll T d) []; have h2 := unhide HUL; unfold dirsT; simp only [List.length_nil] at h1; omega
  have HSS := hide (sumR_snoc T d)
  have HSL := hide (sumR_le T d (dirsT T d))
  have KUd := hide fun W h => P.under q T d hT (by omega) W h
  generalize dirsT T d = DL at KD HPC HIH HSL hdl
  generalize belowAll T d = UL at KUd HPC HUP HUL
  have HSZ : Hid (sumR T d [] = 0) := hide rfl
  have HCZ : Hid (cntR K [] = 0) := hide rfl
  have HCS := hide (cntR_snoc K UL)
  have HCL := hide fun j => (show cntR K (UL.take j) ≤ j from Nat.le_trans (List.length_filter_le _ _) (by rw [List.length_take]; exact Nat.min_le_left _ _))
  have hdk : decide ((5 : Int) < ((K : Nat) : Int)) = false := decide_eq_false (by omega)
  clear ih hT h P hK
  go_enter Try.func24, Try.ntmps24
  go_wp2_with fail
  refine (unhide KD).mono ?_
  rintro e w1 ⟨a8, c8, rfl, hc8, hs8, _, hb⟩
  have HB1 := hide hb
  have HS1 := hide hs8
  have HA1 := hide ((unhide HAF).after (unhide HA) hb)
  clear hb hs8 KD
  go_wp2_with fail
  refine (unhide KUd w1 (unhide HA1)).mono ?_
  rintro e w2 ⟨r9, c9, rfl, hc9, hel, hb⟩
  have HB2 := hide (below_grow (unhide HB1) (Nat.le_refl _) hb)
  have HS2 := hide ((unhide HS1).after hb)
  have HA2 := hide ((unhide HAF).after (unhide HA1) hb)
  have HE2 := hide hel
  clear hb hel KUd HA1 HS1 HB1
  have hul := unhide HUL
  go_wp2_with fail
  go_loopw [7, 10] (fun v i wr => ∃ k : Nat, k ≤ UL.length ∧ i = .int .i64 k ∧ v = .int .i64 (cntR K (UL.take k) : Nat) ∧ Below w2.heap.size w2 wr) (fun _ i _ => UL.length - (intOf i).toNat)
  case atStart => exact ⟨0, Nat.zero_le _, rfl, by rw [List.take_zero, unhide HCZ]; rfl, Below.refl _ _⟩
  case round =>
    obtain ⟨k, hk, rfl, rfl, hb⟩ := hrel
    have HB := hide hb
    by_cases hlt : k < UL.length
    · obtain ⟨x, hx⟩ : ∃ d, UL[k]? = some d := ⟨_, List.getElem?_eq_getElem hlt⟩
      obtain ⟨g0, o0, e0, hg0, hcell0⟩ := unhide HE2 (by omega)
      subst e0
      obtain ⟨q5, c5, y0, _, _, _⟩ := hcell0 k x hx
      have x0 := (hb.cell (p := ⟨g0, o0 + k * 2, none⟩) hg0).trans y0
      have HSN := hide (unhide HCS k x hx)
      have hcl := unhide HCL k
      have hpx := unhide HUP x (List.mem_of_getElem? hx)
      have HPE : Hid (partsE x.1 = Pth.Pt.parts x.1.data.toList) := hide rfl
      generalize cntR K (UL.take k) = N at HSN hcl
      clear hcell0 hx y0 hg0 hb
      go_wp2_with fail
      refine (unhide KP x.1 (by omega) _).mono ?_
      rintro e w3 ⟨a3, c3, bs, rfl, hbs, hc3, _, hb⟩
      have HB3 := hide (below_grow (unhide HB) (Nat.le_refl _) hb)
      have HBS : Hid ((partsE x.1).length = bs.length) := hide (by rw [unhide HPE, ← hbs, Pth.size_lists])
      rw [unhide HBS] at HSN
      clear hb hbs HPE HBS
      by_cases he : bs.length = K + 1
      · have hbe : (((bs.length : Nat) : Int) == ((K : Nat) : Int) + 1) = true := beq_iff_eq.2 (by omega)
        rw [if_pos he] at HSN
        clear he
        go_wp2_with fail
        go_roundw
        case rel => exact ⟨k + 1, by omega, by go_num, by rw [unhide HSN]; go_num, unhide HB3⟩
        case measure => simp [intOf]; omega
      · have hbe : (((bs.length : Nat) : Int) == ((K : Nat) : Int) + 1) = false := beq_eq_false_iff_ne.2 (by omega)
        rw [if_neg he] at HSN
        clear he
        go_wp2_with fail
        go_roundw
        case rel => exact ⟨k + 1, by omega, by go_num, by rw [unhide HSN]; rfl, unhide HB3⟩
        case measure => simp [intOf]; omega
    · obtain rfl : k = UL.length := by omega
      have hpc := unhide HPC
      have hcl := unhide HCL UL.length
      rw [List.take_length] at hcl ⊢
      generalize cntR K UL = N1 at hpc hcl ⊢
      have HPC2 := hide hpc
      have HBw := hide (below_grow (unhide HB2) (Nat.le_refl _) hb)
      have HAw := hide ((unhide HAF).after (unhide HA2) hb)
      have HSw := hide ((unhide HS2).after hb)
      clear hb hlt hk HPC HE2
      obtain ⟨wz, hwz⟩ : ∃ wz : World, wz = wr := ⟨_, rfl⟩
      subst hwz
      go_wp2_with fail
      go_loopw [7, 11] (fun v i wr => ∃ j : Nat, j ≤ DL.length ∧ i = .int .i64 j ∧ v = .int .i64 (N1 + sumR T d (DL.take j) : Nat) ∧ Below wz.heap.size wz wr) (fun _ i _ => DL.length - (intOf i).toNat)
      case atStart => exact ⟨0, Nat.zero_le _, rfl, by rw [List.take_zero, unhide HSZ]; rfl, Below.refl _ _⟩
      case round =>
        obtain ⟨j, hj, rfl, rfl, hb⟩ := hrel
        have HB := hide hb
        have HAr := hide ((unhide HAF).after (unhide HAw) hb)
        have hsl := unhide HSL j
        by_cases hlt : j < DL.length
        · obtain ⟨s, hs⟩ : ∃ d, DL[j]? = some d := ⟨_, List.getElem?_eq_getElem hlt⟩
          obtain ⟨g0, o0, e0, hg0, hcell0⟩ := unhide HSw (by omega)
          subst e0
          have x0 := (hb.cell (p := ⟨g0, o0 + j, none⟩) hg0).trans (hcell0 j s hs)
          have HSN := hide (unhide HSS DL j s hs)
          have hsl2 := unhide HSL (j + 1)
          obtain ⟨⟨hne, hsz, hss⟩, hcall⟩ := unhide HIH s (List.mem_of_getElem? hs)
          have HNE := hide hne
          have HCALL := hide hcall
          have KDn := hide fun W => refDown_any d s (by omega) (by omega) W
          have KUn := hide fun W h => unhide KU (downE d s) hsz W h
          rw [unhide HSN] at hsl2
          generalize sumR T d (DL.take j) = S at HSN hsl hsl2
          generalize downE d s = E at KDn KUn HCALL HNE HSN hsl2
          generalize belowAll T E = B at KUn HNE HSN hsl2
          obtain ⟨nB, hnB⟩ : ∃ nB, B.length = nB := ⟨_, rfl⟩
          have hn0 : nB ≠ 0 := fun e => unhide HNE (List.eq_nil_of_length_eq_zero (hnB.trans e))
          have HNB := hide hnB
          rw [hnB] at HSN hsl2
          clear hcell0 hs hb hne hcall hg0 hsz hss hnB
          go_wp2_with fail
          refine (unhide KDn _).mono ?_
          rintro e w5 ⟨rfl, hw5⟩
          have hw5' := hw5.symm
          subst hw5'
          clear hw5 x0
          go_wp2_with fail
          refine (unhide KUn _ (unhide HAr)).mono ?_
          rintro e w6 ⟨r6, c6, rfl, _, _, hb⟩
          have HB6 := hide (below_grow (unhide HB) (Nat.le_refl _) hb)
          have HA6 := hide ((unhide HAF).after (unhide HAr) hb)
          have hbn : (((nB : Nat) : Int) == 0) = false := beq_eq_false_iff_ne.2 (by omega)
          rw [unhide HNB]
          clear hb KDn KUn
          go_wp2_with fail
          refine (unhide HCALL _ (unhide HA6)).mono ?_
          rintro e w7 ⟨rfl, hb⟩
          have HB7 := hide (below_grow (unhide HB6) (Nat.le_refl _) hb)
          clear hb HCALL
          go_wp2_with fail
          go_roundw
          case rel => exact ⟨j + 1, by omega, by go_num, by rw [unhide HSN]; go_num, unhide HB7⟩
          case measure => simp [intOf]; omega
        · obtain rfl : j = DL.length := by omega
          have hpe := unhide HPC2
          rw [List.take_length] at hsl ⊢
          generalize sumR T d DL = S at hpe hsl ⊢
          have hbe : (((N1 + S : Nat) : Int) == ((UL.length : Nat) : Int)) = true := beq_iff_eq.2 (by omega)
          have HBE := hide hpe
          have HBf := hide (below_grow (unhide HBw) (Nat.le_refl _) hb)
          clear hb hpe hbe
          rw [unhide HBE]
          go_wp2_with fail
          refine bodyPost_ret (results_tmp rfl _ _ _) rfl ⟨by first | rfl | simp, unhide HBf⟩
theorem parts_any {TA : World → Option Addr → List En → Prop} (P : PrgW TA) (q : Option Addr) (T : List En) (hT : Tr T) : ∀ (f : Nat) (d : ByteArray), 4 ≤ (partsE d).length + f → d.size ≤ 51 → ∀ (w : World), TA w q T →
    Calls Try.prog 24 #[.pointer q, .string d, .int .i64 (partsE d).length] w fun e w' => e = .returned (.bool true) ∧ Below w.heap.size w w'
  | 0, d, h4, hd, w, h => parts_step P q T hT d hd _ rfl w h fun s hs => by
      have := (dirs_below hT hs).2.2.2
      omega
  | f + 1, d, h4, hd, w, h => parts_step P q T hT d hd _ rfl w h fun s hs W h' => by
      obtain ⟨h1, h2, h3, h5⟩ := dirs_below hT hs
      have hl : (partsE (downE d s)).length = (partsE d).length + 1 := by rw [h3, List.length_append]; rfl
      have hc := parts_any P q T hT f (downE d s) (by omega) (path_size (path_down h1 h2 (by omega))) W h'
      rw [hl] at hc
      exact hc

set_option maxRecDepth 100000 in
set_option maxHeartbeats 1000000 in
theorem parts_walk {TA : World → Option Addr → List En → Prop} (P : PrgW TA) (a : Option Addr) (cap : Nat) (l : List En) (hl : l.length ≤ 9223372036854775807) (he : ∀ x ∈ l, EnOk x) (w : World) (h : EL w a l) :
    Calls Try.prog 6 #[.slice a l.length cap] w fun e w' => e = .returned (.bool true) ∧ Below w.heap.size w w' := by
  have KG := hide (greatE_any a cap l 20 (by omega) hl (fun x hx => (he x hx).1) w h)
  have HS := hide h
  have HOK := hide he
  have HP := hide P
  have KA := hide fun W => awake16_any P W
  clear h he P
  go_enter Try.func6, Try.ntmps6
  go_wp2_with fail
  refine (unhide KG).mono ?_
  rintro e w1 ⟨D, rfl, hD, hb⟩
  have HB1 := hide hb
  have HS1 := hide ((unhide HS).after hb)
  clear hb KG
  cases D with
  | true =>
    clear hD
    go_wp2_with fail
    refine (unhide KA w1).mono ?_
    rintro e w2 ⟨rfl, hb⟩
    have HB2 := hide (below_grow (unhide HB1) (Nat.le_refl _) hb)
    clear hb
    go_wp2_with fail
    go_ret
    exact ⟨rfl, unhide HB2⟩
  | false =>
    have HEOK := hide (eok_of16 (hD rfl) (by omega) (unhide HOK))
    have KO := hide ((unhide HP).of a cap l (unhide HEOK) w1 (unhide HS1))
    have HTR := hide (ofT_tr l)
    generalize ofT l = R at KO HTR
    obtain ⟨T, E⟩ := R
    dsimp only at KO HTR
    have KPa := hide fun q W h => parts_any (unhide HP) q T (unhide HTR) 4 ⟨#[]⟩ (Nat.le_add_left _ _) (by decide) W h
    have HZ : Hid ((partsE ⟨#[]⟩).length = 0) := hide rfl
    rw [unhide HZ] at KPa
    clear hD HOK HEOK
    go_wp2_with fail
    refine (unhide KO).mono ?_
    rintro e w2 ⟨q, rfl, ht2, hb⟩
    have HB2 := hide (below_grow (unhide HB1) (Nat.le_refl _) hb)
    have HT2 := hide ht2
    clear hb ht2 KO
    go_wp2_with fail
    refine (unhide KPa q w2 (unhide HT2)).mono ?_
    rintro e w3 ⟨rfl, hb⟩
    have HB3 := hide (below_grow (unhide HB2) (Nat.le_refl _) hb)
    clear hb KPa
    go_wp2_with fail
    refine (unhide KA w3).mono ?_
    rintro e w4 ⟨rfl, hb⟩
    have HB4 := hide (below_grow (unhide HB3) (Nat.le_refl _) hb)
    clear hb
    go_wp2_with fail
    go_ret
    exact ⟨by first | rfl | simp, unhide HB4⟩
end Go.Proofs.Ytpfighkafmammaa
