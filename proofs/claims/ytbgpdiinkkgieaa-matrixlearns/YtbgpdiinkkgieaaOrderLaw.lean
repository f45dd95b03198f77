/-
  In whatever order facts are learnt the rows are the same; what is stable stays so, and is in each row: the law's walk.
-/
import Derived.Test.YtbgpdiinkkgieaaDuo
import Derived.Deep.RegionHeld3
namespace Go.Proofs.Ytbgpdiinkkgieaa
open Go.RowKit

theorem six (x : Int) : ∃ n : Nat, wrap64 (1 + wrap64 ((IntKind.u64.wrap x).tmod 6)) = n ∧ 0 < n ∧ n ≤ 6 := by
  have h0 : 0 ≤ IntKind.u64.wrap x := by
    rw [IntKind.wrap_u64]; omega
  have h1 := Int.tmod_nonneg 6 h0
  have h2 := Int.tmod_lt_of_pos (IntKind.u64.wrap x) (b := 6) (by decide)
  generalize (IntKind.u64.wrap x).tmod 6 = y at h1 h2
  have e1 : wrap64 y = y := by unfold wrap64; omega
  have e2 : wrap64 (1 + y) = 1 + y := by unfold wrap64; omega
  exact ⟨(1 + y).toNat, by rw [e1, e2]; omega, by omega, by omega⟩
def fcs (fs : List Fc) : List (Int × List Vc.D) := fs.map fun f => (f.peer, f.v)

set_option maxRecDepth 100000 in
set_option maxHeartbeats 4000000 in
theorem orderLaw_any {M} (P : Prg M) (peers : Int) (a : Option Addr) (cap : Nat) (fs : List Fc) (w : World) (h : FL w a fs) :
    Calls Try.prog 5 #[.int .i64 peers, .slice a fs.length cap] w fun e w' => e = .returned (.bool true) ∧ Below w.heap.size w w' := by
  have PP := hide P
  have HS := hide h
  have KG := hide (great_any a cap fs w h)
  clear P h
  go_enter Try.func5, Try.ntmps5
  go_wp2_with fail
  refine (unhide KG).mono ?_
  rintro e w1 ⟨B, rfl, rfl, hB⟩
  clear KG
  cases B with
  | true =>
    clear hB
    go_wp2_with fail
    refine (awake_any (unhide PP) _).mono ?_
    rintro e w8 ⟨rfl, hb⟩
    have HB := hide hb
    clear hb
    go_wp2_with fail
    go_ret
    exact ⟨rfl, unhide HB⟩
  | false =>
    have HSM := hide (hB rfl)
    clear hB
    go_wp2_with fail
    obtain ⟨n, hn, hn1, hn6⟩ := six peers
    rw [hn]
    have K1 := hide ((unhide PP).new n w1 hn1 (by omega))
    clear hn
    refine (unhide K1).mono ?_
    rintro e w2 ⟨p, oa, rfl, hma, hoa, hb⟩
    have K2 := hide ((unhide PP).new n w2 hn1 (by omega))
    have HMA := hide hma
    have HOA := hide hoa
    have HB := hide hb
    clear hma hoa hb K1
    go_wp2_with fail
    refine (unhide K2).mono ?_
    rintro e w3 ⟨q, ob, rfl, hmb, hob, hb⟩
    have HD : Hid (Duo M w1 p q (List.replicate n []) (List.replicate n []) none [] w3) := hide ⟨oa, ob, (unhide PP).after (unhide HMA) hb, hmb, unhide HOA, fun g hg => Nat.le_trans (unhide HB).size (hob g hg), fun g h1 h2 => Nat.lt_irrefl _ (Nat.lt_of_lt_of_le ((unhide PP).lt (unhide HMA) g h1) (hob g h2)), below_grow (unhide HB) (Nat.le_refl _) hb, Sl.none _ _, fun _ e => (by cases e), fun _ e => (by cases e)⟩
    clear hmb hob hb K2 HMA HOA HB
    obtain ⟨m, hm⟩ : ∃ m, fs.length = m := ⟨_, rfl⟩
    have HL := hide hm
    have hm40 : m ≤ 40 := by rw [← hm]; exact (unhide HSM).1
    rw [hm]
    clear hm
    go_wp2_with fail
    go_loopw [8, 9, 10] (fun s i _ wr => ∃ (k : Nat) (r : Option Addr) (c : Nat) (was : List Vc.D), k ≤ m ∧ i = .int .i64 k ∧ s = .slice r was.length c ∧ Hid (was.length ≤ c ∧ IsStable (learnAll (List.replicate n []) ((fcs fs).take k)) was ∧ Duo M w1 p q (learnAll (List.replicate n []) ((fcs fs).take k)) (learnAll (List.replicate n []) ((fcs fs).reverse.take k)) r was wr)) (fun _ i _ _ => m - (intOf i).toNat)
    case atStart => exact ⟨0, none, 0, [], Nat.zero_le _, rfl, rfl, hide ⟨Nat.le_refl _, stable_none n, unhide HD⟩⟩
    case round =>
      clear HD
      obtain ⟨k, r, c, was, hk, rfl, rfl, HR⟩ := hrel
      by_cases hlt : k < m
      · obtain ⟨f, hf⟩ : ∃ f, fs[k]? = some f := ⟨_, List.getElem?_eq_getElem (by have := unhide HL; omega)⟩
        obtain ⟨j, hj⟩ : ∃ j, j = m - 1 - k := ⟨_, rfl⟩
        have HJ := hide hj
        have hjm : j < m := by omega
        have hi1 : wrap64 ((m : Int) - 1) = (m : Int) - 1 := by unfold wrap64; omega
        have hi2 : wrap64 ((m : Int) - 1 - (k : Int)) = (j : Int) := by unfold wrap64; omega
        have hi3 : IntKind.i64.wrap ((m : Int) - 1) = (m : Int) - 1 := by rw [IntKind.wrap_i64]; omega
        have hi4 : IntKind.i64.wrap ((m : Int) - 1 - (k : Int)) = (j : Int) := by rw [IntKind.wrap_i64]; omega
        have hjz : (j : Int) < (m : Int) := by omega
        have hjz0 : (0 : Int) ≤ (j : Int) := by omega
        clear hj
        obtain ⟨f2, hf2⟩ : ∃ f, fs[j]? = some f := ⟨_, List.getElem?_eq_getElem (by have := unhide HL; omega)⟩
        obtain ⟨g, o, rfl, hg, hcell⟩ := unhide HS (by have := unhide HL; omega)
        obtain ⟨q1, c1, _, _, x0, x1, _, _, hc1, _, s1, _⟩ := hcell k f hf
        obtain ⟨q2, c2, _, _, y0, y1, _, _, hc2, _, s2, _⟩ := hcell j f2 hf2
        have HT : Hid (learnAll (List.replicate n []) ((fcs fs).take (k + 1)) = (learnL (learnAll (List.replicate n []) ((fcs fs).take k)) f.peer f.v).1) := hide (learnAll_snoc (f := (f.peer, f.v)) (by rw [fcs, List.getElem?_map, hf]; rfl) _)
        have HT2 : Hid (learnAll (List.replicate n []) ((fcs fs).reverse.take (k + 1)) = (learnL (learnAll (List.replicate n []) ((fcs fs).reverse.take k)) f2.peer f2.v).1) := hide (learnAll_snoc (f := (f2.peer, f2.v)) (by rw [List.getElem?_reverse (by rw [fcs, List.length_map]; have := unhide HL; omega), fcs, List.length_map, unhide HL, ← unhide HJ, List.getElem?_map, hf2]; rfl) _)
        have HV : Hid (Vecs (learnAll (List.replicate n []) ((fcs fs).take k)) ∧ 0 < (learnAll (List.replicate n []) ((fcs fs).take k)).length) := hide ⟨learnAll_vecs _ (vecs_none n), by rw [learnAll_len, List.length_replicate]; exact hn1⟩
        have HV2 : Hid (Vecs (learnAll (List.replicate n []) ((fcs fs).reverse.take k))) := hide (learnAll_vecs _ (vecs_none n))
        generalize learnAll (List.replicate n []) ((fcs fs).take k) = RA at HT HR HV
        generalize learnAll (List.replicate n []) ((fcs fs).reverse.take k) = RB at HT2 HR HV2
        have hkz : decide ((k : Int) < (m : Int)) = true := decide_eq_true (by omega)
        have HSM1 := hide ((unhide HSM).2 f (List.mem_of_getElem? hf)).1
        have HSM2 := hide ((unhide HSM).2 f2 (List.mem_of_getElem? hf2)).1
        have KL := hide fun W (h : DuoX M w1 p q RA RB r was f.peer f.v W) => duoX_learn (unhide PP) h q1 c1 (by have := unhide HSM1; omega) hc1 s1
        have SB : Hid (∀ w', DuoX M w1 p q RA RB r was f.peer f.v w' → w'.cell? ⟨g, o + k * 4, none⟩ = some (.int .i64 f.peer) ∧ w'.cell? ⟨g, o + k * 4 + 1, none⟩ = some (.slice q1 f.v.length c1) ∧ DuoX M w1 p q RA RB r was f.peer f.v w') := hide (fun w' hw => ⟨(hw.below.cell (p := ⟨g, o + k * 4, none⟩) hg).trans x0, (hw.below.cell (p := ⟨g, o + k * 4 + 1, none⟩) hg).trans x1, hw⟩)
        have KL2 := hide fun (X : List (List Vc.D)) W (h : DuoX M w1 q p RB X r was f2.peer f2.v W) => duoX_learn (unhide PP) h q2 c2 (by have := unhide HSM2; omega) hc2 s2
        have SB2 : Hid (∀ X w', DuoX M w1 q p RB X r was f2.peer f2.v w' → w'.cell? ⟨g, o + j * 4, none⟩ = some (.int .i64 f2.peer) ∧ w'.cell? ⟨g, o + j * 4 + 1, none⟩ = some (.slice q2 f2.v.length c2) ∧ DuoX M w1 q p RB X r was f2.peer f2.v w') := hide (fun X w' hw => ⟨(hw.below.cell (p := ⟨g, o + j * 4, none⟩) hg).trans y0, (hw.below.cell (p := ⟨g, o + j * 4 + 1, none⟩) hg).trans y1, hw⟩)
        clear hcell hf hf2 hc1 hc2 s1 s2 x0 x1 y0 y1 hg
        go_wp2_with fail
        go_region_held3 (fun w' => w'.cell? ⟨g, o + k * 4, none⟩ = some (.int .i64 f.peer) ∧ w'.cell? ⟨g, o + k * 4 + 1, none⟩ = some (.slice q1 f.v.length c1) ∧ DuoX M w1 p q RA RB r was f.peer f.v w')
          (first
            | exact unhide SB _ (DuoX.start (unhide PP) (unhide HR).2.2 (below_drew (Below.refl _ _)) _ _)
            | exact unhide SB _ (DuoX.done (unhide HV).1 (by assumption)))
          (first
            | (go_at_call 12; refine (unhide KL _ (And.right (And.right (by assumption)))).mono ?_; rintro e w4 ⟨rfl, hD⟩))
        rename_i hHeld
        clear hHeld KL SB
        generalize w4 = wx at hD ⊢
        have HX := hide hD.swap
        clear hD
        replace KL2 := hide (unhide KL2 (learnL RA f.peer f.v).1)
        replace SB2 := hide (unhide SB2 (learnL RA f.peer f.v).1)
        generalize hXA : learnL RA f.peer f.v = XA at HX KL2 SB2 HT
        replace hXA := hide hXA
        go_wp2_with fail
        go_region_held3 (fun w' => w'.cell? ⟨g, o + j * 4, none⟩ = some (.int .i64 f2.peer) ∧ w'.cell? ⟨g, o + j * 4 + 1, none⟩ = some (.slice q2 f2.v.length c2) ∧ DuoX M w1 q p RB XA.1 r was f2.peer f2.v w')
          (first
            | exact unhide SB2 _ (DuoX.start (unhide PP) (unhide HX) (below_drew (Below.refl _ _)) _ _)
            | exact unhide SB2 _ (DuoX.done (unhide HV2) (by assumption)))
          (first
            | (go_at_call 12; refine (unhide KL2 _ (And.right (And.right (by assumption)))).mono ?_; rintro e w5 ⟨rfl, hD⟩))
        rename_i hHeld
        clear hHeld KL2 SB2 hi1 hi2 hi3 hi4 hjz hjz0 hjm
        have HY := hide hD.swap
        clear hD HX
        have KS := hide (duo_stable (unhide PP) (unhide HY))
        go_wp2_with fail
        refine (unhide KS).mono ?_
        rintro e w6 ⟨r6, c6, rfl, hc6, hD6, hD0⟩
        have HIS : Hid (IsStable XA.1 (stableL XA.1)) := hide (stable_is _)
        generalize stableL XA.1 = S at hc6 hD6 HIS ⊢
        have HW : Hid (Vc.within was S = true) := hide (by
          have h1 := unhide HIS
          rw [← unhide hXA] at h1
          exact IsStable.grows (unhide HV).1 (unhide HV).2 _ _ (unhide HR).2.1 h1)
        have KW := hide (refWithin_any r r6 c c6 was S (by have := (unhide HR).2.1.is; omega) (by have := (unhide HIS).is; omega) w6 hD0.sl hD6.sl)
        rw [unhide HW] at KW
        have HD6 := hide hD6
        have HC6 := hide hc6
        clear hD6 hc6 hD0 HY KS
        go_wp2_with fail
        refine (unhide KW).mono ?_
        rintro e w7 ⟨rfl, hb⟩
        replace HD6 := hide ((unhide HD6).after (unhide PP) hb)
        clear hb KW
        go_wp2_with fail
        go_roundw
        case rel => exact ⟨k + 1, r6, c6, S, by omega, by go_num, by rfl, hide ⟨unhide HC6, by rw [unhide HT]; exact unhide HIS, by rw [unhide HT, unhide HT2]; exact unhide HD6⟩⟩
        case measure => simp [intOf]; omega
      · obtain rfl : k = m := by omega
        have hkz : decide ((k : Int) < (k : Int)) = false := decide_eq_false (by omega)
        have HV : Hid (Vecs (learnAll (List.replicate n []) ((fcs fs).take k)) ∧ (learnAll (List.replicate n []) ((fcs fs).take k)).length = n) := hide ⟨learnAll_vecs _ (vecs_none n), by rw [learnAll_len, List.length_replicate]⟩
        have HE : Hid (learnAll (List.replicate n []) ((fcs fs).take k) = learnAll (List.replicate n []) ((fcs fs).reverse.take k)) := hide (by
          have hl : (fcs fs).length = k := by rw [fcs, List.length_map]; exact unhide HL
          rw [← hl, List.take_length, show (fcs fs).length = (fcs fs).reverse.length by rw [List.length_reverse], List.take_length, learn_rev _ (vecs_none n)])
        generalize learnAll (List.replicate n []) ((fcs fs).take k) = RA at HR HV HE
        generalize learnAll (List.replicate n []) ((fcs fs).reverse.take k) = RB at HR HE
        obtain rfl : RA = RB := unhide HE
        clear HE
        go_wp2_with fail
        generalize wr = wa at HR ⊢
        go_loopw [11] (fun i wv => ∃ x : Nat, x ≤ n ∧ i = .int .i64 x ∧ Hid (Duo M w1 p q RA RA r was wv)) (fun i _ => n - (intOf i).toNat)
        case atStart => exact ⟨0, Nat.zero_le _, rfl, hide (unhide HR).2.2⟩
        case round =>
          obtain ⟨x, hx, rfl, HD2⟩ := hrel
          by_cases hxn : x < n
          · have hxz : decide ((x : Int) < (n : Int)) = true := decide_eq_true (by omega)
            have KR : Hid (Calls Try.prog 21 #[.pointer (some p), .int .i64 x] wr (Made wr (RA[x]?.getD []))) := hide (by
              obtain ⟨oa, ob, hh⟩ := unhide HD2
              exact (unhide PP).row hh.ma x (by rw [(unhide HV).2]; exact hxn))
            have HW : Hid (Vc.within was (RA[x]?.getD []) = true ∧ (RA[x]?.getD []).length ≤ 64) := hide ⟨(unhide HR).2.1.within (unhide HV).1 (by rw [(unhide HV).2]; exact hxn), Vc.vec_len ((unhide HV).1.at x)⟩
            generalize RA[x]?.getD [] = D at KR HW
            go_wp2_with fail
            refine (unhide KR).mono ?_
            rintro e w6 ⟨r6, c6, rfl, hc6, hs6, hb⟩
            replace HD2 := hide ((unhide HD2).after (unhide PP) hb)
            have KW := hide (refWithin_any r r6 c c6 was D (by have := (unhide HR).2.1.is; omega) (by have := (unhide HW).2; omega) w6 (unhide HD2).sl hs6)
            rw [(unhide HW).1] at KW
            clear hc6 hs6 hb KR
            go_wp2_with fail
            refine (unhide KW).mono ?_
            rintro e w7 ⟨rfl, hb⟩
            replace HD2 := hide ((unhide HD2).after (unhide PP) hb)
            clear hb KW
            go_wp2_with fail
            go_roundw
            case rel => exact ⟨x + 1, by omega, by go_num, HD2⟩
            case measure => simp [intOf]; omega
          · obtain rfl : x = n := by omega
            have hxz : decide ((x : Int) < (x : Int)) = false := decide_eq_false (by omega)
            have KR : Hid (Calls Try.prog 15 #[.pointer (some p)] wr fun e w' => ∃ r c, e = .returned (.slice r RA.length c) ∧ RA.length ≤ c ∧ RL w' r RA ∧ Below wr.heap.size wr w') := hide (by
              obtain ⟨oa, ob, hh⟩ := unhide HD2
              exact (unhide PP).rows hh.ma)
            go_wp2_with fail
            refine (unhide KR).mono ?_
            rintro e w6 ⟨r6, c6, rfl, hc6, hs6, hb⟩
            replace HD2 := hide ((unhide HD2).after (unhide PP) hb)
            have KR2 : Hid (Calls Try.prog 15 #[.pointer (some q)] w6 fun e w' => ∃ r c, e = .returned (.slice r RA.length c) ∧ RA.length ≤ c ∧ RL w' r RA ∧ Below w6.heap.size w6 w') := hide (by
              obtain ⟨oa, ob, hh⟩ := unhide HD2
              exact (unhide PP).rows hh.mb)
            have H6 := hide hs6
            clear hc6 hs6 hb KR
            go_wp2_with fail
            refine (unhide KR2).mono ?_
            rintro e w7 ⟨r7, c7, rfl, hc7, hs7, hb⟩
            replace HD2 := hide ((unhide HD2).after (unhide PP) hb)
            have KS := hide (refSameR_any r6 r7 c6 c7 RA RA (few_vecs (unhide HV).1 (by rw [(unhide HV).2]; omega)) (few_vecs (unhide HV).1 (by rw [(unhide HV).2]; omega)) w7 ((unhide H6).after hb) hs7 true (by simp))
            clear hc7 hs7 hb KR2
            go_wp2_with fail
            refine (unhide KS).mono ?_
            rintro e w8 ⟨rfl, hb⟩
            replace HD2 := hide ((unhide HD2).after (unhide PP) hb)
            clear hb KS
            go_wp2_with fail
            refine (awake_any (unhide PP) _).mono ?_
            rintro e w9 ⟨rfl, hb⟩
            replace HD2 := hide ((unhide HD2).after (unhide PP) hb)
            clear hb
            go_wp2_with fail
            go_ret
            exact ⟨rfl, (unhide HD2).below⟩
end Go.Proofs.Ytbgpdiinkkgieaa
