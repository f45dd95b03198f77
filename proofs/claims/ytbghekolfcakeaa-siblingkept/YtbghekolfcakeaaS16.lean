/-
  What two leaves come to together: the program's.
-/
import Derived.Test.YtbghekolfcakeaaS15
import Derived.Test.YtbghekolfcakeaaRefSyncW
import Derived.Test.YtbghekolfcakeaaP4
namespace Go.Proofs.Ytbghekolfcakeaa
open Go.Shelf Go.RowKit Go.Lib Go.Sort

theorem enter60 : Enters Try.prog 60 := enters_of Try.func60 (by kernel_rfl) rfl
theorem laid_of (ps : List VP) : Laid (ps.map (·.1)) (tagged ps) := by
  refine ⟨by rw [tagged_size, List.length_map], fun p hp => ?_, fun p hp => ?_⟩
  · rw [List.length_map] at hp
    rw [tagged_at ps p _ (List.getElem?_eq_getElem hp)]
  · rw [List.length_map] at hp
    rw [tagged_at ps p _ (List.getElem?_eq_getElem hp), List.getElem?_map, List.getElem?_eq_getElem hp]
    rfl
/-- What is left, sorted, and of each peer the first. -/
theorem sync_rest (O : Nat → Prop) (a b : List Vc.V) (ha : Vc.LeafOk a) (hb : Vc.LeafOk b) (G : Vc.V → Bool) (hG : ∀ x, G x = true ↔ Vc.Free a b x) (base : Nat) (l : Value) (w : World) (hO : ∀ g, base ≤ g → O g) (hbw : base ≤ w.heap.size) (hov : OV O w base l ((a ++ b).filter G)) :
    Calls Try.prog 55 #[l, .func (.func 56) #[] #[]] w fun e w1 => e = .returned (.tuple #[]) ∧ Calls Try.prog 59 #[l, .func (.func 60) #[] #[]] w1 fun e w' =>
      ∃ (s : List Vc.V) (r : Option Addr) (cap : Nat), e = .returned (.slice r s.length cap) ∧ s.length ≤ cap ∧ SV w' r s ∧ Prov O w' r s ∧ Below base w w' ∧ Vc.IsSync a b s := by
  obtain ⟨ps, hps, hown, hall⟩ := hov.is
  have hlen : ps.length ≤ 128 := by
    have h1 : ((a ++ b).filter G).length ≤ (a ++ b).length := List.length_filter_le _ _
    rw [List.length_append] at h1
    have := ha.len
    have := hb.len
    rw [← hps, List.length_map] at h1
    omega
  have hlaid : Laid ((a ++ b).filter G) (tagged ps) := by rw [← hps]; exact laid_of ps
  have hn : ps.length = ((a ++ b).filter G).length := by rw [← hps, List.length_map]
  rcases hown.2 with ⟨rfl, h0⟩ | ⟨g, cap, cur, rfl, hbg, hh, hcap, _, _, htake⟩
  · refine (sort_nil _ w).mono ?_
    rintro e w1 ⟨rfl, rfl⟩
    refine ⟨rfl, (compact_nil _ w1).mono ?_⟩
    rintro e w2 ⟨rfl, rfl⟩
    refine ⟨[], none, 0, rfl, Nat.le_refl _, SV.none _ _, Prov.none _ _ _, Below.refl _ _, ?_⟩
    have h := sync_of ha hb G hG (d1 := tagged ps) hn hlaid (Mix.refl _ _ _) (srt_one _ (by omega))
    rw [h0] at h
    exact h
  · have R : RW0 w g (tagged ps) := row_of hh htake
    have K := sortStable_any ordT w g (tagged ps) R ps.length (tagged_size ps) (by omega) (cmpLays g ps.length w) cap (fun p hp => by rw [tagged_at ps p _ (List.getElem?_eq_getElem hp)]) w (SWK.start R.hH)
    refine K.mono ?_
    rintro e w1 ⟨rfl, d1, s1, m1, r1⟩
    refine ⟨rfl, ?_⟩
    have K2 := compact_gen lay Try.func59 60 #[] enter60 w g (tagged ps) R ps.length cap (tagged_size ps) (by omega) hcap
      (fun x y W => eq60_any x.2.1 y.2.1 x.2.2.1 y.2.2.1 x.2.2.2 y.2.2.2 W) (fun kw dj W h1 h2 h3 => clear_run w g (tagged ps) R ps.length cap (tagged_size ps) kw dj W h1 h2 h3)
      d1 (m1.size.trans (tagged_size ps)) w1 s1
    refine K2.mono ?_
    intro e w2 hc
    obtain ⟨x1, x2, x3, x4, x5⟩ := compacted_sv rfl hcap R (hO g hbg) hall m1 hc hbg hbw
    exact ⟨_, _, cap, x1, x2, x3, x4, x5, sync_of ha hb G hG hn hlaid m1 r1⟩

set_option maxRecDepth 100000 in
set_option maxHeartbeats 2000000 in
theorem sync_any (O : Nat → Prop) (ra rb : Option Addr) (ca cb : Nat) (a b : List Vc.V) (hfa : Few a) (hfb : Few b) (w : World) (hO : ∀ g, w.heap.size ≤ g → O g) (ha : SV w ra a) (hb : SV w rb b) (pa : Prov O w ra a) (pb : Prov O w rb b) :
    Calls Try.prog 32 #[.slice ra a.length ca, .slice rb b.length cb] w (Synced O a b w) := by
  have HOO := hide hO
  have HA := hide ha
  have HB := hide hb
  have PA := hide pa
  have PB := hide pb
  have KA := hide fun W h => checkLeaf_any ra ca a hfa W h
  have KB := hide fun W h => checkLeaf_any rb cb b hfb W h
  have hla := hfa.1
  have hlb := hfb.1
  have HFA := hide hfa
  have HFB := hide hfb
  clear ha hb hfa hfb pa pb hO
  by_cases hza : Vc.checkLeaf a = 0
  · by_cases hzb : Vc.checkLeaf b = 0
    · have HOK : Hid (Vc.checkLeaf a = 0 ∧ Vc.checkLeaf b = 0) := hide ⟨hza, hzb⟩
      have LA := hide ((Vc.checkLeaf_zero a).1 hza)
      have LB := hide ((Vc.checkLeaf_zero b).1 hzb)
      rw [hza] at KA
      rw [hzb] at KB
      have hla64 := (unhide LA).len
      have hlb64 := (unhide LB).len
      have HFEW := hide (few_append hla64 hlb64 (unhide HFA) (unhide HFB))
      have HSM : Hid (∀ v ∈ a ++ b, v.past.length ≤ 100000) := hide (fun v hv => (List.mem_append.1 hv).elim (leaf_small (unhide LA) v) (leaf_small (unhide LB) v))
      have HAB : Hid ((a ++ b).length ≤ 100000) := hide (by rw [List.length_append]; omega)
      have HG : Hid (∀ x, (!Vc.hasV (pastF (a ++ b)) x.dot) = true ↔ Vc.Free a b x) := hide (fun x => by
        rw [past_covered (fun u hu => (List.mem_append.1 hu).elim (fun h => ((unhide LA).up.mem h).1.past) (fun h => ((unhide LB).up.mem h).1.past)) x, Bool.not_eq_true', Vc.covered_no]
        exact ⟨fun h => ⟨fun u hu => h u (List.mem_append_left _ hu), fun u hu => h u (List.mem_append_right _ hu)⟩, fun h u hu => (List.mem_append.1 hu).elim (h.1 u) (h.2 u)⟩)
      have hp64 := pastF_len (a ++ b)
      have KP := hide fun r c W h => coveredBy_any r c (a ++ b) (unhide HFEW) W h
      have KW := hide fun r c B W hOW h KF => without65_any O (fun v => Vc.hasV (pastF (a ++ b)) v.dot) r c (a ++ b) (unhide HAB) (unhide HSM) B W hOW h KF
      have KCV := hide fun v q d B W h => cov_any v q d (pastF (a ++ b)) hp64 B W h
      have KR := hide fun base l W h1 h2 h3 => sync_rest O a b (unhide LA) (unhide LB) (fun x => !Vc.hasV (pastF (a ++ b)) x.dot) (unhide HG) base l W h1 h2 h3
      have KN := hide fun B W hr sa pa sb pb => concat_any O B ra rb ca cb a b (by omega) (by omega) W hr sa pa sb pb
      obtain ⟨F, hF⟩ : ∃ F : Vc.V → Bool, (fun v : Vc.V => Vc.hasV (pastF (a ++ b)) v.dot) = F := ⟨_, rfl⟩
      have HF : Hid (∀ v : Vc.V, Vc.hasV (pastF (a ++ b)) v.dot = F v) := hide (fun v => by rw [← hF])
      have KW2 : Hid (∀ r c B W, (∀ g, W.heap.size ≤ g → O g) → SV W r (a ++ b) → Clo W B (pastF (a ++ b)) → Calls Try.prog 52 #[.slice r (a ++ b).length c, .func (.func 65) #[] #[.pointer (some ⟨B, 0, none⟩)]] W (Left O W ((a ++ b).filter fun x => !Vc.hasV (pastF (a ++ b)) x.dot))) := hide (fun r c B W hOW h hc => unhide KW r c B W hOW h (fun W' hb' v q d => unhide KCV v q d B W' (hc.after hb')))
      clear hza hzb KW KCV HG HF hF F HSM HAB
      generalize ((a ++ b).filter fun x => !Vc.hasV (pastF (a ++ b)) x.dot) = LEFT at KW2 KR
      generalize pastF (a ++ b) = P at KP KW2
      generalize a ++ b = ALL at KP KW2 KN
      go_enter Try.func32, Try.ntmps32
      go_wp2_with (first
        | (go_at_call_of 11 ra; refine (unhide KA _ (unhide HA)).mono ?_; rintro e w1 ⟨rfl, hb1⟩; have HB1 := hide hb1; replace PA := hide ((unhide PA).after (unhide HA) hb1); replace PB := hide ((unhide PB).after (unhide HB) hb1); replace HA := hide ((unhide HA).after hb1); replace HB := hide ((unhide HB).after hb1); clear hb1 KA)
        | (go_at_call 11; refine (unhide KB _ (unhide HB)).mono ?_; rintro e w2 ⟨rfl, hb2⟩; replace HB1 := hide (below_grow (unhide HB1) (Nat.le_refl _) hb2); replace PA := hide ((unhide PA).after (unhide HA) hb2); replace PB := hide ((unhide PB).after (unhide HB) hb2); replace HA := hide ((unhide HA).after hb2); replace HB := hide ((unhide HB).after hb2); clear hb2 KB))
      have R3 := hide (VRow.new w2 22 [.slice ra a.length ca, .slice rb b.length cb])
      refine (unhide KN w2.heap.size _ (unhide R3) ((unhide HA).after (below_alloc' _)) ((unhide PA).after (unhide HA) (below_alloc' _)) ((unhide HB).after (below_alloc' _)) ((unhide PB).after (unhide HB) (below_alloc' _))).mono ?_
      rintro e w4 ⟨l4, rfl, hov4, hb4⟩
      obtain ⟨r4, c4, rfl, hc4, hs4, _⟩ := hov4.sv
      have HB4 := hide (below_grow ((unhide HB1).alloc (unhide HB1).size _) (Nat.le_refl _) hb4)
      have S4 := hide hs4
      clear hov4 hb4 hs4 hc4 HA HB PA PB HB1 R3 KN
      go_wp2_with fail
      refine (unhide KP r4 c4 _ (unhide S4)).mono ?_
      rintro e w5 ⟨B, rfl, hclo, hb5⟩
      replace HB4 := hide (below_grow (unhide HB4) (Nat.le_refl _) hb5)
      replace S4 := hide ((unhide S4).after hb5)
      have CL := hide hclo
      clear hclo hb5 KP
      go_wp2_with fail
      have HO5 : Hid (∀ g, w5.heap.size ≤ g → O g) := hide (fun g hg => unhide HOO g (Nat.le_trans (unhide HB4).size hg))
      refine (unhide KW2 r4 c4 B _ (unhide HO5) (unhide S4) (unhide CL)).mono ?_
      rintro e w6 ⟨l6, rfl, hov6, hb6⟩
      have HS5 : Hid (w.heap.size ≤ w5.heap.size) := hide (unhide HB4).size
      have HS6 : Hid (w5.heap.size ≤ w6.heap.size) := hide hb6.size
      replace HB4 := hide (below_grow (unhide HB4) (Nat.le_refl _) hb6)
      have OV6 := hide hov6
      clear hov6 hb6 KW2 S4 CL
      go_wp2_with fail
      refine (unhide KR w5.heap.size l6 _ (unhide HO5) (unhide HS6) (unhide OV6)).mono ?_
      rintro e w7 ⟨rfl, hcall⟩
      have HCALL := hide hcall
      clear hcall KR
      go_wp2_with fail
      refine (unhide HCALL).mono ?_
      rintro e w8 ⟨s, r, cap, rfl, h1, h2, h3, h4, h5⟩
      have H1 := hide h1
      have H2 := hide h2
      have H3 := hide h3
      have H4 : Hid (Below w.heap.size w w8) := hide ((unhide HB4).trans ⟨h4.os, h4.tape, h4.output, h4.size, fun k hk => h4.block k (Nat.lt_of_lt_of_le hk (unhide HS5))⟩)
      have H5 := hide h5
      clear h1 h2 h3 h4 h5 HCALL
      go_wp2_with fail
      go_ret
      exact ⟨s, r, cap, rfl, unhide H1, unhide H2, unhide H3, unhide H4, fun _ => unhide H5, fun h => absurd (unhide HOK) h⟩
    · have HNO : Hid (¬ (Vc.checkLeaf a = 0 ∧ Vc.checkLeaf b = 0)) := hide (fun h => hzb h.2)
      rw [hza] at KA
      have hbb : (Vc.checkLeaf b != 0) = true := bne_iff_ne.2 hzb
      generalize Vc.checkLeaf b = X at KB hbb hzb
      clear hza hzb PA PB
      go_enter Try.func32, Try.ntmps32
      go_wp2_with (first
        | (go_at_call_of 11 ra; refine (unhide KA _ (unhide HA)).mono ?_; rintro e w1 ⟨rfl, hb1⟩; have HB1 := hide hb1; replace HB := hide ((unhide HB).after hb1); clear hb1 KA)
        | (go_at_call 11; refine (unhide KB _ (unhide HB)).mono ?_; rintro e w2 ⟨rfl, hb2⟩; replace HB1 := hide (below_grow (unhide HB1) (Nat.le_refl _) hb2); clear hb2 KB))
      go_ret
      exact ⟨[], none, 0, rfl, Nat.le_refl _, SV.none _ _, Prov.none _ _ _, unhide HB1, fun h => absurd h (unhide HNO), fun _ => rfl⟩
  · have HNO : Hid (¬ (Vc.checkLeaf a = 0 ∧ Vc.checkLeaf b = 0)) := hide (fun h => hza h.1)
    have hbb : (Vc.checkLeaf a != 0) = true := bne_iff_ne.2 hza
    generalize hX : Vc.checkLeaf a = X at KA hbb hza
    have HX := hide hX
    clear hX hza PA PB
    go_enter Try.func32, Try.ntmps32
    go_wp2_with (go_at_call 11; refine (unhide KA _ (unhide HA)).mono ?_; rintro e w1 ⟨rfl, hb1⟩; have HB1 := hide hb1; clear hb1 KA)
    go_ret
    exact ⟨[], none, 0, rfl, Nat.le_refl _, SV.none _ _, Prov.none _ _ _, unhide HB1, fun h => absurd h (unhide HNO), fun _ => rfl⟩
end Go.Proofs.Ytbghekolfcakeaa
