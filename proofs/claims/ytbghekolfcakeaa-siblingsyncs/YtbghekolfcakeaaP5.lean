/-
  What readers see of versions: the program's.
-/
import Derived.Test.YtbghekolfcakeaaP3
namespace Go.Proofs.Ytbghekolfcakeaa
open Go.RowKit

/-- The best of the first n versions. -/
structure Pick (LV : List Vc.V) (n i : Nat) (b : Vc.V) : Prop where
  lt : i < n
  at_ : LV[i]? = some b
  top : ∀ m y, m < n → LV[m]? = some y → winsV y b = false
  first : ∀ m y, m < i → LV[m]? = some y → winsV b y = true
theorem winsV_self (v : Vc.V) : winsV v v = false := by unfold winsV; simp
theorem Pick.start {LV : List Vc.V} {v : Vc.V} (h : LV[0]? = some v) : Pick LV 1 0 v :=
  ⟨by omega, h, fun m y hm hy => by have : m = 0 := by omega
                                    subst this
                                    rw [h] at hy
                                    cases hy
                                    exact winsV_self v, fun m y hm => absurd hm (Nat.not_lt_zero _)⟩
theorem winsV_asymm {a b : Vc.V} (h : winsV a b = true) : winsV b a = false := by
  cases hh : winsV b a with
  | false => rfl
  | true =>
    have := winsV_trans (v := a) (b := b) (m := b) h (winsV_self b)
    have h2 : winsV b b = true := by
      cases h3 : winsV a a with
      | false =>
        have h4 := winsV_self a
        cases h5 : winsV b b with
        | true => rfl
        | false =>
          have h6 : winsV a b = true := h
          have h7 : winsV b a = true := hh
          unfold winsV at h6 h7
          by_cases hd : a.dead = b.dead
          · rw [if_neg (by simpa using hd)] at h6
            rw [if_neg (by simpa using hd.symm)] at h7
            by_cases hc : a.dot.2 = b.dot.2
            · rw [if_neg (by simpa using hc)] at h6
              rw [if_neg (by simpa using hc.symm)] at h7
              simp at h6 h7
              omega
            · rw [if_pos hc] at h6
              rw [if_pos (fun e => hc e.symm)] at h7
              simp at h6 h7
              omega
          · rw [if_pos hd] at h6
            rw [if_pos (fun e => hd e.symm)] at h7
            rw [h6, h7] at hd
            exact absurd rfl hd
      | true => rw [winsV_self] at h3; cases h3
    rw [winsV_self] at h2
    cases h2
theorem Pick.step {LV : List Vc.V} {n i : Nat} {b v : Vc.V} (h : Pick LV n i b) (hv : LV[n]? = some v) : (winsV v b = true → Pick LV (n + 1) n v) ∧ (winsV v b = false → Pick LV (n + 1) i b) := by
  refine ⟨fun hw => ⟨by omega, hv, fun m y hm hy => ?_, fun m y hm hy => winsV_trans hw (h.top m y hm hy)⟩, fun hw => ⟨by have := h.lt; omega, h.at_, fun m y hm hy => ?_, h.first⟩⟩
  · by_cases e : m = n
    · subst e
      rw [hv] at hy
      cases hy
      exact winsV_self v
    · exact winsV_asymm (winsV_trans hw (h.top m y (by omega) hy))
  · by_cases e : m = n
    · subst e
      rw [hv] at hy
      cases hy
      exact hw
    · exact h.top m y (by omega) hy
theorem Pick.winner {vs : List Vc.V} {i : Nat} {b : Vc.V} (h : Pick (Vc.live vs) (Vc.live vs).length i b) : winner vs = some b := by
  unfold Go.Proofs.Ytbghekolfcakeaa.winner
  refine find_at (i := i) (fun m y hm hy => ?_) h.at_ ?_
  · rw [List.any_eq_true.2 ⟨b, List.mem_of_getElem? h.at_, h.first m y hm hy⟩]; rfl
  · rw [show ((Vc.live vs).any fun y => winsV y b) = false from List.any_eq_false.2 fun y hy => by
      obtain ⟨m, hm⟩ := List.getElem?_of_mem hy
      rw [h.top m y (List.getElem?_eq_some_iff.1 hm).1 hm]; simp]
    rfl
theorem winner_none {vs : List Vc.V} (h : (Vc.live vs).length = 0) : winner vs = none := by
  unfold Go.Proofs.Ytbghekolfcakeaa.winner
  rw [List.eq_nil_of_length_eq_zero h]
  rfl

set_option maxRecDepth 100000 in
set_option maxHeartbeats 1000000 in
theorem winner_any (a : Option Addr) (cap : Nat) (vs : List Vc.V) (hl : vs.length ≤ 100000) (hp : ∀ v ∈ vs, v.past.length ≤ 100000) (w : World) (h : SV w a vs) :
    Calls Try.prog 25 #[.slice a vs.length cap] w (WinMade vs w) := by
  have HB := hide (below_alloc' (w := w) (.cells zero27.toArray 27))
  have RD := hide (VRow.new w 27 zero27)
  have KL := hide (live_any (fun g => g ≠ w.heap.size) a cap vs hl hp (w.alloc (.cells zero27.toArray 27)) (by intro g hg; simp at hg; omega) (h.after (unhide HB)))
  have hll : (Vc.live vs).length ≤ 100000 := Nat.le_trans (List.length_filter_le _ _) hl
  have HWIN := hide fun i b (hh : Pick (Vc.live vs) (Vc.live vs).length i b) => hh.winner
  have HNON := hide fun hh => winner_none (vs := vs) hh
  obtain ⟨R, hR⟩ : ∃ R, winner vs = R := ⟨_, rfl⟩
  rw [hR] at HWIN HNON
  have HRR := hide hR
  generalize Vc.live vs = LV at KL hll HWIN HNON
  clear h hp hR
  unfold zero27 at HB RD KL
  go_enter Try.func25, Try.ntmps25
  go_wp2_with fail
  refine (unhide KL).mono ?_
  rintro e w1 ⟨rL, cL, rfl, hcL, hsL, hpL, hb⟩
  replace HB := hide (below_grow (unhide HB) (Nat.le_refl _) hb)
  replace RD := hide ((unhide RD).after hb)
  have SL := hide hsL
  have PL := hide hpL
  have HD : Hid (w.heap.size < w1.heap.size) := hide (unhide RD).lt
  clear hb hsL hpL KL
  by_cases h0 : LV.length = 0
  · have HT : Hid (winner vs = none) := hide ((unhide HRR).trans (unhide HNON h0))
    rw [h0]
    go_wp2_with (refine store_row (by rfl) 27 _ _ (by rfl) w.heap.size (verL zeroV none 0) (by rfl) (by rfl) 27 _ (unhide RD) 5 size27 rfl rfl (verL_one _ _ _) ?_; intro wz ho hr; have HO := hide ho; have HR2 := hide hr; clear ho hr)
    refine bodyPost_ret (v := .tuple #[.agg (verL zeroV none 0).toArray, .bool false]) (results_ver rfl _ _ _ _ rfl rfl (unhide HR2) rfl) rfl ?_
    exact ⟨zeroV, none, 0, false, rfl, Nat.le_refl _, Sl.none _ _, (unhide HB).trans ((unhide HO).below (Nat.le_refl _)), .inr ⟨rfl, unhide HT, rfl⟩⟩
  · obtain ⟨n, hn⟩ : ∃ n, LV.length = n + 1 := ⟨LV.length - 1, by omega⟩
    obtain ⟨g, o, rfl, hg, hcell⟩ := unhide SL (by omega)
    have HG := hide hg
    have HCELL := hide hcell
    have HLEN := hide hn
    obtain ⟨v0, hv0⟩ : ∃ d, LV[0]? = some d := ⟨_, List.getElem?_eq_getElem (by omega)⟩
    obtain ⟨q0, d0, x0, x1, x2, x3, x4, h5, h6⟩ := hcell 0 v0 hv0
    rw [Nat.zero_mul, Nat.add_zero] at x0 x1 x2 x3 x4
    have HNE0 : Hid (∀ ad, q0 = some ad → 0 < v0.past.length → ad.block ≠ w.heap.size) := hide ((unhide PL (by omega) g o rfl).2 0 v0 q0 d0 hv0 (by rw [Nat.zero_mul, Nat.add_zero]; exact x2))
    have HP0 := hide (Pick.start hv0)
    have H50 := hide h5
    have H60 := hide h6
    have HCL : Hid (n + 1 ≤ cL) := hide (by omega)
    have HLV1 : Hid (∀ k v, k < n → LV[k + 1]? = some v → ∃ q d, w1.cell? ⟨g, o + 5 + k * 5, none⟩ = some (.int .i64 v.dot.1) ∧ w1.cell? ⟨g, o + 5 + k * 5 + 1, none⟩ = some (.int .i64 v.dot.2) ∧ w1.cell? ⟨g, o + 5 + k * 5 + 2, none⟩ = some (.slice q v.past.length d) ∧ w1.cell? ⟨g, o + 5 + k * 5 + 3, none⟩ = some (.bool v.dead) ∧ w1.cell? ⟨g, o + 5 + k * 5 + 4, none⟩ = some (.string v.data) ∧ v.past.length ≤ d ∧ Sl w1 q v.past ∧ ∀ ad, q = some ad → 0 < v.past.length → ad.block ≠ w.heap.size) := hide (fun k v hk hv => by
      obtain ⟨q, d, y0, y1, y2, y3, y4, y5, y6⟩ := hcell (k + 1) v hv
      have hne := (unhide PL (by omega) g o rfl).2 (k + 1) v q d hv y2
      rw [show o + (k + 1) * 5 = o + 5 + k * 5 by omega] at y0 y1 y2 y3 y4
      exact ⟨q, d, y0, y1, y2, y3, y4, y5, y6, hne⟩)
    rw [hn] at hcL hll ⊢
    have hnz : ((n : Int) + 1 == 0) = false := by simp; omega
    clear hg hcell hv0 h5 h6 hn h0
    by_cases hn0 : n = 0
    · subst hn0
      have HWW : Hid (winner vs = some v0) := hide ((unhide HRR).trans (unhide HWIN 0 v0 (by rw [unhide HLEN]; exact unhide HP0)))
      clear HLV1 HCELL
      go_wp2_with (refine store_row (by rfl) 27 _ _ (by rfl) w1.heap.size (verL v0 q0 d0) (by rfl) (by rfl) 27 zero27 (VRow.newAt rfl) 5 size27 rfl rfl (verL_one _ _ _) ?_; intro wz ho hr; have HZ := hide ((below_alloc' (w := w1) (.cells zero27.toArray 27)).trans (ho.below (Nat.le_refl _))); have RZ := hide hr; clear ho hr x0 x1 x2 x3 x4)
      all_goals (
        go_loopw [20] (fun i wr => i = .int .i64 0 ∧ wr = wz) (fun _ _ => 0)
        case atStart => exact ⟨rfl, rfl⟩
        case round =>
          obtain ⟨rfl, rfl⟩ := hrel
          have b0 := (unhide RZ).cell 0 _ rfl
          have b1 := (unhide RZ).cell 1 _ rfl
          have b2 := (unhide RZ).cell 2 _ rfl
          have b3 := (unhide RZ).cell 3 _ rfl
          have b4 := (unhide RZ).cell 4 _ rfl
          have RDj := hide ((unhide RD).after (unhide HZ))
          go_wp2_with (refine store_row (by rfl) 27 _ _ (by rfl) w.heap.size (verL v0 q0 d0) (by rfl) (by rfl) 27 _ (unhide RDj) 5 size27 rfl rfl (verL_one _ _ _) ?_; intro wy ho hr; have HO := hide ho; have HR2 := hide hr; clear ho hr b0 b1 b2 b3 b4)
          refine bodyPost_ret (v := .tuple #[.agg (verL v0 q0 d0).toArray, .bool true]) (results_ver rfl _ _ _ _ rfl rfl (unhide HR2) rfl) rfl ?_
          exact ⟨v0, q0, d0, true, rfl, unhide H50, ((unhide H60).after (unhide HZ)).onlyNe (unhide HO) (unhide HNE0), (below_grow (unhide HB) (Nat.le_refl _) (unhide HZ)).trans ((unhide HO).below (Nat.le_refl _)), .inl ⟨rfl, unhide HWW⟩⟩)
    · have hc1 : ¬ cL = 1 := by omega
      go_wp2_with (refine store_row (by rfl) 27 _ _ (by rfl) w1.heap.size (verL v0 q0 d0) (by rfl) (by rfl) 27 zero27 (VRow.newAt rfl) 5 size27 rfl rfl (verL_one _ _ _) ?_; intro wz ho hr; have HZ := hide ((below_alloc' (w := w1) (.cells zero27.toArray 27)).trans (ho.below (Nat.le_refl _))); have RZ := hide hr; clear ho hr x0 x1 x2 x3 x4)
      go_loopw [20] (fun i wr => ∃ (k j : Nat) (b : Vc.V) (q : Option Addr) (d : Nat), k ≤ n ∧ i = .int .i64 k ∧ Pick LV (k + 1) j b ∧ b.past.length ≤ d ∧ Sl w1 q b.past ∧ (∀ ad, q = some ad → 0 < b.past.length → ad.block ≠ w.heap.size) ∧ VRow wr w1.heap.size 27 (verL b q d) ∧ Below w1.heap.size w1 wr) (fun i _ => n - (intOf i).toNat)
      case atStart => exact ⟨0, 0, v0, q0, d0, Nat.zero_le _, rfl, unhide HP0, unhide H50, unhide H60, unhide HNE0, unhide RZ, unhide HZ⟩
      case round =>
        obtain ⟨k, j, b, q, d, hk, rfl, hpk, hbd, hsb, hneb, hrb, hb⟩ := hrel
        have HPK := hide hpk
        have HBD := hide hbd
        have HSB := hide hsb
        have HNEB := hide hneb
        have RB := hide hrb
        have HBr := hide hb
        clear hpk hbd hsb hneb hrb hb
        by_cases hlt : k < n
        · obtain ⟨v, hx⟩ : ∃ d, LV[k + 1]? = some d := ⟨_, List.getElem?_eq_getElem (by have := unhide HLEN; omega)⟩
          obtain ⟨qv, dv, y0, y1, y2, y3, y4, y5, y6, y7⟩ := unhide HLV1 k v hlt hx
          have x0 := ((unhide HBr).cell (p := ⟨g, o + 5 + k * 5, none⟩) (unhide HG)).trans y0
          have x1 := ((unhide HBr).cell (p := ⟨g, o + 5 + k * 5 + 1, none⟩) (unhide HG)).trans y1
          have x2 := ((unhide HBr).cell (p := ⟨g, o + 5 + k * 5 + 2, none⟩) (unhide HG)).trans y2
          have x3 := ((unhide HBr).cell (p := ⟨g, o + 5 + k * 5 + 3, none⟩) (unhide HG)).trans y3
          have x4 := ((unhide HBr).cell (p := ⟨g, o + 5 + k * 5 + 4, none⟩) (unhide HG)).trans y4
          obtain ⟨st1, st2⟩ := (unhide HPK).step hx
          have ST1 := hide st1
          have ST2 := hide st2
          have Y5 := hide y5
          have Y6 := hide y6
          have Y7 := hide y7
          have K := hide fun W => wins_any v b qv q dv d W
          have HBLT : Hid (w1.heap.size < wr.heap.size) := hide (unhide RB).lt
          unfold verL at K
          clear hx y0 y1 y2 y3 y4 y5 y6 y7 st1 st2
          go_wp2_with (refine store_row (by rfl) 27 _ _ (by rfl) wr.heap.size (verL v qv dv) (by rfl) (by rfl) 27 zero27 (VRow.newAt rfl) 5 size27 rfl rfl (verL_one _ _ _) ?_; intro wy ho hr; have HY := hide ((below_alloc' (w := wr) (.cells zero27.toArray 27)).trans (ho.below (Nat.le_refl _))); have RY := hide hr; clear ho hr x0 x1 x2 x3 x4; have z0 := (unhide RY).cell 0 _ rfl; have z1 := (unhide RY).cell 1 _ rfl; have z2 := (unhide RY).cell 2 _ rfl; have z3 := (unhide RY).cell 3 _ rfl; have z4 := (unhide RY).cell 4 _ rfl; have RBy := hide ((unhide RB).after (unhide HY)); have b0 := (unhide RBy).cell 0 _ rfl; have b1 := (unhide RBy).cell 1 _ rfl; have b2 := (unhide RBy).cell 2 _ rfl; have b3 := (unhide RBy).cell 3 _ rfl; have b4 := (unhide RBy).cell 4 _ rfl)
          refine (unhide K _).mono ?_
          rintro e w2 ⟨rfl, hb2⟩
          have HB2 := hide (below_grow (below_grow (unhide HBr) (Nat.le_refl _) (unhide HY)) (Nat.le_refl _) hb2)
          have RY2 := hide ((unhide RY).after hb2)
          have RB2 := hide ((unhide RBy).after hb2)
          clear hb2 z0 z1 z2 z3 z4 b0 b1 b2 b3 b4 RY RBy HY K
          generalize winsV v b = X at ST1 ST2 ⊢
          cases X with
          | true =>
            have z0 := (unhide RY2).cell 0 _ rfl
            have z1 := (unhide RY2).cell 1 _ rfl
            have z2 := (unhide RY2).cell 2 _ rfl
            have z3 := (unhide RY2).cell 3 _ rfl
            have z4 := (unhide RY2).cell 4 _ rfl
            go_wp2_with (refine store_row (by rfl) 27 _ _ (by rfl) w1.heap.size (verL v qv dv) (by rfl) (by rfl) 27 (verL b q d) (unhide RB2) 5 size27 rfl rfl (verL_one _ _ _) ?_; intro w3 ho hr; have HB3 := hide ((unhide HB2).trans (ho.below (Nat.le_refl _))); have RB3 := hide hr; clear ho hr z0 z1 z2 z3 z4)
            go_roundw
            case rel => exact ⟨k + 1, k + 1, v, qv, dv, by omega, by go_num, unhide ST1 (by simp), unhide Y5, unhide Y6, unhide Y7, unhide RB3, unhide HB3⟩
            case measure => simp [intOf]; omega
          | false =>
            go_wp2_with fail
            go_roundw
            case rel => exact ⟨k + 1, j, b, q, d, by omega, by go_num, unhide ST2 (by simp), unhide HBD, unhide HSB, unhide HNEB, unhide RB2, unhide HB2⟩
            case measure => simp [intOf]; omega
        · obtain rfl : k = n := by omega
          have HWW : Hid (winner vs = some b) := hide ((unhide HRR).trans (unhide HWIN j b (by rw [unhide HLEN]; exact unhide HPK)))
          have b0 := (unhide RB).cell 0 _ rfl
          have b1 := (unhide RB).cell 1 _ rfl
          have b2 := (unhide RB).cell 2 _ rfl
          have b3 := (unhide RB).cell 3 _ rfl
          have b4 := (unhide RB).cell 4 _ rfl
          have RDj := hide ((unhide RD).after (unhide HBr))
          go_wp2_with (refine store_row (by rfl) 27 _ _ (by rfl) w.heap.size (verL b q d) (by rfl) (by rfl) 27 _ (unhide RDj) 5 size27 rfl rfl (verL_one _ _ _) ?_; intro wy ho hr; have HO := hide ho; have HR2 := hide hr; clear ho hr b0 b1 b2 b3 b4)
          refine bodyPost_ret (v := .tuple #[.agg (verL b q d).toArray, .bool true]) (results_ver rfl _ _ _ _ rfl rfl (unhide HR2) rfl) rfl ?_
          exact ⟨b, q, d, true, rfl, unhide HBD, ((unhide HSB).after (unhide HBr)).onlyNe (unhide HO) (unhide HNEB), (below_grow (unhide HB) (Nat.le_refl _) (unhide HBr)).trans ((unhide HO).below (Nat.le_refl _)), .inl ⟨rfl, unhide HWW⟩⟩
end Go.Proofs.Ytbghekolfcakeaa
