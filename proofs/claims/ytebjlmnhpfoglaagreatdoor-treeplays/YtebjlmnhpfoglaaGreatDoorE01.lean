/-
  The walk of the statement on trees that come of one another. Conditions: those that each theorem names.
-/
import Derived.Test.YtebjlmnhpfoglaaGreatDoorB25
import Derived.Test.YtebjlmnhpfoglaaGreatDoorD01
namespace Go.Proofs.YtebjlmnhpfoglaaGreatDoor
open Go.RowKit

theorem ent_few6 {T : List En} (h : Tr T) : ∀ x ∈ T, x.2.length ≤ 100000 ∧ ∀ v ∈ x.2, v.past.length ≤ 100000 := fun x hx => ⟨Nat.le_trans (leaf_fewT (h.leaf x hx).2).2 (show 64 ≤ 100000 by omega), fun v hv => Nat.le_trans (leaf_pasts (h.leaf x hx).2 v hv) (show 64 ≤ 100000 by omega)⟩
theorem get_few {t : List En} (ht : Tr t) (p : ByteArray) : Few (getT t p) := by
  by_cases h : getT t p = []
  · rw [h]; exact ⟨by decide, fun v hv => by cases hv⟩
  · exact (leaf_fewT (ht.leaf _ (getT_some h)).2).1
theorem keepPl {w W W' : World} {q r : Option Addr} {T : List En} {B i : Nat} {x : Value} (h : W.cell? ⟨B, i, none⟩ = some x ∧ StOf w q r T W) (hb : Below W.heap.size W W') :
    W'.cell? ⟨B, i, none⟩ = some x ∧ StOf w q r T W' :=
  ⟨(hb.cell (p := ⟨B, i, none⟩) (block_lt_of_cell h.1)).trans h.1, h.2.after hb⟩

set_option maxRecDepth 100000 in
set_option maxHeartbeats 6000000 in
theorem plays_walk (a : Option Addr) (cap : Nat) (l : List En) (hl : l.length ≤ 9223372036854775807) (he : ∀ x ∈ l, EnOk x) (w : World) (h : EL w a l) (hE : Env w) :
    Calls Tryz.prog 3 #[.slice a l.length cap] w fun e w' => e = .returned (.bool true) ∧ Below w.heap.size w w' := by
  have KG := hide (greatE_any a cap l 30 (by omega) hl (fun x hx => (he x hx).1) w h)
  have HS := hide h
  have HE := hide hE
  have HOK := hide he
  have KA := hide fun W (h : Env W) => awakeT_any W h
  clear h hE he
  go_enter Tryz.func3, Tryz.ntmps3
  go_wp2_with fail
  refine (unhide KG).mono ?_
  rintro e w1 ⟨D, rfl, hD, hb⟩
  have HB1 := hide hb
  have HE1 := hide ((unhide HE).below hb)
  have HS1 := hide ((unhide HS).after hb)
  clear hb KG
  cases D with
  | true =>
    clear hD
    go_wp2_with fail
    refine (unhide KA w1 (unhide HE1)).mono ?_
    rintro e w2 ⟨rfl, hb⟩
    have HB2 := hide (below_grow (unhide HB1) (Nat.le_refl _) hb)
    clear hb
    go_wp2_with fail
    go_ret
    exact ⟨rfl, unhide HB2⟩
  | false =>
    have HEOK := hide (eok_of (hD rfl) (by omega) (unhide HOK))
    obtain ⟨n, hn⟩ : ∃ n, l.length = n := ⟨_, rfl⟩
    have HN := hide hn
    have hn30 : n ≤ 30 := by rw [← hn]; exact (hD rfl).1
    rw [hn]
    have HB0 := hide (below_alloc' (w := w1) (.cells #[.slice none 0 0] 27))
    have HP0 : Hid (StOf w (some ⟨w1.heap.size, 0, none⟩) none [] (w1.alloc (.cells #[.slice none 0 0] 27))) := hide ⟨below_grow (unhide HB1) (Nat.le_refl _) (unhide HB0), (unhide HE1).below (unhide HB0), .inr ⟨w1.heap.size, none, 0, rfl, (VRow.new w1 27 [.slice none 0 0]).lt, (VRow.new w1 27 [.slice none 0 0]).cell 0 _ rfl, Nat.le_refl _, EL.none _ _⟩, EL.none _ _⟩
    clear hD HOK hn hl
    go_wp2_with fail
    go_loopw [3, 4, 5] (fun t m i wr => ∃ (k : Nat) (q r : Option Addr) (c : Nat) (T : List En), k ≤ n ∧ i = .int .i64 k ∧ t = .pointer q ∧ m = .slice r T.length c ∧ T.length ≤ c ∧ Tr T ∧ StOf w q r T wr) (fun _ _ i _ => n - (intOf i).toNat)
    case atStart => exact ⟨0, _, none, 0, [], Nat.zero_le _, rfl, rfl, rfl, Nat.le_refl _, Tr.nil, unhide HP0⟩
    case round =>
      obtain ⟨k, q, r, c, T, hk, rfl, rfl, rfl, hc, htr, hst⟩ := hrel
      have HPr := hide hst
      have HTR := hide htr
      have HC := hide hc
      clear hst htr hc HP0 HB0
      by_cases hlt : k < n
      · obtain ⟨x, hx⟩ : ∃ x, l[k]? = some x := ⟨_, List.getElem?_eq_getElem (by rw [unhide HN]; exact hlt)⟩
        obtain ⟨g0, o0, rfl, hg0, hcell0⟩ := unhide HS (by rw [unhide HN]; omega)
        obtain ⟨q5, d, y0, y1, h5, h6⟩ := hcell0 k x hx
        have hb := (unhide HPr).b
        have x0 := (hb.cell (p := ⟨g0, o0 + k * 2, none⟩) hg0).trans y0
        have x1 := (hb.cell (p := ⟨g0, o0 + k * 2 + 1, none⟩) hg0).trans y1
        have HG : Hid (g0 < wr.heap.size) := hide (Nat.lt_of_lt_of_le hg0 hb.size)
        have H6 := hide (h6.after hb)
        have hxm := List.mem_of_getElem? hx
        have HPX := hide ((unhide HEOK).path x hxm)
        have hfx := (unhide HEOK).few x hxm
        have KS := hide fun W (h1 : TrAt W q T) (h2 : SV W q5 x.2) => treeSet_any q T (unhide HTR) x.1 (by have := unhide HPX; omega) q5 d x.2 hfx W h1 h2
        have KM := hide fun W (h1 : EL W r T) (h2 : SV W q5 x.2) => refSetT_any r c T (unhide HTR).eok x.1 (unhide HPX) q5 d x.2 hfx h5 W h1 h2
        have HTS := hide fun (h0 : (setT T x.1 x.2).2 = 0) => (unhide HTR).set h0
        obtain ⟨S, hS⟩ : ∃ S, setT T x.1 x.2 = S := ⟨_, rfl⟩
        rw [hS] at KS KM HTS
        obtain ⟨TS, ES⟩ := S
        dsimp only at HTS
        have hEE : (ES == ES) = true := by simp
        have hEN : (ES != ES) = false := by simp
        clear hcell0 hx h6 hg0 hxm hS hb y0 y1
        go_wp2_with fail
        go_region_held3 (fun w' => w'.cell? ⟨g0, o0 + k * 2, none⟩ = some (.string x.1) ∧ w'.cell? ⟨g0, o0 + k * 2 + 1, none⟩ = some (.slice q5 x.2.length d) ∧ Below wr.heap.size wr w')
          (first | exact keepE (unhide HG) (by assumption) (by assumption) | exact drewE x0 x1)
          (first
            | (go_at_call 11; refine (unhide KS _ ((unhide HPr).t.after (And.right (And.right (by assumption)))) ((unhide H6).after (And.right (And.right (by assumption))))).mono ?_; rintro e w4 ⟨q4, rfl, ht4, hq4, hb4⟩))
        rename_i hHeld
        have HP4 := hide ((unhide HPr).after hHeld.2.2)
        have HT4 := hide ht4
        have HQ4 := hide hq4
        have H64 := hide ((unhide H6).after hHeld.2.2)
        have HG4 : Hid (g0 < w4.heap.size) := hide (Nat.lt_of_lt_of_le (unhide HG) hHeld.2.2.size)
        have x0' := hHeld.1
        have x1' := hHeld.2.1
        clear hHeld ht4 hq4 hb4 KS x0 x1 H6 HPr HG
        go_wp2_with fail
        go_region_held3 (fun w' => w'.cell? ⟨g0, o0 + k * 2, none⟩ = some (.string x.1) ∧ w'.cell? ⟨g0, o0 + k * 2 + 1, none⟩ = some (.slice q5 x.2.length d) ∧ Below w4.heap.size w4 w')
          (first | exact keepE (unhide HG4) (by assumption) (by assumption) | exact drewE x0' x1')
          (first
            | (go_at_call 12; refine (unhide KM _ ((unhide HP4).m.after (And.right (And.right (by assumption)))) ((unhide H64).after (And.right (And.right (by assumption))))).mono ?_; rintro e w5 ⟨r5, c5, rfl, hc5, hel5, hb5⟩))
        rename_i hHeld
        have HP5 := hide ((unhide HP4).after hHeld.2.2)
        have HT5 := hide ((unhide HT4).after hHeld.2.2)
        have HM5 := hide hel5
        have HC5 := hide hc5
        have x0 := hHeld.1
        try dsimp only at HT5 HM5 HC5
        clear hHeld hel5 hc5 hb5 KM x0' x1' H64 HP4 HT4 HG4
        by_cases h0 : ES = 0
        · subst h0
          have HT6 := hide (unhide HTS rfl)
          have HP6 := hide (show StOf w q4 r5 TS w5 from ⟨(unhide HP5).b, (unhide HP5).e, unhide HT5, unhide HM5⟩)
          clear HP5 HT5 HM5 HQ4 HTS HTR HC
          have KL := hide fun W (h : StOf w q4 r5 TS W) => len_any q4 TS W h.t
          have KEn := hide fun W (h : StOf w q4 r5 TS W) => entries_any q4 TS (by have := (unhide HT6).few; omega) (ent_few6 (unhide HT6)) W h.t
          have KSm := hide fun r1 c1 W h1 (h : StOf w q4 r5 TS W) => refSameT_any r1 r5 c1 c5 TS TS (unhide HT6).eok (unhide HT6).eok W h1 h.m true (by simp)
          have KGe := hide fun W (h : StOf w q4 r5 TS W) => treeGet_any q4 TS (unhide HT6) x.1 (by have := unhide HPX; unfold maxLen; omega) W h.t
          have KGr := hide fun W (h : StOf w q4 r5 TS W) => refGetT_any r5 c5 TS (by have := (unhide HT6).few; omega) x.1 W W (Below.refl _ _) h.m
          have KSv := hide fun r1 r2 c1 c2 W h1 h2 => refSameVs_any r1 r2 c1 c2 (getT TS x.1) (getT TS x.1) (get_few (unhide HT6) x.1) (get_few (unhide HT6) x.1) W h1 h2 true (by simp)
          obtain ⟨gl, hgl⟩ : ∃ gl, getT TS x.1 = gl := ⟨_, rfl⟩
          rw [hgl] at KGe KGr KSv
          clear hgl
          have HS0 := hide (show w5.drew.cell? ⟨g0, o0 + k * 2, none⟩ = some (.string x.1) ∧ StOf w q4 r5 TS w5.drew from ⟨x0, (unhide HP6).after (below_drew (Below.refl _ _))⟩)
          obtain ⟨nT, hnT⟩ : ∃ nT, TS.length = nT := ⟨_, rfl⟩
          rw [hnT] at KL KSm KGr
          have HNT := hide hnT
          clear hnT x0
          rw [unhide HNT]
          go_wp2_with fail
          go_region_held3 (fun w' => w'.cell? ⟨g0, o0 + k * 2, none⟩ = some (.string x.1) ∧ StOf w q4 r5 TS w')
            (first | assumption | exact unhide HS0 | exact keepPl (by assumption) (by assumption))
            (first
              | (go_at_call 13; refine (unhide KL _ (And.right (by assumption))).mono ?_; rintro e w6 ⟨rfl, rfl⟩)
              | (go_at_call 15; refine (unhide KEn _ (And.right (by assumption))).mono ?_; rintro e w7 ⟨r7, c7, rfl, _, hel7, hb7⟩; rw [unhide HNT])
              | (go_at_call 14; refine (unhide KSm r7 c7 _ hel7 (And.right (by assumption))).mono ?_; rintro e w8 ⟨rfl, hb8⟩)
              | (go_at_call 17; refine (unhide KGe _ (And.right (by assumption))).mono ?_; rintro e w9 ⟨r9, c9, rfl, _, hsv9, _, hb9⟩)
              | (go_at_call 18; refine (unhide KGr _ (And.right (by assumption))).mono ?_; rintro e w0 ⟨r10, c10, rfl, _, hsv10, rfl⟩)
              | (go_at_call 16; refine (unhide KSv r9 r10 c9 c10 _ hsv9 (by first | exact hsv10 | exact hsv10.after hb9)).mono ?_; rintro e w11 ⟨rfl, hb11⟩))
          rename_i hHeld
          have HP7 := hide hHeld.2
          clear hHeld KL KEn KSm KGe KGr KSv HS0
          go_wp2_with fail
          go_roundw
          case rel => exact ⟨k + 1, q4, r5, c5, TS, by omega, by go_num, rfl, by rw [unhide HNT], unhide HC5, unhide HT6, unhide HP7⟩
          case measure => simp [intOf]; omega
        · have hne : (ES == 0) = false := beq_eq_false_iff_ne.2 h0
          have hne' : (ES != 0) = true := bne_iff_ne.2 h0
          obtain rfl : q4 = none := unhide HQ4 h0
          have HT6 := HTR
          have HP6 := HP5
          clear HP5 HT5 HM5 HQ4 HTS HTR HC5
          have KL := hide fun W (h : StOf w q r T W) => len_any q T W h.t
          have KEn := hide fun W (h : StOf w q r T W) => entries_any q T (by have := (unhide HT6).few; omega) (ent_few6 (unhide HT6)) W h.t
          have KSm := hide fun r1 c1 W h1 (h : StOf w q r T W) => refSameT_any r1 r c1 c T T (unhide HT6).eok (unhide HT6).eok W h1 h.m true (by simp)
          have KGe := hide fun W (h : StOf w q r T W) => treeGet_any q T (unhide HT6) x.1 (by have := unhide HPX; unfold maxLen; omega) W h.t
          have KGr := hide fun W (h : StOf w q r T W) => refGetT_any r c T (by have := (unhide HT6).few; omega) x.1 W W (Below.refl _ _) h.m
          have KSv := hide fun r1 r2 c1 c2 W h1 h2 => refSameVs_any r1 r2 c1 c2 (getT T x.1) (getT T x.1) (get_few (unhide HT6) x.1) (get_few (unhide HT6) x.1) W h1 h2 true (by simp)
          obtain ⟨gl, hgl⟩ : ∃ gl, getT T x.1 = gl := ⟨_, rfl⟩
          rw [hgl] at KGe KGr KSv
          clear hgl
          have HS0 := hide (show w5.drew.cell? ⟨g0, o0 + k * 2, none⟩ = some (.string x.1) ∧ StOf w q r T w5.drew from ⟨x0, (unhide HP6).after (below_drew (Below.refl _ _))⟩)
          obtain ⟨nT, hnT⟩ : ∃ nT, T.length = nT := ⟨_, rfl⟩
          rw [hnT] at KL KSm KGr
          have HNT := hide hnT
          clear hnT x0
          rw [unhide HNT]
          go_wp2_with fail
          go_region_held3 (fun w' => w'.cell? ⟨g0, o0 + k * 2, none⟩ = some (.string x.1) ∧ StOf w q r T w')
            (first | assumption | exact unhide HS0 | exact keepPl (by assumption) (by assumption))
            (first
              | (go_at_call 13; refine (unhide KL _ (And.right (by assumption))).mono ?_; rintro e w6 ⟨rfl, rfl⟩)
              | (go_at_call 15; refine (unhide KEn _ (And.right (by assumption))).mono ?_; rintro e w7 ⟨r7, c7, rfl, _, hel7, hb7⟩; rw [unhide HNT])
              | (go_at_call 14; refine (unhide KSm r7 c7 _ hel7 (And.right (by assumption))).mono ?_; rintro e w8 ⟨rfl, hb8⟩)
              | (go_at_call 17; refine (unhide KGe _ (And.right (by assumption))).mono ?_; rintro e w9 ⟨r9, c9, rfl, _, hsv9, _, hb9⟩)
              | (go_at_call 18; refine (unhide KGr _ (And.right (by assumption))).mono ?_; rintro e w0 ⟨r10, c10, rfl, _, hsv10, rfl⟩)
              | (go_at_call 16; refine (unhide KSv r9 r10 c9 c10 _ hsv9 (by first | exact hsv10 | exact hsv10.after hb9)).mono ?_; rintro e w11 ⟨rfl, hb11⟩))
          rename_i hHeld
          have HP7 := hide hHeld.2
          clear hHeld KL KEn KSm KGe KGr KSv HS0
          go_wp2_with fail
          go_roundw
          case rel => exact ⟨k + 1, q, r, c, T, by omega, by go_num, rfl, by rw [unhide HNT], unhide HC, unhide HT6, unhide HP7⟩
          case measure => simp [intOf]; omega
      · obtain rfl : k = n := by omega
        go_wp2_with fail
        refine (unhide KA wr (unhide HPr).e).mono ?_
        rintro e w2 ⟨rfl, hb⟩
        have HB2 := hide (below_grow (unhide HPr).b (Nat.le_refl _) hb)
        clear hb
        go_wp2_with fail
        refine bodyPost_ret (results_tmp rfl _ _ _) rfl ⟨by first | rfl | simp, unhide HB2⟩
end Go.Proofs.YtebjlmnhpfoglaaGreatDoor
