/-
  The walk of the statement on dots that are added in whatever order.
-/
import Derived.Test.YtpcfblpenealbaaGapsLaw
namespace Go.Proofs.Ytpcfblpenealbaa
open Go.RowKit

theorem Held.only {W W' : World} {b b' : Nat} {r1 r2 : Option Addr} {c1 c2 : Nat} {B E : List Vc.D} (h : Held W b r1 r2 c1 c2 B E) {x y : Option Addr} {m n m' n' : Nat} (hr : VRow W b' 29 [.slice x m n, .slice y m' n']) (hne : b ≠ b') (ho : Only b' W W') : Held W' b r1 r2 c1 c2 B E :=
  ⟨h.row.only ho hne, h.l1, h.l2, h.s1.only hr (two_slices _ _ _ _ _ _) ho, h.s2.only hr (two_slices _ _ _ _ _ _) ho, h.ok⟩
theorem of_drop {l : List Vc.D} {j : Nat} {d : Vc.D} (h : l[j]? = some d) (x : Vc.D) : Vc.Of (l.drop j) x ↔ Vc.Of (l.drop (j + 1)) x ∨ (x = d ∧ Vc.Ok d) := by
  have hj := (List.getElem?_eq_some_iff.1 h).1
  unfold Vc.Of
  rw [List.drop_eq_getElem_cons hj, (List.getElem?_eq_some_iff.1 h).2, List.mem_cons]
  constructor
  · rintro ⟨rfl | h1, h2⟩
    · exact .inr ⟨rfl, h2⟩
    · exact .inl ⟨h1, h2⟩
  · rintro (⟨h1, h2⟩ | ⟨rfl, h2⟩)
    · exact ⟨.inr h1, h2⟩
    · exact ⟨.inl rfl, h2⟩
theorem hasS_of {B E : List Vc.D} (h : Vc.SetOk B E) (d : Vc.D) : hasS B E d = true ↔ Vc.In B E d := by
  unfold hasS
  rw [decide_eq_true_iff]
  simp [(Vc.checkS_zero B E).2 h]

set_option maxRecDepth 100000 in
set_option maxHeartbeats 8000000 in
theorem order_walk (a : Option Addr) (cap : Nat) (ls : List Vc.D) (p0 c0 : Int) (w : World) (h : Sl w a ls) :
    Calls Try.prog 6 #[.slice a ls.length cap, .agg #[.int .i64 p0, .int .i64 c0]] w fun e w' => e = .returned (.bool true) ∧ Below w.heap.size w w' := by
  have HS := hide h
  clear h
  by_cases h12 : 40 < ls.length
  · have hd : decide ((40 : Int) < (ls.length : Int)) = true := decide_eq_true (by omega)
    have HB0 := hide (below_alloc' (w := w) (.cells #[.int .i64 p0, .int .i64 c0] 26))
    go_enter Try.func6, Try.ntmps6
    go_wp2_with fail
    refine (awake_any _).mono ?_
    rintro e w1 ⟨rfl, hb⟩
    have HB := hide (below_grow (unhide HB0) (Nat.le_refl _) hb)
    clear hb
    go_wp2_with fail
    go_ret
    exact ⟨rfl, unhide HB⟩
  · have hd : decide ((40 : Int) < (ls.length : Int)) = false := decide_eq_false (by omega)
    have HB0 := hide (((below_alloc' (w := w) (.cells #[.int .i64 p0, .int .i64 c0] 26)).alloc (by simp) (.cells #[.slice none 0 0, .slice none 0 0] 29)).alloc (by simp; omega) (.cells #[.slice none 0 0, .slice none 0 0] 29))
    have RA := hide (((VRow.new w 26 [.int .i64 p0, .int .i64 c0]).alloc (.cells #[.slice none 0 0, .slice none 0 0] 29)).alloc (.cells #[.slice none 0 0, .slice none 0 0] 29))
    have RS := hide ((VRow.newAt (W := w.alloc (.cells #[.int .i64 p0, .int .i64 c0] 26)) (T := 29) (n := w.heap.size + 1) (vs := [.slice none 0 0, .slice none 0 0]) (by simp)).alloc (.cells #[.slice none 0 0, .slice none 0 0] 29))
    have RT := hide (VRow.newAt (W := (w.alloc (.cells #[.int .i64 p0, .int .i64 c0] 26)).alloc (.cells #[.slice none 0 0, .slice none 0 0] 29)) (T := 29) (n := w.heap.size + 1 + 1) (vs := [.slice none 0 0, .slice none 0 0]) (by simp))
    go_enter Try.func6, Try.ntmps6
    go_wp2_with (first
      | (refine store_row (by rfl) 29 _ _ (by rfl) (w.heap.size + 1) [.slice none 0 0, .slice none 0 0] (by rfl) (by rfl) 29 [.slice none 0 0, .slice none 0 0] (unhide RS) 2 size29 rfl rfl (two_one _ _ _ _ _ _) ?_; intro w0 ho hr; have HB1 := hide ((unhide HB0).trans (ho.below (by omega))); have RS1 := hide hr; have RA1 := hide ((unhide RA).only ho (by omega)); have RT1 := hide ((unhide RT).only ho (by omega)); clear ho hr)
      | (refine store_row (by rfl) 29 _ _ (by rfl) (w.heap.size + 1 + 1) [.slice none 0 0, .slice none 0 0] (by rfl) (by rfl) 29 [.slice none 0 0, .slice none 0 0] (unhide RT1) 2 size29 rfl rfl (two_one _ _ _ _ _ _) ?_; intro w00 ho hr; have HB2 := hide ((unhide HB1).trans (ho.below (by omega))); have RT2 := hide hr; have RA2 := hide ((unhide RA1).only ho (by omega)); have RS2 := hide ((unhide RS1).only ho (by omega)); clear ho hr))
    clear HB0 HB1 RA RA1 RS RS1 RT RT1
    go_loopw [7, 8, 9] (fun x y i wr => ∃ (k : Nat) (hs : Bool) (N : Int) (r1 r2 : Option Addr) (c1 c2 : Nat) (B E : List Vc.D) (q1 q2 : Option Addr) (e1 e2 : Nat) (B2 E2 : List Vc.D), k ≤ ls.length ∧ x = .bool hs ∧ y = .int .i64 N ∧ i = .int .i64 k ∧ Held wr (w.heap.size + 1) r1 r2 c1 c2 B E ∧ Held wr (w.heap.size + 1 + 1) q1 q2 e1 e2 B2 E2 ∧ VRow wr w.heap.size 26 [.int .i64 p0, .int .i64 c0] ∧
        (∀ x, Vc.In B E x ↔ Vc.Of (ls.take k) x) ∧ (∀ x, Vc.In B2 E2 x ↔ Vc.Of (ls.drop (ls.length - k)) x) ∧ N = Vc.card B E ∧ (hs = true ↔ Vc.Of (ls.take k) (p0, c0)) ∧ E.length ≤ k ∧ E2.length ≤ k ∧ Below w.heap.size w wr) (fun _ _ i _ => ls.length - (intOf i).toNat)
    case atStart =>
      refine ⟨0, false, 0, none, none, 0, 0, [], [], none, none, 0, 0, [], [], Nat.zero_le _, rfl, rfl, rfl, held_nil (unhide RS2), held_nil (unhide RT2), unhide RA2, fun x => ⟨fun hx => absurd hx (Vc.in_nil x), fun hx => (by cases hx.1)⟩, fun x => ⟨fun hx => absurd hx (Vc.in_nil x), fun hx => ?_⟩, rfl, ⟨fun h => (by cases h), fun h => (by cases h.1)⟩, Nat.le_refl _, Nat.le_refl _, unhide HB2⟩
      rw [Nat.sub_zero, List.drop_length] at hx
      cases hx.1
    case round =>
      obtain ⟨k, hs, N, r1, r2, c1, c2, B, E, q1, q2, e1, e2, B2, E2, hk, rfl, rfl, rfl, hheld, hheld2, hra, hin, hin2, hN, hhs, hEl, hEl2, hb⟩ := hrel
      have HH := hide hheld
      have HT := hide hheld2
      have RA := hide hra
      have HI := hide hin
      have HI2 := hide hin2
      have HHS := hide hhs
      have HN := hide hN
      have HB := hide hb
      have hBl := hheld.short
      have hBl2 := hheld2.short
      have hN0 := Vc.card_bd hheld.ok
      rw [← hN] at hN0
      have S := hide ((unhide HS).after hb)
      have k0 := hheld.row.cell 0 _ rfl
      have k1 := hheld.row.cell 1 _ rfl
      clear hheld hheld2 hra hin hin2 hhs hN hb HB2 RS2 RT2 RA2
      by_cases hlt : k < ls.length
      · obtain ⟨⟨p, c⟩, hx⟩ : ∃ d, ls[k]? = some d := ⟨_, List.getElem?_eq_getElem hlt⟩
        obtain ⟨j, hj⟩ : ∃ j : Nat, j = ls.length - 1 - k := ⟨_, rfl⟩
        obtain ⟨⟨p', c'⟩, hy⟩ : ∃ d, ls[j]? = some d := ⟨_, List.getElem?_eq_getElem (by omega)⟩
        obtain ⟨g, o, rfl, hg, hcell⟩ := unhide S (by omega)
        have d0 : wr.cell? ⟨g, o + k * 2, none⟩ = some (.int .i64 p) := (hcell k _ hx).1
        have d1 : wr.cell? ⟨g, o + k * 2 + 1, none⟩ = some (.int .i64 c) := (hcell k _ hx).2
        have f0 : wr.cell? ⟨g, o + j * 2, none⟩ = some (.int .i64 p') := (hcell j _ hy).1
        have f1 : wr.cell? ⟨g, o + j * 2 + 1, none⟩ = some (.int .i64 c') := (hcell j _ hy).2
        have HX := hide hx
        have HY := hide hy
        have HF0 := hide f0
        have HF1 := hide f1
        have HD0 := hide d0
        have HD1 := hide d1
        have hjl : j < ls.length := by omega
        have HJ : Hid (ls.length - k = j + 1 ∧ ls.length - (k + 1) = j) := hide ⟨by omega, by omega⟩
        have hw1 : IntKind.i64.wrap ((ls.length : Int) - 1) = (ls.length : Int) - 1 := wrap_small (by omega) (by omega)
        have hw2 : IntKind.i64.wrap ((ls.length : Int) - 1 - (k : Int)) = (j : Int) := by rw [show (ls.length : Int) - 1 - (k : Int) = (j : Int) by omega]; exact wrap_small (by omega) (by omega)
        have hw3 : IntKind.i64.wrap (N + 1) = N + 1 := wrap_small (by omega) (by omega)
        have K := hide fun W h h' => add_any r1 r2 c1 c2 B E (by omega) (by omega) (unhide HH).l2 p c W h h'
        have KT := hide fun W h h' => add_any q1 q2 e1 e2 B2 E2 (by omega) (by omega) (unhide HT).l2 p' c' W h h'
        have SB : Hid (∀ w', Below wr.heap.size wr w' → w'.cell? ⟨w.heap.size + 1, 0, none⟩ = some (.slice r1 B.length c1) ∧ w'.cell? ⟨w.heap.size + 1, 1, none⟩ = some (.slice r2 E.length c2) ∧ w'.cell? ⟨g, o + k * 2, none⟩ = some (.int .i64 p) ∧ w'.cell? ⟨g, o + k * 2 + 1, none⟩ = some (.int .i64 c) ∧ Below wr.heap.size wr w') :=
          hide (fun w' hb => ⟨(hb.cell (block_lt_of_cell k0)).trans k0, (hb.cell (block_lt_of_cell k1)).trans k1, (hb.cell (block_lt_of_cell d0)).trans d0, (hb.cell (block_lt_of_cell d1)).trans d1, hb⟩)
        clear hx hy hg hcell hj k0 k1 d0 d1 f0 f1
        go_wp2_with fail
        go_region_held3 (fun w' => w'.cell? ⟨w.heap.size + 1, 0, none⟩ = some (.slice r1 B.length c1) ∧ w'.cell? ⟨w.heap.size + 1, 1, none⟩ = some (.slice r2 E.length c2) ∧ w'.cell? ⟨g, o + k * 2, none⟩ = some (.int .i64 p) ∧ w'.cell? ⟨g, o + k * 2 + 1, none⟩ = some (.int .i64 c) ∧ Below wr.heap.size wr w')
          (first
            | exact unhide SB _ (below_drew (Below.refl _ _))
            | exact unhide SB _ (below_grow (And.right (And.right (And.right (And.right (by assumption))))) (Nat.le_refl _) (by assumption))
            | exact unhide SB _ (keep_alloc (And.right (And.right (And.right (And.right (by assumption))))) _)
            | exact unhide SB _ (keep_alloc (by assumption) _)
            | exact unhide SB _ (keep_store2 (And.right (And.right (And.right (And.right (by assumption))))) (by omega) _ _))
          (first
            | (go_at_call 20; refine (unhide K _ ((unhide HH).s1.after (And.right (And.right (And.right (And.right (by assumption)))))) ((unhide HH).s2.after (And.right (And.right (And.right (And.right (by assumption))))))).mono ?_; rintro e w3 ⟨v, B', E', is, rfl, ⟨s1, n1, s2, n2, rfl, hd1, hd2, t1, t2⟩, hb1, hEl', hgood, hbad⟩; have HG := hide hgood; have HBD := hide hbad; clear hgood hbad; have HB3 : Below wr.heap.size wr w3 := below_grow (And.right (And.right (And.right (And.right (by assumption))))) (Nat.le_refl _) hb1; try (have hn1 : VRow w3 wr.heap.size 29 [.slice none 0 0, .slice none 0 0] := (by refine VRow.after ?_ hb1; exact VRow.new wr 29 [.slice none 0 0, .slice none 0 0])); try (have kk0 := hn1.cell 0 _ rfl); try (have kk1 := hn1.cell 1 _ rfl); try (have kk2 := hn1.frozen 0); try (have kk3 := hn1.frozen 1)))
        · have RT := hide (VRow.new w3 29 [.slice s1 B'.length n1, .slice s2 E'.length n2])
          have T1 := hide (t1.after (below_alloc' (w := w3) (.cells #[.slice s1 B'.length n1, .slice s2 E'.length n2] 29)))
          have T2 := hide (t2.after (below_alloc' (w := w3) (.cells #[.slice s1 B'.length n1, .slice s2 E'.length n2] 29)))
          have HW := HB3.alloc HB3.size (.cells #[.slice s1 B'.length n1, .slice s2 E'.length n2] 29)
          obtain ⟨m1, m2, m3, m4⟩ := Vc.card_is (unhide HH).ok (unhide HG) (unhide HBD)
          have M1 := hide m1
          have M2 : Hid (∀ x, Vc.In B' E' x ↔ Vc.Of (ls.take (k + 1)) x) := hide (fun x => by rw [m2 x, unhide HI x, Vc.of_snoc (unhide HX) x])
          have M3 : Hid (Vc.card B' E' = N + if is = true then 1 else 0) := hide (by rw [m3, unhide HN])
          have HH4 := hide ((unhide HH).after HW)
          have HT4 := hide ((unhide HT).after HW)
          have RA4 := hide ((unhide RA).after HW)
          have HB4 := hide (below_grow (unhide HB) (Nat.le_refl _) HW)
          have HD1 := hide hd1
          have HD2 := hide hd2
          clear m1 m2 m3 m4 HG HBD HH HT RA HB HW HB3 hb1 t1 t2 hd1 hd2 SB K
          generalize w3.alloc (.cells #[.slice s1 B'.length n1, .slice s2 E'.length n2] 29) = w4 at RT T1 T2 HH4 HT4 RA4 HB4 ⊢
          have z0 := (unhide RT).cell 0 _ rfl
          have z1 := (unhide RT).cell 1 _ rfl
          by_cases his : is = true
          · subst his
            rw [if_pos rfl] at M3
            go_wp2_with (refine store_row (by rfl) 29 _ _ (by rfl) (w.heap.size + 1) [.slice s1 B'.length n1, .slice s2 E'.length n2] (by rfl) (by rfl) 29 _ (unhide HH4).row 2 size29 rfl rfl (two_one _ _ _ _ _ _) ?_; intro w5 ho hr; have HH5 := hide (Held.new rfl (unhide HH4).row ho hr (unhide HD1) (unhide HD2) (unhide T1) (unhide T2) (unhide M1)); have HT5 := hide ((unhide HT4).only (unhide HH4).row (by omega) ho); have RA5 := hide ((unhide RA4).only ho (by omega)); have HB5 := hide ((unhide HB4).trans (ho.below (by omega))); clear ho hr)
            have hv0 : VRow w5.drew (w.heap.size + 1 + 1) 29 [.slice q1 B2.length e1, .slice q2 E2.length e2] := (unhide HT5).row
            have K' := hide (unhide KT w5.drew ((unhide HT5).s1.after (below_drew (Below.refl _ _))) ((unhide HT5).s2.after (below_drew (Below.refl _ _))))
            have S5 := hide ((unhide HS).after (unhide HB5))
            have f0 : w5.cell? ⟨g, o + j * 2, none⟩ = some (.int .i64 p') := by obtain ⟨_, _, e, _, hcell⟩ := unhide S5 (by omega); cases e; exact (hcell j _ (unhide HY)).1
            have f1 : w5.cell? ⟨g, o + j * 2 + 1, none⟩ = some (.int .i64 c') := by obtain ⟨_, _, e, _, hcell⟩ := unhide S5 (by omega); cases e; exact (hcell j _ (unhide HY)).2
            have y0 := (unhide HT5).row.cell 0 _ rfl
            have y1 := (unhide HT5).row.cell 1 _ rfl
            clear z0 z1 RT T1 T2 HH4 HT4 RA4 HB4
            go_region_with (go_at_call 20; refine (unhide K').mono ?_; rintro e w6 ⟨v, B3, E3, is3, rfl, ⟨s3, n3, s4, n4, rfl, hd3, hd4, t3, t4⟩, hb3, hEl3, hgood, hbad⟩; have HG := hide hgood; have HBD := hide hbad; clear hgood hbad; have hv1 := hv0.after hb3; have kk0 := hv1.cell 0 _ rfl; have kk1 := hv1.cell 1 _ rfl; have kk2 := hv1.frozen 0; have kk3 := hv1.frozen 1)
            all_goals
              obtain ⟨m1, m2, m3, m4⟩ := Vc.card_is (unhide HT5).ok (unhide HG) (unhide HBD)
              have hO := (only_set w6 (w.heap.size + 1 + 1) 0 (.slice s3 B3.length n3)).trans (only_set _ (w.heap.size + 1 + 1) 1 (.slice s4 E3.length n4))
              have hb56 := (below_drew (Below.refl w5.heap.size w5)).trans hb3
              have HT7 := hide (Held.new rfl hv1 hO ((hv1.set 0 (.slice s3 B3.length n3)).set 1 (.slice s4 E3.length n4)) hd3 hd4 t3 t4 m1)
              have HH7 := hide (((unhide HH5).after hb56).only hv1 (by omega) hO)
              have RA7 := hide (((unhide RA5).after hb56).only hO (by omega))
              have HB7 := hide ((below_grow (unhide HB5) (Nat.le_refl _) hb56).trans (hO.below (by omega)))
              have M7 : Hid (∀ x, Vc.In B3 E3 x ↔ Vc.Of (ls.drop (ls.length - (k + 1))) x) := hide (fun x => by rw [(unhide HJ).2, of_drop (unhide HY) x, m2 x, unhide HI2 x, (unhide HJ).1])
              clear m1 m2 m3 m4 HG HBD hO hb56 hv1 hv0 kk0 kk1 kk2 kk3 t3 t4 hd3 hd4 hb3 HT5 HH5 RA5 HB5 K' f0 f1 y0 y1 S5
              go_wp2_with fail
              generalize (w6.setCell ⟨w.heap.size + 1 + 1, 0, none⟩ (.slice s3 B3.length n3)).setCell ⟨w.heap.size + 1 + 1, 1, none⟩ (.slice s4 E3.length n4) = w7 at HT7 HH7 RA7 HB7 ⊢
              have S7 := hide ((unhide HS).after (unhide HB7))
              have d0 : w7.cell? ⟨g, o + k * 2, none⟩ = some (.int .i64 p) := by obtain ⟨_, _, e, _, hcell⟩ := unhide S7 (by omega); cases e; exact (hcell k _ (unhide HX)).1
              have d1 : w7.cell? ⟨g, o + k * 2 + 1, none⟩ = some (.int .i64 c) := by obtain ⟨_, _, e, _, hcell⟩ := unhide S7 (by omega); cases e; exact (hcell k _ (unhide HX)).2
              have K13 := hide fun W h h' => setHas_any s1 s2 n1 n2 B' E' (by have := (unhide HH7).short; omega) (by omega) p0 c0 W h h'
              have HHN : Hid (∀ b : Bool, (b = true ↔ hs = true ∨ ((p, c) = (p0, c0) ∧ hasS B' E' (p0, c0) = true)) → (b = true ↔ Vc.Of (ls.take (k + 1)) (p0, c0))) := hide (fun b hb => by
                rw [hb, unhide HHS, hasS_of (unhide HH7).ok, unhide M2, Vc.of_snoc (unhide HX)]
                constructor
                · rintro (h | ⟨h, h'⟩)
                  · exact .inl h
                  · exact h'
                · rintro (h | ⟨h, h'⟩)
                  · exact .inl h
                  · exact .inr ⟨h.symm, .inr ⟨h, h'⟩⟩)
              generalize hasS B' E' (p0, c0) = H at K13 HHN
              have x0 := cell_regrown ((unhide HH7).row.cell 0 _ rfl)
              have x1 := cell_regrown ((unhide HH7).row.cell 1 _ rfl)
              have x2 := cell_regrown ((unhide RA7).cell 0 _ rfl)
              have x3 := cell_regrown ((unhide RA7).cell 1 _ rfl)
              have x4 := cell_regrown d0
              have x5 := cell_regrown d1
              have HREL : Hid (∀ (b : Bool) W, Below w7.heap.size w7 W → (b = true ↔ hs = true ∨ ((p, c) = (p0, c0) ∧ H = true)) → ∃ (k' : Nat) (hs : Bool) (N' : Int) (r1 r2 : Option Addr) (c1 c2 : Nat) (B E : List Vc.D) (q1 q2 : Option Addr) (e1 e2 : Nat) (B2 E2 : List Vc.D), k' ≤ ls.length ∧ Value.bool b = .bool hs ∧ Value.int .i64 (N + 1) = .int .i64 N' ∧ Value.int .i64 ((k : Int) + 1) = .int .i64 k' ∧ Held W (w.heap.size + 1) r1 r2 c1 c2 B E ∧ Held W (w.heap.size + 1 + 1) q1 q2 e1 e2 B2 E2 ∧ VRow W w.heap.size 26 [.int .i64 p0, .int .i64 c0] ∧
                    (∀ x, Vc.In B E x ↔ Vc.Of (ls.take k') x) ∧ (∀ x, Vc.In B2 E2 x ↔ Vc.Of (ls.drop (ls.length - k')) x) ∧ N' = Vc.card B E ∧ (hs = true ↔ Vc.Of (ls.take k') (p0, c0)) ∧ E.length ≤ k' ∧ E2.length ≤ k' ∧ Below w.heap.size w W) := hide (fun b W hW hb =>
                ⟨k + 1, b, N + 1, s1, s2, n1, n2, B', E', s3, s4, n3, n4, B3, E3, by omega, rfl, rfl, by go_num, (unhide HH7).after hW, (unhide HT7).after hW, (unhide RA7).after hW, unhide M2, unhide M7, by rw [unhide M3], unhide HHN b hb, by omega, by omega, below_grow (unhide HB7) (Nat.le_refl _) hW⟩)
              clear d0 d1 HT7 RA7 HB7 M2 M7 M3 HHN
              cases hs with
              | true =>
                go_quiet (fail)
                go_wp2_with fail
                go_roundw
                case rel => exact unhide HREL _ _ (below_drewN (Below.refl _ _) _) (by simp)
                case measure => simp [intOf]; omega
              | false =>
                by_cases hpp : p = p0
                · subst hpp
                  by_cases hcc : c = c0
                  · subst hcc
                    refine wp_region_quiet_below (by kernel_rfl) (by kernel_rfl) ?_
                    repeat (quiet_step (first | (go_at_call 13; exact Calls.regrown_of (unhide K13 _ ((unhide HH7).s1.after (below_regrown _ _ _)) ((unhide HH7).s2.after (below_regrown _ _ _))))))
                    refine wpQuiet_nil ?_
                    intro _ hw'
                    obtain ⟨⟨dq, osq⟩, hw''⟩ := hw'
                    subst hw''
                    go_wp2_with fail
                    go_roundw
                    case rel => exact unhide HREL _ _ (below_regrown _ _ _) (by simp)
                    case measure => simp [intOf]; omega
                  · refine wp_region_quiet_below (by kernel_rfl) (by kernel_rfl) ?_
                    repeat (quiet_step (fail))
                    refine wpQuiet_nil ?_
                    intro _ hw'
                    obtain ⟨⟨dq, osq⟩, hw''⟩ := hw'
                    subst hw''
                    go_wp2_with fail
                    go_roundw
                    case rel => exact unhide HREL _ _ (below_regrown _ _ _) (by simp [hcc])
                    case measure => simp [intOf]; omega
                · refine wp_region_quiet_below (by kernel_rfl) (by kernel_rfl) ?_
                  repeat (quiet_step (fail))
                  refine wpQuiet_nil ?_
                  intro _ hw'
                  obtain ⟨⟨dq, osq⟩, hw''⟩ := hw'
                  subst hw''
                  go_wp2_with fail
                  go_roundw
                  case rel => exact unhide HREL _ _ (below_regrown _ _ _) (by simp [hpp])
                  case measure => simp [intOf]; omega
          · obtain rfl : is = false := by simpa using his
            rw [if_neg (by simp)] at M3
            go_wp2_with (refine store_row (by rfl) 29 _ _ (by rfl) (w.heap.size + 1) [.slice s1 B'.length n1, .slice s2 E'.length n2] (by rfl) (by rfl) 29 _ (unhide HH4).row 2 size29 rfl rfl (two_one _ _ _ _ _ _) ?_; intro w5 ho hr; have HH5 := hide (Held.new rfl (unhide HH4).row ho hr (unhide HD1) (unhide HD2) (unhide T1) (unhide T2) (unhide M1)); have HT5 := hide ((unhide HT4).only (unhide HH4).row (by omega) ho); have RA5 := hide ((unhide RA4).only ho (by omega)); have HB5 := hide ((unhide HB4).trans (ho.below (by omega))); clear ho hr)
            have hv0 : VRow w5.drew (w.heap.size + 1 + 1) 29 [.slice q1 B2.length e1, .slice q2 E2.length e2] := (unhide HT5).row
            have K' := hide (unhide KT w5.drew ((unhide HT5).s1.after (below_drew (Below.refl _ _))) ((unhide HT5).s2.after (below_drew (Below.refl _ _))))
            have S5 := hide ((unhide HS).after (unhide HB5))
            have f0 : w5.cell? ⟨g, o + j * 2, none⟩ = some (.int .i64 p') := by obtain ⟨_, _, e, _, hcell⟩ := unhide S5 (by omega); cases e; exact (hcell j _ (unhide HY)).1
            have f1 : w5.cell? ⟨g, o + j * 2 + 1, none⟩ = some (.int .i64 c') := by obtain ⟨_, _, e, _, hcell⟩ := unhide S5 (by omega); cases e; exact (hcell j _ (unhide HY)).2
            have y0 := (unhide HT5).row.cell 0 _ rfl
            have y1 := (unhide HT5).row.cell 1 _ rfl
            clear z0 z1 RT T1 T2 HH4 HT4 RA4 HB4
            go_region_with (go_at_call 20; refine (unhide K').mono ?_; rintro e w6 ⟨v, B3, E3, is3, rfl, ⟨s3, n3, s4, n4, rfl, hd3, hd4, t3, t4⟩, hb3, hEl3, hgood, hbad⟩; have HG := hide hgood; have HBD := hide hbad; clear hgood hbad; have hv1 := hv0.after hb3; have kk0 := hv1.cell 0 _ rfl; have kk1 := hv1.cell 1 _ rfl; have kk2 := hv1.frozen 0; have kk3 := hv1.frozen 1)
            all_goals
              obtain ⟨m1, m2, m3, m4⟩ := Vc.card_is (unhide HT5).ok (unhide HG) (unhide HBD)
              have hO := (only_set w6 (w.heap.size + 1 + 1) 0 (.slice s3 B3.length n3)).trans (only_set _ (w.heap.size + 1 + 1) 1 (.slice s4 E3.length n4))
              have hb56 := (below_drew (Below.refl w5.heap.size w5)).trans hb3
              have HT7 := hide (Held.new rfl hv1 hO ((hv1.set 0 (.slice s3 B3.length n3)).set 1 (.slice s4 E3.length n4)) hd3 hd4 t3 t4 m1)
              have HH7 := hide (((unhide HH5).after hb56).only hv1 (by omega) hO)
              have RA7 := hide (((unhide RA5).after hb56).only hO (by omega))
              have HB7 := hide ((below_grow (unhide HB5) (Nat.le_refl _) hb56).trans (hO.below (by omega)))
              have M7 : Hid (∀ x, Vc.In B3 E3 x ↔ Vc.Of (ls.drop (ls.length - (k + 1))) x) := hide (fun x => by rw [(unhide HJ).2, of_drop (unhide HY) x, m2 x, unhide HI2 x, (unhide HJ).1])
              clear m1 m2 m3 m4 HG HBD hO hb56 hv1 hv0 kk0 kk1 kk2 kk3 t3 t4 hd3 hd4 hb3 HT5 HH5 RA5 HB5 K' f0 f1 y0 y1 S5
              go_wp2_with fail
              generalize (w6.setCell ⟨w.heap.size + 1 + 1, 0, none⟩ (.slice s3 B3.length n3)).setCell ⟨w.heap.size + 1 + 1, 1, none⟩ (.slice s4 E3.length n4) = w7 at HT7 HH7 RA7 HB7 ⊢
              have S7 := hide ((unhide HS).after (unhide HB7))
              have d0 : w7.cell? ⟨g, o + k * 2, none⟩ = some (.int .i64 p) := by obtain ⟨_, _, e, _, hcell⟩ := unhide S7 (by omega); cases e; exact (hcell k _ (unhide HX)).1
              have d1 : w7.cell? ⟨g, o + k * 2 + 1, none⟩ = some (.int .i64 c) := by obtain ⟨_, _, e, _, hcell⟩ := unhide S7 (by omega); cases e; exact (hcell k _ (unhide HX)).2
              have K13 := hide fun W h h' => setHas_any s1 s2 n1 n2 B' E' (by have := (unhide HH7).short; omega) (by omega) p0 c0 W h h'
              have HHN : Hid (∀ b : Bool, (b = true ↔ hs = true ∨ ((p, c) = (p0, c0) ∧ hasS B' E' (p0, c0) = true)) → (b = true ↔ Vc.Of (ls.take (k + 1)) (p0, c0))) := hide (fun b hb => by
                rw [hb, unhide HHS, hasS_of (unhide HH7).ok, unhide M2, Vc.of_snoc (unhide HX)]
                constructor
                · rintro (h | ⟨h, h'⟩)
                  · exact .inl h
                  · exact h'
                · rintro (h | ⟨h, h'⟩)
                  · exact .inl h
                  · exact .inr ⟨h.symm, .inr ⟨h, h'⟩⟩)
              generalize hasS B' E' (p0, c0) = H at K13 HHN
              have x0 := cell_regrown ((unhide HH7).row.cell 0 _ rfl)
              have x1 := cell_regrown ((unhide HH7).row.cell 1 _ rfl)
              have x2 := cell_regrown ((unhide RA7).cell 0 _ rfl)
              have x3 := cell_regrown ((unhide RA7).cell 1 _ rfl)
              have x4 := cell_regrown d0
              have x5 := cell_regrown d1
              have HREL : Hid (∀ (b : Bool) W, Below w7.heap.size w7 W → (b = true ↔ hs = true ∨ ((p, c) = (p0, c0) ∧ H = true)) → ∃ (k' : Nat) (hs : Bool) (N' : Int) (r1 r2 : Option Addr) (c1 c2 : Nat) (B E : List Vc.D) (q1 q2 : Option Addr) (e1 e2 : Nat) (B2 E2 : List Vc.D), k' ≤ ls.length ∧ Value.bool b = .bool hs ∧ Value.int .i64 (N) = .int .i64 N' ∧ Value.int .i64 ((k : Int) + 1) = .int .i64 k' ∧ Held W (w.heap.size + 1) r1 r2 c1 c2 B E ∧ Held W (w.heap.size + 1 + 1) q1 q2 e1 e2 B2 E2 ∧ VRow W w.heap.size 26 [.int .i64 p0, .int .i64 c0] ∧
                    (∀ x, Vc.In B E x ↔ Vc.Of (ls.take k') x) ∧ (∀ x, Vc.In B2 E2 x ↔ Vc.Of (ls.drop (ls.length - k')) x) ∧ N' = Vc.card B E ∧ (hs = true ↔ Vc.Of (ls.take k') (p0, c0)) ∧ E.length ≤ k' ∧ E2.length ≤ k' ∧ Below w.heap.size w W) := hide (fun b W hW hb =>
                ⟨k + 1, b, N, s1, s2, n1, n2, B', E', s3, s4, n3, n4, B3, E3, by omega, rfl, rfl, by go_num, (unhide HH7).after hW, (unhide HT7).after hW, (unhide RA7).after hW, unhide M2, unhide M7, by rw [unhide M3]; omega, unhide HHN b hb, by omega, by omega, below_grow (unhide HB7) (Nat.le_refl _) hW⟩)
              clear d0 d1 HT7 RA7 HB7 M2 M7 M3 HHN
              cases hs with
              | true =>
                go_quiet (fail)
                go_wp2_with fail
                go_roundw
                case rel => exact unhide HREL _ _ (below_drewN (Below.refl _ _) _) (by simp)
                case measure => simp [intOf]; omega
              | false =>
                by_cases hpp : p = p0
                · subst hpp
                  by_cases hcc : c = c0
                  · subst hcc
                    refine wp_region_quiet_below (by kernel_rfl) (by kernel_rfl) ?_
                    repeat (quiet_step (first | (go_at_call 13; exact Calls.regrown_of (unhide K13 _ ((unhide HH7).s1.after (below_regrown _ _ _)) ((unhide HH7).s2.after (below_regrown _ _ _))))))
                    refine wpQuiet_nil ?_
                    intro _ hw'
                    obtain ⟨⟨dq, osq⟩, hw''⟩ := hw'
                    subst hw''
                    go_wp2_with fail
                    go_roundw
                    case rel => exact unhide HREL _ _ (below_regrown _ _ _) (by simp)
                    case measure => simp [intOf]; omega
                  · refine wp_region_quiet_below (by kernel_rfl) (by kernel_rfl) ?_
                    repeat (quiet_step (fail))
                    refine wpQuiet_nil ?_
                    intro _ hw'
                    obtain ⟨⟨dq, osq⟩, hw''⟩ := hw'
                    subst hw''
                    go_wp2_with fail
                    go_roundw
                    case rel => exact unhide HREL _ _ (below_regrown _ _ _) (by simp [hcc])
                    case measure => simp [intOf]; omega
                · refine wp_region_quiet_below (by kernel_rfl) (by kernel_rfl) ?_
                  repeat (quiet_step (fail))
                  refine wpQuiet_nil ?_
                  intro _ hw'
                  obtain ⟨⟨dq, osq⟩, hw''⟩ := hw'
                  subst hw''
                  go_wp2_with fail
                  go_roundw
                  case rel => exact unhide HREL _ _ (below_regrown _ _ _) (by simp [hpp])
                  case measure => simp [intOf]; omega
        · have hO := (only_set w3 wr.heap.size 0 (.slice s1 B'.length n1)).trans (only_set _ wr.heap.size 1 (.slice s2 E'.length n2))
          have RT := hide ((hn1.set 0 (.slice s1 B'.length n1)).set 1 (.slice s2 E'.length n2))
          have T1 := hide (t1.only hn1 (two_slices _ _ _ _ _ _) hO)
          have T2 := hide (t2.only hn1 (two_slices _ _ _ _ _ _) hO)
          have HW := keep_store2 HB3 (Nat.le_refl _) (.slice s1 B'.length n1) (.slice s2 E'.length n2)
          clear kk0 kk1 kk2 kk3 hn1 hO
          obtain ⟨m1, m2, m3, m4⟩ := Vc.card_is (unhide HH).ok (unhide HG) (unhide HBD)
          have M1 := hide m1
          have M2 : Hid (∀ x, Vc.In B' E' x ↔ Vc.Of (ls.take (k + 1)) x) := hide (fun x => by rw [m2 x, unhide HI x, Vc.of_snoc (unhide HX) x])
          have M3 : Hid (Vc.card B' E' = N + if is = true then 1 else 0) := hide (by rw [m3, unhide HN])
          have HH4 := hide ((unhide HH).after HW)
          have HT4 := hide ((unhide HT).after HW)
          have RA4 := hide ((unhide RA).after HW)
          have HB4 := hide (below_grow (unhide HB) (Nat.le_refl _) HW)
          have HD1 := hide hd1
          have HD2 := hide hd2
          clear m1 m2 m3 m4 HG HBD HH HT RA HB HW HB3 hb1 t1 t2 hd1 hd2 SB K
          generalize (w3.setCell ⟨wr.heap.size, 0, none⟩ (.slice s1 B'.length n1)).setCell ⟨wr.heap.size, 1, none⟩ (.slice s2 E'.length n2) = w4 at RT T1 T2 HH4 HT4 RA4 HB4 ⊢
          have z0 := (unhide RT).cell 0 _ rfl
          have z1 := (unhide RT).cell 1 _ rfl
          by_cases his : is = true
          · subst his
            rw [if_pos rfl] at M3
            go_wp2_with (refine store_row (by rfl) 29 _ _ (by rfl) (w.heap.size + 1) [.slice s1 B'.length n1, .slice s2 E'.length n2] (by rfl) (by rfl) 29 _ (unhide HH4).row 2 size29 rfl rfl (two_one _ _ _ _ _ _) ?_; intro w5 ho hr; have HH5 := hide (Held.new rfl (unhide HH4).row ho hr (unhide HD1) (unhide HD2) (unhide T1) (unhide T2) (unhide M1)); have HT5 := hide ((unhide HT4).only (unhide HH4).row (by omega) ho); have RA5 := hide ((unhide RA4).only ho (by omega)); have HB5 := hide ((unhide HB4).trans (ho.below (by omega))); clear ho hr)
            have hv0 : VRow w5.drew (w.heap.size + 1 + 1) 29 [.slice q1 B2.length e1, .slice q2 E2.length e2] := (unhide HT5).row
            have K' := hide (unhide KT w5.drew ((unhide HT5).s1.after (below_drew (Below.refl _ _))) ((unhide HT5).s2.after (below_drew (Below.refl _ _))))
            have S5 := hide ((unhide HS).after (unhide HB5))
            have f0 : w5.cell? ⟨g, o + j * 2, none⟩ = some (.int .i64 p') := by obtain ⟨_, _, e, _, hcell⟩ := unhide S5 (by omega); cases e; exact (hcell j _ (unhide HY)).1
            have f1 : w5.cell? ⟨g, o + j * 2 + 1, none⟩ = some (.int .i64 c') := by obtain ⟨_, _, e, _, hcell⟩ := unhide S5 (by omega); cases e; exact (hcell j _ (unhide HY)).2
            have y0 := (unhide HT5).row.cell 0 _ rfl
            have y1 := (unhide HT5).row.cell 1 _ rfl
            clear z0 z1 RT T1 T2 HH4 HT4 RA4 HB4
            go_region_with (go_at_call 20; refine (unhide K').mono ?_; rintro e w6 ⟨v, B3, E3, is3, rfl, ⟨s3, n3, s4, n4, rfl, hd3, hd4, t3, t4⟩, hb3, hEl3, hgood, hbad⟩; have HG := hide hgood; have HBD := hide hbad; clear hgood hbad; have hv1 := hv0.after hb3; have kk0 := hv1.cell 0 _ rfl; have kk1 := hv1.cell 1 _ rfl; have kk2 := hv1.frozen 0; have kk3 := hv1.frozen 1)
            all_goals
              obtain ⟨m1, m2, m3, m4⟩ := Vc.card_is (unhide HT5).ok (unhide HG) (unhide HBD)
              have hO := (only_set w6 (w.heap.size + 1 + 1) 0 (.slice s3 B3.length n3)).trans (only_set _ (w.heap.size + 1 + 1) 1 (.slice s4 E3.length n4))
              have hb56 := (below_drew (Below.refl w5.heap.size w5)).trans hb3
              have HT7 := hide (Held.new rfl hv1 hO ((hv1.set 0 (.slice s3 B3.length n3)).set 1 (.slice s4 E3.length n4)) hd3 hd4 t3 t4 m1)
              have HH7 := hide (((unhide HH5).after hb56).only hv1 (by omega) hO)
              have RA7 := hide (((unhide RA5).after hb56).only hO (by omega))
              have HB7 := hide ((below_grow (unhide HB5) (Nat.le_refl _) hb56).trans (hO.below (by omega)))
              have M7 : Hid (∀ x, Vc.In B3 E3 x ↔ Vc.Of (ls.drop (ls.length - (k + 1))) x) := hide (fun x => by rw [(unhide HJ).2, of_drop (unhide HY) x, m2 x, unhide HI2 x, (unhide HJ).1])
              clear m1 m2 m3 m4 HG HBD hO hb56 hv1 hv0 kk0 kk1 kk2 kk3 t3 t4 hd3 hd4 hb3 HT5 HH5 RA5 HB5 K' f0 f1 y0 y1 S5
              go_wp2_with fail
              generalize (w6.setCell ⟨w.heap.size + 1 + 1, 0, none⟩ (.slice s3 B3.length n3)).setCell ⟨w.heap.size + 1 + 1, 1, none⟩ (.slice s4 E3.length n4) = w7 at HT7 HH7 RA7 HB7 ⊢
              have S7 := hide ((unhide HS).after (unhide HB7))
              have d0 : w7.cell? ⟨g, o + k * 2, none⟩ = some (.int .i64 p) := by obtain ⟨_, _, e, _, hcell⟩ := unhide S7 (by omega); cases e; exact (hcell k _ (unhide HX)).1
              have d1 : w7.cell? ⟨g, o + k * 2 + 1, none⟩ = some (.int .i64 c) := by obtain ⟨_, _, e, _, hcell⟩ := unhide S7 (by omega); cases e; exact (hcell k _ (unhide HX)).2
              have K13 := hide fun W h h' => setHas_any s1 s2 n1 n2 B' E' (by have := (unhide HH7).short; omega) (by omega) p0 c0 W h h'
              have HHN : Hid (∀ b : Bool, (b = true ↔ hs = true ∨ ((p, c) = (p0, c0) ∧ hasS B' E' (p0, c0) = true)) → (b = true ↔ Vc.Of (ls.take (k + 1)) (p0, c0))) := hide (fun b hb => by
                rw [hb, unhide HHS, hasS_of (unhide HH7).ok, unhide M2, Vc.of_snoc (unhide HX)]
                constructor
                · rintro (h | ⟨h, h'⟩)
                  · exact .inl h
                  · exact h'
                · rintro (h | ⟨h, h'⟩)
                  · exact .inl h
                  · exact .inr ⟨h.symm, .inr ⟨h, h'⟩⟩)
              generalize hasS B' E' (p0, c0) = H at K13 HHN
              have x0 := cell_regrown ((unhide HH7).row.cell 0 _ rfl)
              have x1 := cell_regrown ((unhide HH7).row.cell 1 _ rfl)
              have x2 := cell_regrown ((unhide RA7).cell 0 _ rfl)
              have x3 := cell_regrown ((unhide RA7).cell 1 _ rfl)
              have x4 := cell_regrown d0
              have x5 := cell_regrown d1
              have HREL : Hid (∀ (b : Bool) W, Below w7.heap.size w7 W → (b = true ↔ hs = true ∨ ((p, c) = (p0, c0) ∧ H = true)) → ∃ (k' : Nat) (hs : Bool) (N' : Int) (r1 r2 : Option Addr) (c1 c2 : Nat) (B E : List Vc.D) (q1 q2 : Option Addr) (e1 e2 : Nat) (B2 E2 : List Vc.D), k' ≤ ls.length ∧ Value.bool b = .bool hs ∧ Value.int .i64 (N + 1) = .int .i64 N' ∧ Value.int .i64 ((k : Int) + 1) = .int .i64 k' ∧ Held W (w.heap.size + 1) r1 r2 c1 c2 B E ∧ Held W (w.heap.size + 1 + 1) q1 q2 e1 e2 B2 E2 ∧ VRow W w.heap.size 26 [.int .i64 p0, .int .i64 c0] ∧
                    (∀ x, Vc.In B E x ↔ Vc.Of (ls.take k') x) ∧ (∀ x, Vc.In B2 E2 x ↔ Vc.Of (ls.drop (ls.length - k')) x) ∧ N' = Vc.card B E ∧ (hs = true ↔ Vc.Of (ls.take k') (p0, c0)) ∧ E.length ≤ k' ∧ E2.length ≤ k' ∧ Below w.heap.size w W) := hide (fun b W hW hb =>
                ⟨k + 1, b, N + 1, s1, s2, n1, n2, B', E', s3, s4, n3, n4, B3, E3, by omega, rfl, rfl, by go_num, (unhide HH7).after hW, (unhide HT7).after hW, (unhide RA7).after hW, unhide M2, unhide M7, by rw [unhide M3], unhide HHN b hb, by omega, by omega, below_grow (unhide HB7) (Nat.le_refl _) hW⟩)
              clear d0 d1 HT7 RA7 HB7 M2 M7 M3 HHN
              cases hs with
              | true =>
                go_quiet (fail)
                go_wp2_with fail
                go_roundw
                case rel => exact unhide HREL _ _ (below_drewN (Below.refl _ _) _) (by simp)
                case measure => simp [intOf]; omega
              | false =>
                by_cases hpp : p = p0
                · subst hpp
                  by_cases hcc : c = c0
                  · subst hcc
                    refine wp_region_quiet_below (by kernel_rfl) (by kernel_rfl) ?_
                    repeat (quiet_step (first | (go_at_call 13; exact Calls.regrown_of (unhide K13 _ ((unhide HH7).s1.after (below_regrown _ _ _)) ((unhide HH7).s2.after (below_regrown _ _ _))))))
                    refine wpQuiet_nil ?_
                    intro _ hw'
                    obtain ⟨⟨dq, osq⟩, hw''⟩ := hw'
                    subst hw''
                    go_wp2_with fail
                    go_roundw
                    case rel => exact unhide HREL _ _ (below_regrown _ _ _) (by simp)
                    case measure => simp [intOf]; omega
                  · refine wp_region_quiet_below (by kernel_rfl) (by kernel_rfl) ?_
                    repeat (quiet_step (fail))
                    refine wpQuiet_nil ?_
                    intro _ hw'
                    obtain ⟨⟨dq, osq⟩, hw''⟩ := hw'
                    subst hw''
                    go_wp2_with fail
                    go_roundw
                    case rel => exact unhide HREL _ _ (below_regrown _ _ _) (by simp [hcc])
                    case measure => simp [intOf]; omega
                · refine wp_region_quiet_below (by kernel_rfl) (by kernel_rfl) ?_
                  repeat (quiet_step (fail))
                  refine wpQuiet_nil ?_
                  intro _ hw'
                  obtain ⟨⟨dq, osq⟩, hw''⟩ := hw'
                  subst hw''
                  go_wp2_with fail
                  go_roundw
                  case rel => exact unhide HREL _ _ (below_regrown _ _ _) (by simp [hpp])
                  case measure => simp [intOf]; omega
          · obtain rfl : is = false := by simpa using his
            rw [if_neg (by simp)] at M3
            go_wp2_with (refine store_row (by rfl) 29 _ _ (by rfl) (w.heap.size + 1) [.slice s1 B'.length n1, .slice s2 E'.length n2] (by rfl) (by rfl) 29 _ (unhide HH4).row 2 size29 rfl rfl (two_one _ _ _ _ _ _) ?_; intro w5 ho hr; have HH5 := hide (Held.new rfl (unhide HH4).row ho hr (unhide HD1) (unhide HD2) (unhide T1) (unhide T2) (unhide M1)); have HT5 := hide ((unhide HT4).only (unhide HH4).row (by omega) ho); have RA5 := hide ((unhide RA4).only ho (by omega)); have HB5 := hide ((unhide HB4).trans (ho.below (by omega))); clear ho hr)
            have hv0 : VRow w5.drew (w.heap.size + 1 + 1) 29 [.slice q1 B2.length e1, .slice q2 E2.length e2] := (unhide HT5).row
            have K' := hide (unhide KT w5.drew ((unhide HT5).s1.after (below_drew (Below.refl _ _))) ((unhide HT5).s2.after (below_drew (Below.refl _ _))))
            have S5 := hide ((unhide HS).after (unhide HB5))
            have f0 : w5.cell? ⟨g, o + j * 2, none⟩ = some (.int .i64 p') := by obtain ⟨_, _, e, _, hcell⟩ := unhide S5 (by omega); cases e; exact (hcell j _ (unhide HY)).1
            have f1 : w5.cell? ⟨g, o + j * 2 + 1, none⟩ = some (.int .i64 c') := by obtain ⟨_, _, e, _, hcell⟩ := unhide S5 (by omega); cases e; exact (hcell j _ (unhide HY)).2
            have y0 := (unhide HT5).row.cell 0 _ rfl
            have y1 := (unhide HT5).row.cell 1 _ rfl
            clear z0 z1 RT T1 T2 HH4 HT4 RA4 HB4
            go_region_with (go_at_call 20; refine (unhide K').mono ?_; rintro e w6 ⟨v, B3, E3, is3, rfl, ⟨s3, n3, s4, n4, rfl, hd3, hd4, t3, t4⟩, hb3, hEl3, hgood, hbad⟩; have HG := hide hgood; have HBD := hide hbad; clear hgood hbad; have hv1 := hv0.after hb3; have kk0 := hv1.cell 0 _ rfl; have kk1 := hv1.cell 1 _ rfl; have kk2 := hv1.frozen 0; have kk3 := hv1.frozen 1)
            all_goals
              obtain ⟨m1, m2, m3, m4⟩ := Vc.card_is (unhide HT5).ok (unhide HG) (unhide HBD)
              have hO := (only_set w6 (w.heap.size + 1 + 1) 0 (.slice s3 B3.length n3)).trans (only_set _ (w.heap.size + 1 + 1) 1 (.slice s4 E3.length n4))
              have hb56 := (below_drew (Below.refl w5.heap.size w5)).trans hb3
              have HT7 := hide (Held.new rfl hv1 hO ((hv1.set 0 (.slice s3 B3.length n3)).set 1 (.slice s4 E3.length n4)) hd3 hd4 t3 t4 m1)
              have HH7 := hide (((unhide HH5).after hb56).only hv1 (by omega) hO)
              have RA7 := hide (((unhide RA5).after hb56).only hO (by omega))
              have HB7 := hide ((below_grow (unhide HB5) (Nat.le_refl _) hb56).trans (hO.below (by omega)))
              have M7 : Hid (∀ x, Vc.In B3 E3 x ↔ Vc.Of (ls.drop (ls.length - (k + 1))) x) := hide (fun x => by rw [(unhide HJ).2, of_drop (unhide HY) x, m2 x, unhide HI2 x, (unhide HJ).1])
              clear m1 m2 m3 m4 HG HBD hO hb56 hv1 hv0 kk0 kk1 kk2 kk3 t3 t4 hd3 hd4 hb3 HT5 HH5 RA5 HB5 K' f0 f1 y0 y1 S5
              go_wp2_with fail
              generalize (w6.setCell ⟨w.heap.size + 1 + 1, 0, none⟩ (.slice s3 B3.length n3)).setCell ⟨w.heap.size + 1 + 1, 1, none⟩ (.slice s4 E3.length n4) = w7 at HT7 HH7 RA7 HB7 ⊢
              have S7 := hide ((unhide HS).after (unhide HB7))
              have d0 : w7.cell? ⟨g, o + k * 2, none⟩ = some (.int .i64 p) := by obtain ⟨_, _, e, _, hcell⟩ := unhide S7 (by omega); cases e; exact (hcell k _ (unhide HX)).1
              have d1 : w7.cell? ⟨g, o + k * 2 + 1, none⟩ = some (.int .i64 c) := by obtain ⟨_, _, e, _, hcell⟩ := unhide S7 (by omega); cases e; exact (hcell k _ (unhide HX)).2
              have K13 := hide fun W h h' => setHas_any s1 s2 n1 n2 B' E' (by have := (unhide HH7).short; omega) (by omega) p0 c0 W h h'
              have HHN : Hid (∀ b : Bool, (b = true ↔ hs = true ∨ ((p, c) = (p0, c0) ∧ hasS B' E' (p0, c0) = true)) → (b = true ↔ Vc.Of (ls.take (k + 1)) (p0, c0))) := hide (fun b hb => by
                rw [hb, unhide HHS, hasS_of (unhide HH7).ok, unhide M2, Vc.of_snoc (unhide HX)]
                constructor
                · rintro (h | ⟨h, h'⟩)
                  · exact .inl h
                  · exact h'
                · rintro (h | ⟨h, h'⟩)
                  · exact .inl h
                  · exact .inr ⟨h.symm, .inr ⟨h, h'⟩⟩)
              generalize hasS B' E' (p0, c0) = H at K13 HHN
              have x0 := cell_regrown ((unhide HH7).row.cell 0 _ rfl)
              have x1 := cell_regrown ((unhide HH7).row.cell 1 _ rfl)
              have x2 := cell_regrown ((unhide RA7).cell 0 _ rfl)
              have x3 := cell_regrown ((unhide RA7).cell 1 _ rfl)
              have x4 := cell_regrown d0
              have x5 := cell_regrown d1
              have HREL : Hid (∀ (b : Bool) W, Below w7.heap.size w7 W → (b = true ↔ hs = true ∨ ((p, c) = (p0, c0) ∧ H = true)) → ∃ (k' : Nat) (hs : Bool) (N' : Int) (r1 r2 : Option Addr) (c1 c2 : Nat) (B E : List Vc.D) (q1 q2 : Option Addr) (e1 e2 : Nat) (B2 E2 : List Vc.D), k' ≤ ls.length ∧ Value.bool b = .bool hs ∧ Value.int .i64 (N) = .int .i64 N' ∧ Value.int .i64 ((k : Int) + 1) = .int .i64 k' ∧ Held W (w.heap.size + 1) r1 r2 c1 c2 B E ∧ Held W (w.heap.size + 1 + 1) q1 q2 e1 e2 B2 E2 ∧ VRow W w.heap.size 26 [.int .i64 p0, .int .i64 c0] ∧
                    (∀ x, Vc.In B E x ↔ Vc.Of (ls.take k') x) ∧ (∀ x, Vc.In B2 E2 x ↔ Vc.Of (ls.drop (ls.length - k')) x) ∧ N' = Vc.card B E ∧ (hs = true ↔ Vc.Of (ls.take k') (p0, c0)) ∧ E.length ≤ k' ∧ E2.length ≤ k' ∧ Below w.heap.size w W) := hide (fun b W hW hb =>
                ⟨k + 1, b, N, s1, s2, n1, n2, B', E', s3, s4, n3, n4, B3, E3, by omega, rfl, rfl, by go_num, (unhide HH7).after hW, (unhide HT7).after hW, (unhide RA7).after hW, unhide M2, unhide M7, by rw [unhide M3]; omega, unhide HHN b hb, by omega, by omega, below_grow (unhide HB7) (Nat.le_refl _) hW⟩)
              clear d0 d1 HT7 RA7 HB7 M2 M7 M3 HHN
              cases hs with
              | true =>
                go_quiet (fail)
                go_wp2_with fail
                go_roundw
                case rel => exact unhide HREL _ _ (below_drewN (Below.refl _ _) _) (by simp)
                case measure => simp [intOf]; omega
              | false =>
                by_cases hpp : p = p0
                · subst hpp
                  by_cases hcc : c = c0
                  · subst hcc
                    refine wp_region_quiet_below (by kernel_rfl) (by kernel_rfl) ?_
                    repeat (quiet_step (first | (go_at_call 13; exact Calls.regrown_of (unhide K13 _ ((unhide HH7).s1.after (below_regrown _ _ _)) ((unhide HH7).s2.after (below_regrown _ _ _))))))
                    refine wpQuiet_nil ?_
                    intro _ hw'
                    obtain ⟨⟨dq, osq⟩, hw''⟩ := hw'
                    subst hw''
                    go_wp2_with fail
                    go_roundw
                    case rel => exact unhide HREL _ _ (below_regrown _ _ _) (by simp)
                    case measure => simp [intOf]; omega
                  · refine wp_region_quiet_below (by kernel_rfl) (by kernel_rfl) ?_
                    repeat (quiet_step (fail))
                    refine wpQuiet_nil ?_
                    intro _ hw'
                    obtain ⟨⟨dq, osq⟩, hw''⟩ := hw'
                    subst hw''
                    go_wp2_with fail
                    go_roundw
                    case rel => exact unhide HREL _ _ (below_regrown _ _ _) (by simp [hcc])
                    case measure => simp [intOf]; omega
                · refine wp_region_quiet_below (by kernel_rfl) (by kernel_rfl) ?_
                  repeat (quiet_step (fail))
                  refine wpQuiet_nil ?_
                  intro _ hw'
                  obtain ⟨⟨dq, osq⟩, hw''⟩ := hw'
                  subst hw''
                  go_wp2_with fail
                  go_roundw
                  case rel => exact unhide HREL _ _ (below_regrown _ _ _) (by simp [hpp])
                  case measure => simp [intOf]; omega
      · obtain rfl : k = ls.length := by omega
        rw [List.take_length] at HI HHS
        rw [Nat.sub_self, List.drop_zero] at HI2
        obtain ⟨rfl, rfl⟩ := Vc.set_ext (unhide HT).ok (unhide HH).ok fun x => (unhide HI2 x).trans (unhide HI x).symm
        have HOK := hide (unhide HH).ok
        obtain rfl : hs = hasS B2 E2 (p0, c0) := by
          rw [Bool.eq_iff_iff, unhide HHS, hasS_of (unhide HOK), unhide HI]
        have hz := (Vc.checkS_zero B2 E2).2 (unhide HOK)
        have K22 := hide fun W => its_any r1 r2 B2.length E2.length c1 c2 W
        have K22' := hide fun W => its_any q1 q2 B2.length E2.length e1 e2 W
        have K17 := hide fun W h1 h2 h3 h4 => refSameS_any r1 r2 q1 q2 c1 c2 e1 e2 B2 E2 B2 E2 (by omega) (by omega) W h1 h2 h3 h4 true (by simp)
        have K13 := hide fun W h h' => setHas_any r1 r2 c1 c2 B2 E2 (by omega) (by omega) p0 c0 W h h'
        have K15 := hide fun W h h' => setLen_any r1 r2 c1 c2 B2 E2 (by omega) (by omega) W h h'
        have K11 := hide fun W h h' => setCheck_any r1 r2 c1 c2 B2 E2 (by omega) (by omega) W h h'
        rw [hz] at K11
        rw [show Vc.lenS B2 E2 = N by rw [unhide HN]; unfold Vc.lenS; rw [if_pos hz]] at K15
        generalize hasS B2 E2 (p0, c0) = hs at K13 HHS ⊢
        have x0 := cell_regrown k0
        have x1 := cell_regrown k1
        have x2 := cell_regrown ((unhide HT).row.cell 0 _ rfl)
        have x3 := cell_regrown ((unhide HT).row.cell 1 _ rfl)
        have x4 := cell_regrown ((unhide RA).cell 0 _ rfl)
        have x5 := cell_regrown ((unhide RA).cell 1 _ rfl)
        have hbb : (hs == hs) = true := by simp
        have hNN : (N == N) = true := by simp
        clear hz
        go_wp2_with fail
        refine wp_region_quiet_below (by kernel_rfl) (by kernel_rfl) ?_
        repeat (quiet_step (first
          | (go_at_call_of 22 r1; exact Calls.regrown_of (unhide K22 _))
          | (go_at_call_of 22 q1; exact Calls.regrown_of (unhide K22' _))
          | (go_at_call 17; exact Calls.regrown_of (unhide K17 _ ((unhide HH).s1.after (below_regrown _ _ _)) ((unhide HH).s2.after (below_regrown _ _ _)) ((unhide HT).s1.after (below_regrown _ _ _)) ((unhide HT).s2.after (below_regrown _ _ _))))
          | (go_at_call 13; exact Calls.regrown_of (unhide K13 _ ((unhide HH).s1.after (below_regrown _ _ _)) ((unhide HH).s2.after (below_regrown _ _ _))))
          | (go_at_call 15; exact Calls.regrown_of (unhide K15 _ ((unhide HH).s1.after (below_regrown _ _ _)) ((unhide HH).s2.after (below_regrown _ _ _))))
          | (go_at_call 11; exact Calls.regrown_of (unhide K11 _ ((unhide HH).s1.after (below_regrown _ _ _)) ((unhide HH).s2.after (below_regrown _ _ _))))
          | (go_at_call 9; exact Calls.regrown_of (awake_any _))))
        refine wpQuiet_nil ?_
        intro _ hw'
        obtain ⟨⟨dq, osq⟩, hw''⟩ := hw'
        subst hw''
        go_wp2_with fail
        go_ret
        exact ⟨by first | rfl | simp, (unhide HB).trans ((below_regrown _ _ _).mono (unhide HB).size)⟩
end Go.Proofs.Ytpcfblpenealbaa
