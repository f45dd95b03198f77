/-
  The walk of the statement on gaps that are filled.
-/
import Derived.Test.YtpcfblpenealbaaFill
import Derived.StillTailTactics
namespace Go.Proofs.Ytpcfblpenealbaa
open Go.RowKit

/-- A set in a variable's block. -/
structure Held (W : World) (b : Nat) (r1 r2 : Option Addr) (c1 c2 : Nat) (B E : List Vc.D) : Prop where
  row : VRow W b 29 [.slice r1 B.length c1, .slice r2 E.length c2]
  l1 : B.length ≤ c1
  l2 : E.length ≤ c2
  s1 : Sl W r1 B
  s2 : Sl W r2 E
  ok : Vc.SetOk B E
theorem Held.after {W W' : World} {b : Nat} {r1 r2 : Option Addr} {c1 c2 : Nat} {B E : List Vc.D} (h : Held W b r1 r2 c1 c2 B E) (hb : Below W.heap.size W W') : Held W' b r1 r2 c1 c2 B E :=
  ⟨h.row.after hb, h.l1, h.l2, h.s1.after hb, h.s2.after hb, h.ok⟩
theorem Held.short {W : World} {b : Nat} {r1 r2 : Option Addr} {c1 c2 : Nat} {B E : List Vc.D} (h : Held W b r1 r2 c1 c2 B E) : B.length ≤ 64 := Vc.vec_len h.ok.base
theorem held_nil {W : World} {b : Nat} (h : VRow W b 29 [.slice none 0 0, .slice none 0 0]) : Held W b none none 0 0 [] [] := ⟨h, Nat.le_refl _, Nat.le_refl _, Sl.none _ _, Sl.none _ _, Vc.set_nil⟩
theorem Held.new {W : World} {b : Nat} {r1 r2 : Option Addr} {c1 c2 : Nat} {B E : List Vc.D} {old : List Value} {x y : Option Addr} {m n m' n' : Nat} (ho : old = [.slice x m n, .slice y m' n']) {W' : World} (hr : VRow W b 29 old) (hO : Only b W W') (hr' : VRow W' b 29 [.slice r1 B.length c1, .slice r2 E.length c2]) (l1 : B.length ≤ c1) (l2 : E.length ≤ c2) (s1 : Sl W r1 B) (s2 : Sl W r2 E) (ok : Vc.SetOk B E) : Held W' b r1 r2 c1 c2 B E := by
  subst ho
  exact ⟨hr', l1, l2, s1.only hr (two_slices _ _ _ _ _ _) hO, s2.only hr (two_slices _ _ _ _ _ _) hO, ok⟩

theorem keep_alloc {w w' : World} (h : Below w.heap.size w w') (o : Obj) : Below w.heap.size w (w'.alloc o) := h.alloc h.size o
theorem keep_store2 {w w' : World} {n : Nat} (h : Below w.heap.size w w') (hn : w.heap.size ≤ n) (x y : Value) : Below w.heap.size w ((w'.setCell ⟨n, 0, none⟩ x).setCell ⟨n, 1, none⟩ y) := below_set (below_set h hn 0 x) hn 1 y

set_option maxRecDepth 100000 in
set_option maxHeartbeats 4000000 in
theorem gaps_walk (a : Option Addr) (cap : Nat) (ls : List Vc.D) (w : World) (h : Sl w a ls) :
    Calls Try.prog 7 #[.slice a ls.length cap] w fun e w' => e = .returned (.bool true) ∧ Below w.heap.size w w' := by
  have HS := hide h
  clear h
  by_cases h12 : 12 < ls.length
  · have hd : decide ((12 : Int) < (ls.length : Int)) = true := decide_eq_true (by omega)
    go_enter Try.func7, Try.ntmps7
    go_wp2_with fail
    refine (awake_any _).mono ?_
    rintro e w1 ⟨rfl, hb⟩
    have HB := hide hb
    clear hb
    go_wp2_with fail
    go_ret
    exact ⟨rfl, unhide HB⟩
  · have hd : decide ((12 : Int) < (ls.length : Int)) = false := decide_eq_false (by omega)
    go_enter Try.func7, Try.ntmps7
    go_wp2_with (refine store_row (by rfl) 29 _ _ (by rfl) w.heap.size [.slice none 0 0, .slice none 0 0] (by rfl) (by rfl) 29 [.slice none 0 0, .slice none 0 0] (VRow.newAt rfl) 2 size29 rfl rfl (two_one _ _ _ _ _ _) ?_; intro w0 ho hr; have HB0 := hide ((below_alloc' (w := w) (.cells #[.slice none 0 0, .slice none 0 0] 29)).trans (ho.below (Nat.le_refl _))); have R0 := hide hr; clear ho hr)
    go_loopw [4] (fun i wr => ∃ (k : Nat) (r1 r2 : Option Addr) (c1 c2 : Nat) (B E : List Vc.D), k ≤ ls.length ∧ i = .int .i64 k ∧ Held wr w.heap.size r1 r2 c1 c2 B E ∧ (∀ x, Vc.In B E x ↔ Vc.Of (ls.take k) x) ∧ (∀ x ∈ ls.take k, x.2 ≤ 40) ∧ E.length ≤ k ∧ Below w.heap.size w wr) (fun i _ => ls.length - (intOf i).toNat)
    case atStart => exact ⟨0, none, none, 0, 0, [], [], Nat.zero_le _, rfl, held_nil (unhide R0), fun x => ⟨fun hx => absurd hx (Vc.in_nil x), fun hx => by cases hx.1⟩, fun x hx => (by cases hx), Nat.le_refl _, unhide HB0⟩
    case round =>
      obtain ⟨k, r1, r2, c1, c2, B, E, hk, rfl, hheld, hin, h40, hEl, hb⟩ := hrel
      have HH := hide hheld
      have HI := hide hin
      have H40 := hide h40
      have HB := hide hb
      have hBl := hheld.short
      have S := hide ((unhide HS).after hb)
      have k0 := hheld.row.cell 0 _ rfl
      have k1 := hheld.row.cell 1 _ rfl
      clear hheld hin h40 hb
      by_cases hlt : k < ls.length
      · obtain ⟨⟨p, c⟩, hx⟩ : ∃ d, ls[k]? = some d := ⟨_, List.getElem?_eq_getElem hlt⟩
        obtain ⟨g, o, rfl, hg, hcell⟩ := unhide S (by omega)
        have d0 : wr.cell? ⟨g, o + k * 2, none⟩ = some (.int .i64 p) := (hcell k _ hx).1
        have d1 : wr.cell? ⟨g, o + k * 2 + 1, none⟩ = some (.int .i64 c) := (hcell k _ hx).2
        have HX := hide hx
        clear hx hg hcell
        by_cases hc : 40 < c
        · have hcd : decide (40 < c) = true := decide_eq_true hc
          go_wp2_with fail
          refine (awake_any _).mono ?_
          rintro e w1 ⟨rfl, hb⟩
          replace HB := hide (below_grow (unhide HB) (Nat.le_refl _) hb)
          clear hb
          go_wp2_with fail
          go_ret
          exact ⟨rfl, unhide HB⟩
        · have hcd : decide (40 < c) = false := decide_eq_false hc
          have K := hide fun W h h' => add_any r1 r2 c1 c2 B E (by omega) (by omega) (unhide HH).l2 p c W h h'
          go_wp2_with fail
          have hv0 : VRow wr.drew w.heap.size 29 [.slice r1 B.length c1, .slice r2 E.length c2] := (unhide HH).row
          have K' := hide (unhide K wr.drew ((unhide HH).s1.after (below_drew (Below.refl _ _))) ((unhide HH).s2.after (below_drew (Below.refl _ _))))
          go_region_with (go_at_call 20; refine (unhide K').mono ?_; rintro e w1 ⟨v, B', E', is, rfl, ⟨q1, e1, q2, e2, rfl, hd1, hd2, t1, t2⟩, hb1, hEl', hgood, hbad⟩; have hv1 := hv0.after hb1; have kk0 := hv1.cell 0 _ rfl; have kk1 := hv1.cell 1 _ rfl; have kk2 := hv1.frozen 0; have kk3 := hv1.frozen 1)
          all_goals
            obtain ⟨m1, m2, _, _⟩ := Vc.card_is (unhide HH).ok hgood hbad
            have hO := (only_set w1 w.heap.size 0 (.slice q1 B'.length e1)).trans (only_set _ w.heap.size 1 (.slice q2 E'.length e2))
            have HN := hide (Held.new rfl hv1 hO ((hv1.set 0 (.slice q1 B'.length e1)).set 1 (.slice q2 E'.length e2)) hd1 hd2 t1 t2 m1)
            have HIN : Hid (∀ x, Vc.In B' E' x ↔ Vc.Of (ls.take (k + 1)) x) := hide (fun x => by rw [m2 x, Vc.of_snoc (unhide HX) x, unhide HI x])
            have H41 : Hid (∀ x ∈ ls.take (k + 1), x.2 ≤ 40) := hide (fun x hx => by
              rw [take_snoc (unhide HX)] at hx
              rcases List.mem_append.1 hx with hx | hx
              · exact unhide H40 x hx
              · rw [List.mem_singleton.1 hx]; show c ≤ 40; omega)
            have HBN := hide (((unhide HB).trans (((below_drew (Below.refl _ _)).trans hb1).mono (unhide HB).size)).trans (hO.below (Nat.le_refl _)))
            clear m1 m2 hO hgood hbad hv1 kk0 kk1 kk2 kk3 t1 t2 hb1 hv0 K' K
            go_wp2_with fail
            go_roundw
            case rel => exact ⟨k + 1, q1, q2, e1, e2, B', E', by omega, by go_num, unhide HN, unhide HIN, unhide H41, by omega, unhide HBN⟩
            case measure => simp [intOf]; omega
      · obtain rfl : k = ls.length := by omega
        rw [List.take_length] at HI H40
        have hE12 : E.length ≤ 12 := by omega
        have KG := hide fun W h h' => gapsS_any r1 r2 c1 c2 B E (by omega) (by omega) 600 (by decide) W h h'
        have KL := hide fun W h h' => setLen_any r1 r2 c1 c2 B E (by omega) (by omega) W h h'
        have HOK := hide (unhide HH).ok
        have HN0 : Hid (Vc.lenS B E = Vc.card B E) := hide (by unfold Vc.lenS; rw [if_pos ((Vc.checkS_zero B E).2 (unhide HH).ok)])
        have hN0 := Vc.card_bd (unhide HH).ok
        rw [unhide HN0] at KL
        obtain ⟨N0, hN⟩ : ∃ N0, Vc.card B E = N0 := ⟨_, rfl⟩
        rw [hN] at KL hN0
        have HN := hide hN
        clear hN HN0
        go_wp2_with fail
        refine (unhide KG _ (unhide HH).s1 (unhide HH).s2).mono ?_
        rintro e w1 ⟨P, rg, cg, rfl, hcg, hsg, hb, _, hP, _⟩
        obtain ⟨hmem, hPl, hPr⟩ := Vc.gaps_few (fun x hx => ((unhide HI x).1 hx).1) (unhide H40) (by omega) (hP ((Vc.checkS_zero B E).2 (unhide HOK)))
        have HM := hide hmem
        have HPR := hide hPr
        have HSG := hide hsg
        have hbw := (unhide HB).size
        replace HB := hide (below_grow (unhide HB) (Nat.le_refl _) hb)
        replace HH := hide ((unhide HH).after hb)
        clear hb hP hmem hPr hsg k0 k1 S
        have k0 := (unhide HH).row.cell 0 _ rfl
        have k1 := (unhide HH).row.cell 1 _ rfl
        go_wp2_with fail
        refine (unhide KL _ (unhide HH).s1 (unhide HH).s2).mono ?_
        rintro e w2 ⟨rfl, hb⟩
        replace HB := hide (below_grow (unhide HB) (Nat.le_refl _) hb)
        replace HH := hide ((unhide HH).after hb)
        replace HSG := hide ((unhide HSG).after hb)
        clear hb k0 k1 KG KL
        go_wp2_with fail
        go_loopw [7] (fun i wr => ∃ (k : Nat) (r1 r2 : Option Addr) (c1 c2 : Nat) (B2 E2 : List Vc.D), k ≤ P.length ∧ i = .int .i64 k ∧ Held wr w.heap.size r1 r2 c1 c2 B2 E2 ∧ (∀ x, Vc.In B2 E2 x ↔ Vc.In B E x ∨ x ∈ P.take k) ∧ Vc.card B2 E2 = N0 + (k : Int) ∧ E2.length ≤ 12 + k ∧ Sl wr rg P ∧ Below w.heap.size w wr) (fun i _ => P.length - (intOf i).toNat)
        case atStart => exact ⟨0, r1, r2, c1, c2, B, E, Nat.zero_le _, rfl, unhide HH, fun x => by simp, by simpa using unhide HN, by omega, unhide HSG, unhide HB⟩
        case round =>
          clear HH HB HSG
          obtain ⟨k, x1, x2, y1, y2, B2, E2, hk2, rfl, hheld, hin, hcard, hE2, hsg, hb⟩ := hrel
          have HH := hide hheld
          have HI2 := hide hin
          have HB := hide hb
          have HSG := hide hsg
          have HCD := hide hcard
          have hBl2 := hheld.short
          have k0 := hheld.row.cell 0 _ rfl
          have k1 := hheld.row.cell 1 _ rfl
          clear hheld hin hb hcard
          by_cases hlt2 : k < P.length
          · obtain ⟨⟨p, c⟩, hx⟩ : ∃ d, P[k]? = some d := ⟨_, List.getElem?_eq_getElem hlt2⟩
            have hgap := (unhide HM _).1 (List.mem_of_getElem? hx)
            have HIS : Hid (Vc.Ok (p, c) ∧ ¬ Vc.In B2 E2 (p, c)) := hide ⟨hgap.ok (unhide HOK), fun h => by
              rcases (unhide HI2 _).1 h with h | h
              · exact hgap.2.1 h
              · exact Vc.ris_take (unhide HPR) hx h⟩
            obtain ⟨g, o, rfl, hg, hcell⟩ := hsg (by omega)
            have d0 : wr.cell? ⟨g, o + k * 2, none⟩ = some (.int .i64 p) := (hcell k _ hx).1
            have d1 : wr.cell? ⟨g, o + k * 2 + 1, none⟩ = some (.int .i64 c) := (hcell k _ hx).2
            have HX := hide hx
            have K := hide fun W h h' => add_any x1 x2 y1 y2 B2 E2 (by omega) (by omega) (unhide HH).l2 p c W h h'
            clear hx hg hcell hgap hsg
            go_wp2_with fail
            have SB : Hid (∀ w', Below wr.heap.size wr w' → w'.cell? ⟨w.heap.size, 0, none⟩ = some (.slice x1 B2.length y1) ∧ w'.cell? ⟨w.heap.size, 1, none⟩ = some (.slice x2 E2.length y2) ∧ w'.cell? ⟨g, o + k * 2, none⟩ = some (.int .i64 p) ∧ w'.cell? ⟨g, o + k * 2 + 1, none⟩ = some (.int .i64 c) ∧ Below wr.heap.size wr w') :=
              hide (fun w' hb => ⟨(hb.cell (block_lt_of_cell k0)).trans k0, (hb.cell (block_lt_of_cell k1)).trans k1, (hb.cell (block_lt_of_cell d0)).trans d0, (hb.cell (block_lt_of_cell d1)).trans d1, hb⟩)
            clear k0 k1 d0 d1
            go_region_held3 (fun w' => w'.cell? ⟨w.heap.size, 0, none⟩ = some (.slice x1 B2.length y1) ∧ w'.cell? ⟨w.heap.size, 1, none⟩ = some (.slice x2 E2.length y2) ∧ w'.cell? ⟨g, o + k * 2, none⟩ = some (.int .i64 p) ∧ w'.cell? ⟨g, o + k * 2 + 1, none⟩ = some (.int .i64 c) ∧ Below wr.heap.size wr w')
              (first
                | exact unhide SB _ (below_drew (Below.refl _ _))
                | exact unhide SB _ (below_grow (And.right (And.right (And.right (And.right (by assumption))))) (Nat.le_refl _) (by assumption))
                | exact unhide SB _ (keep_alloc (And.right (And.right (And.right (And.right (by assumption))))) _)
                | exact unhide SB _ (keep_alloc (by assumption) _)
                | exact unhide SB _ (keep_store2 (And.right (And.right (And.right (And.right (by assumption))))) (by omega) _ _))
              (first
                | (go_at_call 20; refine (unhide K _ ((unhide HH).s1.after (And.right (And.right (And.right (And.right (by assumption)))))) ((unhide HH).s2.after (And.right (And.right (And.right (And.right (by assumption))))))).mono ?_; rintro e w3 ⟨v, B', E', is, rfl, ⟨q1, e1, q2, e2, rfl, hd1, hd2, t1, t2⟩, hb1, hEl', hgood, hbad⟩; have HG := hide hgood; have HBD := hide hbad; clear hgood hbad; have HB3 : Below wr.heap.size wr w3 := below_grow (And.right (And.right (And.right (And.right (by assumption))))) (Nat.le_refl _) hb1; try (have hn1 : VRow w3 wr.heap.size 29 [.slice none 0 0, .slice none 0 0] := (by refine VRow.after ?_ hb1; exact VRow.new wr 29 [.slice none 0 0, .slice none 0 0])); try (have kk0 := hn1.cell 0 _ rfl); try (have kk1 := hn1.cell 1 _ rfl); try (have kk2 := hn1.frozen 0); try (have kk3 := hn1.frozen 1)))
            · have RT := hide (VRow.new w3 29 [.slice q1 B'.length e1, .slice q2 E'.length e2])
              have T1 := hide (t1.after (below_alloc' (w := w3) (.cells #[.slice q1 B'.length e1, .slice q2 E'.length e2] 29)))
              have T2 := hide (t2.after (below_alloc' (w := w3) (.cells #[.slice q1 B'.length e1, .slice q2 E'.length e2] 29)))
              have HW := HB3.alloc HB3.size (.cells #[.slice q1 B'.length e1, .slice q2 E'.length e2] 29)
              obtain ⟨m1, m2, m3, m4⟩ := Vc.card_is (unhide HH).ok (unhide HG) (unhide HBD)
              obtain rfl : is = true := m4.2 (unhide HIS)
              have M1 := hide m1
              have M2 : Hid (∀ x, Vc.In B' E' x ↔ Vc.In B E x ∨ x ∈ P.take (k + 1)) := hide (fun x => by
                rw [m2 x, unhide HI2 x, take_snoc (unhide HX), List.mem_append, List.mem_singleton]
                constructor
                · rintro ((h | h) | ⟨h, _⟩)
                  · exact .inl h
                  · exact .inr (.inl h)
                  · exact .inr (.inr h)
                · rintro (h | h | h)
                  · exact .inl (.inl h)
                  · exact .inl (.inr h)
                  · exact .inr ⟨h, (unhide HIS).1⟩)
              have M3 : Hid (Vc.card B' E' = N0 + ((k + 1 : Nat) : Int)) := hide (by rw [m3, unhide HCD, if_pos rfl]; omega)
              have HH4 := hide ((unhide HH).after HW)
              have SG4 := hide ((unhide HSG).after HW)
              have HB4 := hide (below_grow (unhide HB) (Nat.le_refl _) HW)
              have HD1 := hide hd1
              have HD2 := hide hd2
              clear m1 m2 m3 m4 HG HBD HH HSG HW HB3 hb1 t1 t2 hd1 hd2
              generalize w3.alloc (.cells #[.slice q1 B'.length e1, .slice q2 E'.length e2] 29) = w4 at RT T1 T2 HH4 SG4 HB4 ⊢
              have z0 := (unhide RT).cell 0 _ rfl
              have z1 := (unhide RT).cell 1 _ rfl
              go_wp2_with (refine store_row (by rfl) 29 _ _ (by rfl) w.heap.size [.slice q1 B'.length e1, .slice q2 E'.length e2] (by rfl) (by rfl) 29 _ (unhide HH4).row 2 size29 rfl rfl (two_one _ _ _ _ _ _) ?_; intro w5 ho hr; have HN5 := hide (Held.new rfl (unhide HH4).row ho hr (unhide HD1) (unhide HD2) (unhide T1) (unhide T2) (unhide M1)); have SG5 := hide ((unhide SG4).only (unhide HH4).row (two_slices _ _ _ _ _ _) ho); have HB5 := hide ((unhide HB4).trans (ho.below (Nat.le_refl _))); clear ho hr)
              go_roundw
              case rel => exact ⟨k + 1, q1, q2, e1, e2, B', E', by omega, by go_num, unhide HN5, unhide M2, unhide M3, by omega, unhide SG5, unhide HB5⟩
              case measure => simp [intOf]; omega
            · have hO := (only_set w3 wr.heap.size 0 (.slice q1 B'.length e1)).trans (only_set _ wr.heap.size 1 (.slice q2 E'.length e2))
              have RT := hide ((hn1.set 0 (.slice q1 B'.length e1)).set 1 (.slice q2 E'.length e2))
              have T1 := hide (t1.only hn1 (two_slices _ _ _ _ _ _) hO)
              have T2 := hide (t2.only hn1 (two_slices _ _ _ _ _ _) hO)
              have HW := keep_store2 HB3 (Nat.le_refl _) (.slice q1 B'.length e1) (.slice q2 E'.length e2)
              clear kk0 kk1 kk2 kk3 hn1 hO
              obtain ⟨m1, m2, m3, m4⟩ := Vc.card_is (unhide HH).ok (unhide HG) (unhide HBD)
              obtain rfl : is = true := m4.2 (unhide HIS)
              have M1 := hide m1
              have M2 : Hid (∀ x, Vc.In B' E' x ↔ Vc.In B E x ∨ x ∈ P.take (k + 1)) := hide (fun x => by
                rw [m2 x, unhide HI2 x, take_snoc (unhide HX), List.mem_append, List.mem_singleton]
                constructor
                · rintro ((h | h) | ⟨h, _⟩)
                  · exact .inl h
                  · exact .inr (.inl h)
                  · exact .inr (.inr h)
                · rintro (h | h | h)
                  · exact .inl (.inl h)
                  · exact .inl (.inr h)
                  · exact .inr ⟨h, (unhide HIS).1⟩)
              have M3 : Hid (Vc.card B' E' = N0 + ((k + 1 : Nat) : Int)) := hide (by rw [m3, unhide HCD, if_pos rfl]; omega)
              have HH4 := hide ((unhide HH).after HW)
              have SG4 := hide ((unhide HSG).after HW)
              have HB4 := hide (below_grow (unhide HB) (Nat.le_refl _) HW)
              have HD1 := hide hd1
              have HD2 := hide hd2
              clear m1 m2 m3 m4 HG HBD HH HSG HW HB3 hb1 t1 t2 hd1 hd2
              generalize (w3.setCell ⟨wr.heap.size, 0, none⟩ (.slice q1 B'.length e1)).setCell ⟨wr.heap.size, 1, none⟩ (.slice q2 E'.length e2) = w4 at RT T1 T2 HH4 SG4 HB4 ⊢
              have z0 := (unhide RT).cell 0 _ rfl
              have z1 := (unhide RT).cell 1 _ rfl
              go_wp2_with (refine store_row (by rfl) 29 _ _ (by rfl) w.heap.size [.slice q1 B'.length e1, .slice q2 E'.length e2] (by rfl) (by rfl) 29 _ (unhide HH4).row 2 size29 rfl rfl (two_one _ _ _ _ _ _) ?_; intro w5 ho hr; have HN5 := hide (Held.new rfl (unhide HH4).row ho hr (unhide HD1) (unhide HD2) (unhide T1) (unhide T2) (unhide M1)); have SG5 := hide ((unhide SG4).only (unhide HH4).row (two_slices _ _ _ _ _ _) ho); have HB5 := hide ((unhide HB4).trans (ho.below (Nat.le_refl _))); clear ho hr)
              go_roundw
              case rel => exact ⟨k + 1, q1, q2, e1, e2, B', E', by omega, by go_num, unhide HN5, unhide M2, unhide M3, by omega, unhide SG5, unhide HB5⟩
              case measure => simp [intOf]; omega
          · obtain rfl : k = P.length := by omega
            rw [List.take_length] at HI2
            obtain rfl : E2 = [] := Vc.filled (unhide HH).ok fun x => (unhide HI2 x).trans (or_congr Iff.rfl (unhide HM x))
            have KG := hide fun W h h' => gapsS_any x1 x2 y1 y2 B2 [] (by omega) (by simp) 1 (by decide) W h h'
            have KL := hide fun W h h' => setLen_any x1 x2 y1 y2 B2 [] (by omega) (by simp) W h h'
            have HZ := hide ((Vc.checkS_zero B2 []).2 (unhide HH).ok)
            rw [show Vc.lenS B2 [] = N0 + (P.length : Int) by unfold Vc.lenS; rw [if_pos (unhide HZ)]; exact unhide HCD] at KL
            have hw1 : IntKind.i64.wrap (N0 + (P.length : Int)) = N0 + (P.length : Int) := wrap_small (by omega) (by omega)
            rw [List.length_nil] at k1
            go_wp2_with fail
            refine (unhide KG _ (unhide HH).s1 (unhide HH).s2).mono ?_
            rintro e w5 ⟨P', rg', cg', rfl, _, _, hb, _, hP, _⟩
            obtain rfl := Vc.no_gaps (hP (unhide HZ))
            replace HB := hide (below_grow (unhide HB) (Nat.le_refl _) hb)
            replace HH := hide ((unhide HH).after hb)
            clear hb hP k0 k1
            have k0 := (unhide HH).row.cell 0 _ rfl
            have k1 := (unhide HH).row.cell 1 _ rfl
            go_wp2_with fail
            refine (unhide KL _ (unhide HH).s1 (unhide HH).s2).mono ?_
            rintro e w6 ⟨rfl, hb⟩
            replace HB := hide (below_grow (unhide HB) (Nat.le_refl _) hb)
            clear hb k0 k1
            go_wp2_with fail
            refine (awake_any _).mono ?_
            rintro e w7 ⟨rfl, hb⟩
            replace HB := hide (below_grow (unhide HB) (Nat.le_refl _) hb)
            clear hb
            go_wp2_with fail
            go_ret
            exact ⟨rfl, unhide HB⟩
end Go.Proofs.Ytpcfblpenealbaa
