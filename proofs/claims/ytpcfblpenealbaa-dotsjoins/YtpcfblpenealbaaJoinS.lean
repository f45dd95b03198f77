/-
  What Join and Within of sets answer, the program's.
-/
import Derived.Test.YtpcfblpenealbaaAdd
namespace Go.Proofs.Ytpcfblpenealbaa
open Go.RowKit

/-- What Join leaves. -/
def JoinMade (B E B2 E2 : List Vc.D) (w : World) (e : Ending) (w' : World) : Prop :=
  ∃ v B' E', e = .returned v ∧ SetAt w' v B' E' ∧ Below w.heap.size w w' ∧ E'.length ≤ E.length + E2.length ∧ B'.length ≤ 64 ∧
    (Vc.checkS B E = 0 ∧ Vc.checkS B2 E2 = 0 → Vc.SetOk B' E' ∧ ∀ x, Vc.In B' E' x ↔ Vc.In B E x ∨ Vc.In B2 E2 x) ∧
    (¬ (Vc.checkS B E = 0 ∧ Vc.checkS B2 E2 = 0) → B' = [] ∧ E' = [])

structure Rest2 (w : World) (b : Nat) (r1 r2 q1 q2 : Option Addr) (B E B2 E2 : List Vc.D) (w' : World) : Prop where
  s1 : Sl w' r1 B
  s2 : Sl w' r2 E
  t1 : Sl w' q1 B2
  t2 : Sl w' q2 E2
  bel : Below w.heap.size w w'
  ge : b + 3 ≤ w'.heap.size
def SJ (w : World) (b : Nat) (r1 r2 q1 q2 : Option Addr) (B E B2 E2 : List Vc.D) (c1 c2 d1 d2 : Nat) (w' : World) : Prop :=
  w'.cell? ⟨b, 0, none⟩ = some (.slice r1 B.length c1) ∧ w'.cell? ⟨b, 1, none⟩ = some (.slice r2 E.length c2) ∧ w'.cell? ⟨b + 1, 0, none⟩ = some (.slice q1 B2.length d1) ∧ w'.cell? ⟨b + 1, 1, none⟩ = some (.slice q2 E2.length d2) ∧ Rest2 w b r1 r2 q1 q2 B E B2 E2 w'
theorem SJ.after {w : World} {b : Nat} {r1 r2 q1 q2 : Option Addr} {B E B2 E2 : List Vc.D} {c1 c2 d1 d2 : Nat} {w' w'' : World} (h : SJ w b r1 r2 q1 q2 B E B2 E2 c1 c2 d1 d2 w') (hb : Below w'.heap.size w' w'') : SJ w b r1 r2 q1 q2 B E B2 E2 c1 c2 d1 d2 w'' := by
  obtain ⟨h0, h1, h2, h3, h4⟩ := h
  exact ⟨(hb.cell (block_lt_of_cell h0)).trans h0, (hb.cell (block_lt_of_cell h1)).trans h1, (hb.cell (block_lt_of_cell h2)).trans h2, (hb.cell (block_lt_of_cell h3)).trans h3, h4.s1.after hb, h4.s2.after hb, h4.t1.after hb, h4.t2.after hb, below_grow h4.bel (Nat.le_refl _) hb, Nat.le_trans h4.ge hb.size⟩
theorem SJ.drew {w : World} {b : Nat} {r1 r2 q1 q2 : Option Addr} {B E B2 E2 : List Vc.D} {c1 c2 d1 d2 : Nat} {w' : World} (h : SJ w b r1 r2 q1 q2 B E B2 E2 c1 c2 d1 d2 w') : SJ w b r1 r2 q1 q2 B E B2 E2 c1 c2 d1 d2 w'.drew := h.after (below_drew (Below.refl _ _))
theorem SJ.set2 {w : World} {b : Nat} {r1 r2 q1 q2 : Option Addr} {B E B2 E2 : List Vc.D} {c1 c2 d1 d2 : Nat} {w' : World} {T : Nat} {x y : Value} {u v : Option Addr} {i j k l : Nat} (h : SJ w b r1 r2 q1 q2 B E B2 E2 c1 c2 d1 d2 w') (hr : VRow w' (b + 2) T [.slice u i j, .slice v k l]) (hn : w.heap.size ≤ b) :
    SJ w b r1 r2 q1 q2 B E B2 E2 c1 c2 d1 d2 ((w'.setCell ⟨b + 2, 0, none⟩ x).setCell ⟨b + 2, 1, none⟩ y) := by
  obtain ⟨h0, h1, h2, h3, h4⟩ := h
  have e : ∀ j k, j ≠ b + 2 → ((w'.setCell ⟨b + 2, 0, none⟩ x).setCell ⟨b + 2, 1, none⟩ y).cell? ⟨j, k, none⟩ = w'.cell? ⟨j, k, none⟩ := fun j k hj => by
    rw [World.cell?_setCell_far _ _ _ _ (by show b + 2 ≠ j; omega), World.cell?_setCell_far _ _ _ _ (by show b + 2 ≠ j; omega)]
  have ho := (only_set w' (b + 2) 0 x).trans (only_set _ (b + 2) 1 y)
  exact ⟨(e b 0 (by omega)).trans h0, (e b 1 (by omega)).trans h1, (e (b + 1) 0 (by omega)).trans h2, (e (b + 1) 1 (by omega)).trans h3, h4.s1.only hr (two_slices _ _ _ _ _ _) ho, h4.s2.only hr (two_slices _ _ _ _ _ _) ho, h4.t1.only hr (two_slices _ _ _ _ _ _) ho, h4.t2.only hr (two_slices _ _ _ _ _ _) ho, h4.bel.trans (ho.below (by omega)), by rw [ho.size]; exact h4.ge⟩

set_option maxRecDepth 100000 in
set_option maxHeartbeats 2000000 in
theorem joinS_any (r1 r2 q1 q2 : Option Addr) (c1 c2 d1 d2 : Nat) (B E B2 E2 : List Vc.D) (hB : B.length ≤ 40000) (hE : E.length ≤ 40000) (hB2 : B2.length ≤ 40000) (hE2 : E2.length ≤ 40000) (hc1 : B.length ≤ c1) (hc2 : E.length ≤ c2) (hd1 : B2.length ≤ d1) (hd2 : E2.length ≤ d2) (w : World) (s1 : Sl w r1 B) (s2 : Sl w r2 E) (t1 : Sl w q1 B2) (t2 : Sl w q2 E2) :
    Calls Try.prog 23 #[.agg #[.slice r1 B.length c1, .slice r2 E.length c2], .agg #[.slice q1 B2.length d1, .slice q2 E2.length d2]] w (JoinMade B E B2 E2 w) := by
  have HB0 := hide (((below_alloc' (w := w) (.cells #[.slice r1 B.length c1, .slice r2 E.length c2] 29)).alloc (by simp) (.cells #[.slice q1 B2.length d1, .slice q2 E2.length d2] 29)).alloc (by simp; omega) (.cells #[.slice none 0 0, .slice none 0 0] 29))
  have RS := hide (((VRow.new w 29 [.slice r1 B.length c1, .slice r2 E.length c2]).alloc (.cells #[.slice q1 B2.length d1, .slice q2 E2.length d2] 29)).alloc (.cells #[.slice none 0 0, .slice none 0 0] 29))
  have RT := hide ((VRow.newAt (W := w.alloc (.cells #[.slice r1 B.length c1, .slice r2 E.length c2] 29)) (T := 29) (n := w.heap.size + 1) (vs := [.slice q1 B2.length d1, .slice q2 E2.length d2]) (by simp)).alloc (.cells #[.slice none 0 0, .slice none 0 0] 29))
  have RV := hide (VRow.newAt (W := (w.alloc (.cells #[.slice r1 B.length c1, .slice r2 E.length c2] 29)).alloc (.cells #[.slice q1 B2.length d1, .slice q2 E2.length d2] 29)) (T := 29) (n := w.heap.size + 1 + 1) (vs := [.slice none 0 0, .slice none 0 0]) (by simp))
  have S1 := hide (s1.after (unhide HB0))
  have S2 := hide (s2.after (unhide HB0))
  have T1 := hide (t1.after (unhide HB0))
  have T2 := hide (t2.after (unhide HB0))
  have KC := hide fun W h h' => setCheck_any r1 r2 c1 c2 B E (by omega) (by omega) W h h'
  have KD := hide fun W h h' => setCheck_any q1 q2 d1 d2 B2 E2 (by omega) (by omega) W h h'
  have rs0 := (unhide RS).cell 0 _ rfl
  have rs1 := (unhide RS).cell 1 _ rfl
  have rt0 := (unhide RT).cell 0 _ rfl
  have rt1 := (unhide RT).cell 1 _ rfl
  clear s1 s2 t1 t2
  by_cases hz : Vc.checkS B E = 0
  · rw [hz] at KC
    by_cases he : Vc.checkS B2 E2 = 0
    · rw [he] at KD
      have hs := (Vc.checkS_zero B E).1 hz
      have ht := (Vc.checkS_zero B2 E2).1 he
      obtain ⟨n, hn⟩ : ∃ n : Nat, n = 64 := ⟨64, rfl⟩
      have hj : Vc.joins B B2 = Vc.join B B2 := by unfold Vc.joins; rw [if_pos ⟨(Vc.check_zero B).2 hs.base, (Vc.check_zero B2).2 ht.base⟩]
      have hju := Vc.join_up hs.base ht.base
      have KJ := hide fun W h h' => join_any r1 q1 c1 d1 B B2 (by omega) (by omega) hc1 hd1 W h h'
      rw [hj] at KJ
      have KN := hide fun a cap W h => counts_any a cap (Vc.join B B2) hju n hn W h
      have htu := Vc.TU.start (f := Vc.look (Vc.join B B2)) (a := E) (b := E2) (Vc.look_f0 hju) (Vc.look_fo hju) hs.ris ht.ris hs.ok ht.ok
      have KT := hide fun W h h' => take_any _ (Vc.look (Vc.join B B2)) n (E.length + E2.length) hn r2 q2 c2 d2 E E2 hc2 hd2 htu (Nat.le_refl _) (by omega) W h h'
      have HT : Hid (∀ x, ((1 ≤ x.2 ∧ x.2 ≤ Vc.look (Vc.join B B2) x.1) ∨ x ∈ E ∨ x ∈ E2) ↔ Vc.In B E x ∨ Vc.In B2 E2 x) := hide (fun x => by
        unfold Vc.In
        rw [Vc.join_look hs.base ht.base]
        constructor
        · rintro (h | h | h)
          · by_cases hl : x.2 ≤ Vc.look B x.1
            · exact .inl (.inl ⟨h.1, hl⟩)
            · exact .inr (.inl ⟨h.1, by omega⟩)
          · exact .inl (.inr h)
          · exact .inr (.inr h)
        · rintro ((h | h) | (h | h))
          · exact .inl ⟨h.1, by omega⟩
          · exact .inr (.inl h)
          · exact .inl ⟨h.1, by omega⟩
          · exact .inr (.inr h))
      have HOK : Hid (Vc.checkS B E = 0 ∧ Vc.checkS B2 E2 = 0) := hide ⟨hz, he⟩
      generalize (cntF (Vc.look (Vc.join B B2)) n).toArray = vs at KN KT
      generalize Vc.join B B2 = J at KJ KN KT HT
      clear hs ht hn htu hz he hj hju
      go_enter Try.func23, Try.ntmps23
      go_wp2_with fail
      generalize ((w.alloc (.cells #[.slice r1 B.length c1, .slice r2 E.length c2] 29)).alloc (.cells #[.slice q1 B2.length d1, .slice q2 E2.length d2] 29)).alloc (.cells #[.slice none 0 0, .slice none 0 0] 29) = w0 at HB0 RS RT RV S1 S2 T1 T2 rs0 rs1 rt0 rt1 ⊢
      refine (unhide KC _ (unhide S1) (unhide S2)).mono ?_
      rintro e w1 ⟨rfl, hb⟩
      replace HB0 := hide (below_grow (unhide HB0) (Nat.le_refl _) hb)
      replace RS := hide ((unhide RS).after hb)
      replace RT := hide ((unhide RT).after hb)
      replace RV := hide ((unhide RV).after hb)
      replace S1 := hide ((unhide S1).after hb)
      replace S2 := hide ((unhide S2).after hb)
      replace T1 := hide ((unhide T1).after hb)
      replace T2 := hide ((unhide T2).after hb)
      clear hb
      clear rs0 rs1 rt0 rt1
      have rt0 := (unhide RT).cell 0 _ rfl
      have rt1 := (unhide RT).cell 1 _ rfl
      go_wp2_with fail
      refine (unhide KD _ (unhide T1) (unhide T2)).mono ?_
      rintro e w2 ⟨rfl, hb⟩
      replace HB0 := hide (below_grow (unhide HB0) (Nat.le_refl _) hb)
      replace RS := hide ((unhide RS).after hb)
      replace RT := hide ((unhide RT).after hb)
      replace RV := hide ((unhide RV).after hb)
      replace S1 := hide ((unhide S1).after hb)
      replace S2 := hide ((unhide S2).after hb)
      replace T1 := hide ((unhide T1).after hb)
      replace T2 := hide ((unhide T2).after hb)
      clear hb
      clear rt0 rt1
      have HSK : Hid (SJ w w.heap.size r1 r2 q1 q2 B E B2 E2 c1 c2 d1 d2 w2) := hide ⟨(unhide RS).cell 0 _ rfl, (unhide RS).cell 1 _ rfl, (unhide RT).cell 0 _ rfl, (unhide RT).cell 1 _ rfl, unhide S1, unhide S2, unhide T1, unhide T2, unhide HB0, (unhide RV).lt⟩
      have hv0 : VRow w2.drew (w.heap.size + 1 + 1) 29 [.slice none 0 0, .slice none 0 0] := unhide RV
      clear RS RT S1 S2 T1 T2 HB0 RV
      go_wp2_with fail
      go_region_held3 (fun w' => w'.cell? ⟨w.heap.size, 0, none⟩ = some (.slice r1 B.length c1) ∧ w'.cell? ⟨w.heap.size, 1, none⟩ = some (.slice r2 E.length c2) ∧ w'.cell? ⟨w.heap.size + 1, 0, none⟩ = some (.slice q1 B2.length d1) ∧ w'.cell? ⟨w.heap.size + 1, 1, none⟩ = some (.slice q2 E2.length d2) ∧ Rest2 w w.heap.size r1 r2 q1 q2 B E B2 E2 w')
        (first
          | exact (unhide HSK).drew
          | exact SJ.after (by assumption) (by assumption)
          | exact SJ.set2 (by assumption) (by assumption) (Nat.le_refl _))
        (first
          | (go_at_call 45; refine (unhide KJ _ (Rest2.s1 (And.right (And.right (And.right (And.right (by assumption)))))) (Rest2.t1 (And.right (And.right (And.right (And.right (by assumption))))))).mono ?_; rintro e w3 ⟨rj, cj, rfl, _, hsj, hb3⟩; have hv3 : VRow w3 (w.heap.size + 1 + 1) 29 [.slice none 0 0, .slice none 0 0] := (by refine VRow.after ?_ hb3; assumption))
          | (go_at_call 28; refine (unhide KN _ _ _ hsj).mono ?_; rintro e w4 ⟨rfl, hb4⟩; have hv4 : VRow w4 (w.heap.size + 1 + 1) 29 [.slice none 0 0, .slice none 0 0] := (by refine VRow.after ?_ hb4; assumption))
          | (go_at_call 43; refine (unhide KT _ (Rest2.s2 (And.right (And.right (And.right (And.right (by assumption)))))) (Rest2.t2 (And.right (And.right (And.right (And.right (by assumption))))))).mono ?_; rintro e w5 ⟨v5, B5, E5, rfl, ⟨rA, cA, rE, cE, rfl, hcA, hcE, hsA, hsE⟩, hok5, hin5, hlen5, hb5⟩; have hv5 : VRow w5 (w.heap.size + 1 + 1) 29 [.slice none 0 0, .slice none 0 0] := (by refine VRow.after ?_ hb5; assumption); have ka5 := hv5.cell 0 _ rfl; have kb5 := hv5.cell 1 _ rfl; have kc5 := hv5.frozen 0; have kd5 := hv5.frozen 1))
      all_goals rename_i hHeld
      all_goals have hbel := hHeld.2.2.2.2.bel
      all_goals clear hHeld
      all_goals have ho := (only_set w5 (w.heap.size + 1 + 1) 0 (.slice rA B5.length cA)).trans (only_set _ (w.heap.size + 1 + 1) 1 (.slice rE E5.length cE))
      all_goals have hrow := (hv5.set 0 (.slice rA B5.length cA)).set 1 (.slice rE E5.length cE)
      all_goals go_wp2_with fail
      all_goals refine bodyPost_ret (v := .agg #[.slice rA B5.length cA, .slice rE E5.length cE]) (results_cell_row rfl _ _ (w.heap.size + 1 + 1) 29 _ (0, 0) _ rfl hrow Try.underlying29 rfl (by rw [size29]; rfl)) rfl ?_
      all_goals exact ⟨_, B5, E5, rfl, ⟨rA, cA, rE, cE, rfl, hcA, hcE, hsA.only hv5 (two_slices _ _ _ _ _ _) ho, hsE.only hv5 (two_slices _ _ _ _ _ _) ho⟩, hbel, hlen5, Vc.vec_len hok5.base, fun _ => ⟨hok5, fun x => (hin5 x).trans (unhide HT x)⟩, fun h => absurd (unhide HOK) h⟩
    · have hzb : (Vc.checkS B2 E2 != 0) = true := bne_iff_ne.2 he
      have HBAD : Hid (¬ (Vc.checkS B E = 0 ∧ Vc.checkS B2 E2 = 0)) := hide (fun h => he h.2)
      have KD' : Hid (∀ W, Sl W q1 B2 → Sl W q2 E2 → Calls Try.prog 11 #[.agg #[.slice q1 B2.length d1, .slice q2 E2.length d2]] W fun e w' => e = .returned (.int .i64 (Vc.checkS B2 E2)) ∧ Below W.heap.size W w') := KD
      obtain ⟨X, hX⟩ : ∃ X, Vc.checkS B2 E2 = X := ⟨_, rfl⟩
      rw [hX] at KD' hzb
      clear KD hX he
      have KD := KD'
      clear KD'
      go_enter Try.func23, Try.ntmps23
      go_wp2_with fail
      generalize ((w.alloc (.cells #[.slice r1 B.length c1, .slice r2 E.length c2] 29)).alloc (.cells #[.slice q1 B2.length d1, .slice q2 E2.length d2] 29)).alloc (.cells #[.slice none 0 0, .slice none 0 0] 29) = w0 at HB0 RS RT RV S1 S2 T1 T2 rs0 rs1 rt0 rt1 ⊢
      refine (unhide KC _ (unhide S1) (unhide S2)).mono ?_
      rintro e w1 ⟨rfl, hb⟩
      replace HB0 := hide (below_grow (unhide HB0) (Nat.le_refl _) hb)
      replace RS := hide ((unhide RS).after hb)
      replace RT := hide ((unhide RT).after hb)
      replace RV := hide ((unhide RV).after hb)
      replace S1 := hide ((unhide S1).after hb)
      replace S2 := hide ((unhide S2).after hb)
      replace T1 := hide ((unhide T1).after hb)
      replace T2 := hide ((unhide T2).after hb)
      clear hb
      clear rs0 rs1 rt0 rt1
      have rt0 := (unhide RT).cell 0 _ rfl
      have rt1 := (unhide RT).cell 1 _ rfl
      go_wp2_with fail
      refine (unhide KD _ (unhide T1) (unhide T2)).mono ?_
      rintro e w2 ⟨rfl, hb⟩
      replace HB0 := hide (below_grow (unhide HB0) (Nat.le_refl _) hb)
      replace RS := hide ((unhide RS).after hb)
      replace RT := hide ((unhide RT).after hb)
      replace RV := hide ((unhide RV).after hb)
      replace S1 := hide ((unhide S1).after hb)
      replace S2 := hide ((unhide S2).after hb)
      replace T1 := hide ((unhide T1).after hb)
      replace T2 := hide ((unhide T2).after hb)
      clear hb
      clear rt0 rt1
      go_wp2_with (refine store_row (by rfl) 29 _ _ (by rfl) (w.heap.size + 1 + 1) [.slice none 0 0, .slice none 0 0] (by rfl) (by rfl) 29 [.slice none 0 0, .slice none 0 0] (unhide RV) 2 size29 rfl rfl (two_one _ _ _ _ _ _) ?_; intro w9 ho hr; have HR := hide hr; have HB9 := hide ((unhide HB0).trans (ho.below (by omega))); clear ho hr)
      refine bodyPost_ret (v := .agg #[.slice none 0 0, .slice none 0 0]) (results_cell_row rfl _ _ (w.heap.size + 1 + 1) 29 _ (0, 0) _ rfl (unhide HR) Try.underlying29 rfl (by rw [size29]; rfl)) rfl ?_
      exact ⟨_, [], [], rfl, ⟨none, 0, none, 0, rfl, Nat.le_refl _, Nat.le_refl _, Sl.none _ _, Sl.none _ _⟩, unhide HB9, by simp, by simp, fun h => absurd h (unhide HBAD), fun _ => ⟨rfl, rfl⟩⟩
  · have hzb : (Vc.checkS B E != 0) = true := bne_iff_ne.2 hz
    have HBAD : Hid (¬ (Vc.checkS B E = 0 ∧ Vc.checkS B2 E2 = 0)) := hide (fun h => hz h.1)
    have KC' : Hid (∀ W, Sl W r1 B → Sl W r2 E → Calls Try.prog 11 #[.agg #[.slice r1 B.length c1, .slice r2 E.length c2]] W fun e w' => e = .returned (.int .i64 (Vc.checkS B E)) ∧ Below W.heap.size W w') := KC
    obtain ⟨X, hX⟩ : ∃ X, Vc.checkS B E = X := ⟨_, rfl⟩
    rw [hX] at KC' hzb
    clear KC hX hz
    have KC := KC'
    clear KC'
    go_enter Try.func23, Try.ntmps23
    go_wp2_with fail
    generalize ((w.alloc (.cells #[.slice r1 B.length c1, .slice r2 E.length c2] 29)).alloc (.cells #[.slice q1 B2.length d1, .slice q2 E2.length d2] 29)).alloc (.cells #[.slice none 0 0, .slice none 0 0] 29) = w0 at HB0 RS RT RV S1 S2 T1 T2 rs0 rs1 rt0 rt1 ⊢
    refine (unhide KC _ (unhide S1) (unhide S2)).mono ?_
    rintro e w1 ⟨rfl, hb⟩
    replace HB0 := hide (below_grow (unhide HB0) (Nat.le_refl _) hb)
    replace RS := hide ((unhide RS).after hb)
    replace RT := hide ((unhide RT).after hb)
    replace RV := hide ((unhide RV).after hb)
    replace S1 := hide ((unhide S1).after hb)
    replace S2 := hide ((unhide S2).after hb)
    replace T1 := hide ((unhide T1).after hb)
    replace T2 := hide ((unhide T2).after hb)
    clear hb
    clear rs0 rs1 rt0 rt1
    have rt0 := (unhide RT).cell 0 _ rfl
    have rt1 := (unhide RT).cell 1 _ rfl
    skip
    go_wp2_with (refine store_row (by rfl) 29 _ _ (by rfl) (w.heap.size + 1 + 1) [.slice none 0 0, .slice none 0 0] (by rfl) (by rfl) 29 [.slice none 0 0, .slice none 0 0] (unhide RV) 2 size29 rfl rfl (two_one _ _ _ _ _ _) ?_; intro w9 ho hr; have HR := hide hr; have HB9 := hide ((unhide HB0).trans (ho.below (by omega))); clear ho hr)
    refine bodyPost_ret (v := .agg #[.slice none 0 0, .slice none 0 0]) (results_cell_row rfl _ _ (w.heap.size + 1 + 1) 29 _ (0, 0) _ rfl (unhide HR) Try.underlying29 rfl (by rw [size29]; rfl)) rfl ?_
    exact ⟨_, [], [], rfl, ⟨none, 0, none, 0, rfl, Nat.le_refl _, Nat.le_refl _, Sl.none _ _, Sl.none _ _⟩, unhide HB9, by simp, by simp, fun h => absurd h (unhide HBAD), fun _ => ⟨rfl, rfl⟩⟩
end Go.Proofs.Ytpcfblpenealbaa
