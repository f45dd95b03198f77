/-
  What Add answers, the program's: the set with a dot, and whether it was not there.
-/
import Derived.Test.YtpcfblpenealbaaTake
import Derived.Test.YtpcfblpenealbaaGapsS
namespace Go.Proofs.Ytpcfblpenealbaa
open Go.RowKit

/-- What a region keeps besides its cells. -/
structure Rest (w : World) (b : Nat) (r1 r2 : Option Addr) (B E : List Vc.D) (w' : World) : Prop where
  s1 : Sl w' r1 B
  s2 : Sl w' r2 E
  bel : Below w.heap.size w w'
  ge : b + 3 ≤ w'.heap.size
theorem Rest.after {w w' w'' : World} {b : Nat} {r1 r2 : Option Addr} {B E : List Vc.D} (h : Rest w b r1 r2 B E w') (hb : Below w'.heap.size w' w'') : Rest w b r1 r2 B E w'' :=
  ⟨h.s1.after hb, h.s2.after hb, below_grow h.bel (Nat.le_refl _) hb |> fun x => x, Nat.le_trans h.ge hb.size⟩
theorem Only.trans {B : Nat} {w w' w'' : World} (h : Only B w w') (h' : Only B w' w'') : Only B w w'' :=
  ⟨h'.os.trans h.os, h'.tape.trans h.tape, h'.output.trans h.output, h'.size.trans h.size, fun j hj => (h'.block j hj).trans (h.block j hj)⟩
theorem only_set (w : World) (B k : Nat) (v : Value) : Only B w (w.setCell ⟨B, k, none⟩ v) :=
  ⟨rfl, rfl, rfl, by simp, fun j hj => heap_setCell_other w ⟨B, k, none⟩ j v hj⟩
theorem Rest.set2 {w w' : World} {b n : Nat} {r1 r2 : Option Addr} {B E : List Vc.D} {T : Nat} {x y u v : Value} (h : Rest w b r1 r2 B E w') (hr : VRow w' n T [u, v]) (hn : w.heap.size ≤ n) (hu : ∀ k m, u ≠ .int k m) (hv : ∀ k m, v ≠ .int k m) :
    Rest w b r1 r2 B E ((w'.setCell ⟨n, 0, none⟩ x).setCell ⟨n, 1, none⟩ y) := by
  have ho := (only_set w' n 0 x).trans (only_set _ n 1 y)
  have hi : ∀ z ∈ [u, v], ∀ k m, z ≠ .int k m := by
    intro z hz
    simp at hz
    rcases hz with rfl | rfl
    · exact hu
    · exact hv
  exact ⟨h.s1.only hr hi ho, h.s2.only hr hi ho, h.bel.trans (ho.below hn), by rw [ho.size]; exact h.ge⟩

def SK (w : World) (b : Nat) (r1 r2 : Option Addr) (B E : List Vc.D) (c1 c2 : Nat) (p c : Int) (w' : World) : Prop :=
  w'.cell? ⟨b, 0, none⟩ = some (.slice r1 B.length c1) ∧ w'.cell? ⟨b, 1, none⟩ = some (.slice r2 E.length c2) ∧ w'.cell? ⟨b + 1, 0, none⟩ = some (.int .i64 p) ∧ w'.cell? ⟨b + 1, 1, none⟩ = some (.int .i64 c) ∧ Rest w b r1 r2 B E w'
theorem SK.after {w : World} {b : Nat} {r1 r2 : Option Addr} {B E : List Vc.D} {c1 c2 : Nat} {p c : Int} {w' w'' : World} (h : SK w b r1 r2 B E c1 c2 p c w') (hb : Below w'.heap.size w' w'') : SK w b r1 r2 B E c1 c2 p c w'' := by
  obtain ⟨h0, h1, h2, h3, h4⟩ := h
  exact ⟨(hb.cell (block_lt_of_cell h0)).trans h0, (hb.cell (block_lt_of_cell h1)).trans h1, (hb.cell (block_lt_of_cell h2)).trans h2, (hb.cell (block_lt_of_cell h3)).trans h3, h4.after hb⟩
theorem SK.set2 {w : World} {b : Nat} {r1 r2 : Option Addr} {B E : List Vc.D} {c1 c2 : Nat} {p c : Int} {w' : World} {T : Nat} {x y u v : Value} (h : SK w b r1 r2 B E c1 c2 p c w') (hr : VRow w' (b + 2) T [u, v]) (hn : w.heap.size ≤ b) (hu : ∀ k m, u ≠ .int k m) (hv : ∀ k m, v ≠ .int k m) :
    SK w b r1 r2 B E c1 c2 p c ((w'.setCell ⟨b + 2, 0, none⟩ x).setCell ⟨b + 2, 1, none⟩ y) := by
  obtain ⟨h0, h1, h2, h3, h4⟩ := h
  have e : ∀ j k, j ≠ b + 2 → ((w'.setCell ⟨b + 2, 0, none⟩ x).setCell ⟨b + 2, 1, none⟩ y).cell? ⟨j, k, none⟩ = w'.cell? ⟨j, k, none⟩ := fun j k hj => by
    rw [World.cell?_setCell_far _ _ _ _ (by show b + 2 ≠ j; omega), World.cell?_setCell_far _ _ _ _ (by show b + 2 ≠ j; omega)]
  exact ⟨(e b 0 (by omega)).trans h0, (e b 1 (by omega)).trans h1, (e (b + 1) 0 (by omega)).trans h2, (e (b + 1) 1 (by omega)).trans h3, h4.set2 hr (by omega) hu hv⟩
theorem SK.drew {w : World} {b : Nat} {r1 r2 : Option Addr} {B E : List Vc.D} {c1 c2 : Nat} {p c : Int} {w' : World} (h : SK w b r1 r2 B E c1 c2 p c w') : SK w b r1 r2 B E c1 c2 p c w'.drew := h.after (below_drew (Below.refl _ _))

/-- What Add leaves. -/
def AddMade (B E : List Vc.D) (d : Vc.D) (w : World) (e : Ending) (w' : World) : Prop :=
  ∃ v B' E' is, e = .returned (.tuple #[v, .bool is]) ∧ SetAt w' v B' E' ∧ Below w.heap.size w w' ∧ E'.length ≤ E.length + 1 ∧
    (Vc.checkS B E = 0 ∧ Vc.dotErr d = 0 → Vc.SetOk B' E' ∧ (∀ x, Vc.In B' E' x ↔ Vc.In B E x ∨ x = d) ∧ (is = true ↔ ¬ Vc.In B E d)) ∧
    (¬ (Vc.checkS B E = 0 ∧ Vc.dotErr d = 0) → B' = B ∧ E' = E ∧ is = false)

/-- A set and a bool as results. -/
theorem results_set {fn : Func} {p q : Tmp} {ty : TypeId} (hty : ty = 29 ∨ ty = 24) (h : fn.results = #[.cell p ty, .tmp q]) (tmps : Array Value) (w : World) (g : Nat) (x y : Value) {v : Value}
    (hp : tmps.getD p undef = .pointer (some ⟨g, 0, none⟩)) (hq : tmps.getD q undef = v) (hr : VRow w g ty [x, y]) : (results fn tmps).run Try.prog w = .ok (.tuple #[.agg #[x, y], v]) w := by
  rw [results_cell_tmp h, hp, hq]
  rcases hty with rfl | rfl
  · simp only [asAddr, Sem.run_pure, Result.andThen_ok, run_loadVar_row w g 29 29 #[x, y] (0, 0) _ hr Try.underlying29 rfl (by rw [size29]; rfl)]
  · simp only [asAddr, Sem.run_pure, Result.andThen_ok, run_loadVar_row w g 24 24 #[x, y] (0, 0) _ hr Try.underlying24 rfl (by rw [size24]; rfl)]

set_option maxRecDepth 100000 in
set_option maxHeartbeats 4000000 in
theorem add_any (r1 r2 : Option Addr) (c1 c2 : Nat) (B E : List Vc.D) (hB : B.length ≤ 90000) (hE : E.length ≤ 90000) (hc2 : E.length ≤ c2) (p c : Int) (w : World) (s1 : Sl w r1 B) (s2 : Sl w r2 E) :
    Calls Try.prog 20 #[.agg #[.slice r1 B.length c1, .slice r2 E.length c2], .agg #[.int .i64 p, .int .i64 c]] w (AddMade B E (p, c) w) := by
  have HB0 := hide (((below_alloc' (w := w) (.cells #[.slice r1 B.length c1, .slice r2 E.length c2] 29)).alloc (by simp) (.cells #[.int .i64 p, .int .i64 c] 26)).alloc (by simp; omega) (.cells #[.slice none 0 0, .slice none 0 0] 29))
  have RS := hide (((VRow.new w 29 [.slice r1 B.length c1, .slice r2 E.length c2]).alloc (.cells #[.int .i64 p, .int .i64 c] 26)).alloc (.cells #[.slice none 0 0, .slice none 0 0] 29))
  have RT := hide ((VRow.newAt (W := w.alloc (.cells #[.slice r1 B.length c1, .slice r2 E.length c2] 29)) (T := 26) (n := w.heap.size + 1) (vs := [.int .i64 p, .int .i64 c]) (by simp)).alloc (.cells #[.slice none 0 0, .slice none 0 0] 29))
  have RV := hide (VRow.newAt (W := (w.alloc (.cells #[.slice r1 B.length c1, .slice r2 E.length c2] 29)).alloc (.cells #[.int .i64 p, .int .i64 c] 26)) (T := 29) (n := w.heap.size + 1 + 1) (vs := [.slice none 0 0, .slice none 0 0]) (by simp))
  have S1 := hide (s1.after (unhide HB0))
  have S2 := hide (s2.after (unhide HB0))
  have KC := hide fun W h h' => setCheck_any r1 r2 c1 c2 B E (by omega) (by omega) W h h'
  have KD := hide fun W => checkDot_any p c W
  have rs0 := (unhide RS).cell 0 _ rfl
  have rs1 := (unhide RS).cell 1 _ rfl
  have rt0 := (unhide RT).cell 0 _ rfl
  have rt1 := (unhide RT).cell 1 _ rfl
  clear s1 s2
  by_cases hz : Vc.checkS B E = 0
  · rw [hz] at KC
    by_cases he : Vc.dotErr (p, c) = 0
    · rw [he] at KD
      have hs := (Vc.checkS_zero B E).1 hz
      have hok := (Vc.dotErr_zero (p, c)).1 he
      obtain ⟨n, hn⟩ : ∃ n : Nat, n = 64 := ⟨64, rfl⟩
      have KN := hide fun W h => counts_any r1 c1 B hs.base n hn W h
      have KH := hide fun W h h' => setHas_any r1 r2 c1 c2 B E (by omega) (by omega) p c W h h'
      have htu := Vc.TU.start (f := Vc.look B) (a := E) (b := [(p, c)]) (Vc.look_f0 hs.base) (Vc.look_fo hs.base) hs.ris (Vc.one_ris hok) hs.ok (fun x hx => by rw [List.mem_singleton.1 hx]; exact hok)
      have KT := hide fun r W h h' => take_any _ (Vc.look B) n (E.length + 1) hn r2 r c2 1 E [(p, c)] hc2 (by simp) htu (by simp) (by omega) W h h'
      have HT : Hid (∀ x, ((1 ≤ x.2 ∧ x.2 ≤ Vc.look B x.1) ∨ x ∈ E ∨ x ∈ [(p, c)]) ↔ Vc.In B E x ∨ x = (p, c)) := hide (fun x => by unfold Vc.In; rw [List.mem_singleton, or_assoc])
      have HH : Hid (hasS B E (p, c) = true ↔ Vc.In B E (p, c)) := hide (by unfold hasS; rw [decide_eq_true_iff]; simp [hz])
      have HOK : Hid (Vc.checkS B E = 0 ∧ Vc.dotErr (p, c) = 0) := hide ⟨hz, he⟩
      generalize (cntF (Vc.look B) n).toArray = vs at KN KT
      generalize hasS B E (p, c) = H at KH HH
      clear hs hok hn htu hz he
      go_enter Try.func20, Try.ntmps20
      go_wp2_with fail
      generalize ((w.alloc (.cells #[.slice r1 B.length c1, .slice r2 E.length c2] 29)).alloc (.cells #[.int .i64 p, .int .i64 c] 26)).alloc (.cells #[.slice none 0 0, .slice none 0 0] 29) = w0 at HB0 RS RT RV S1 S2 rs0 rs1 rt0 rt1 ⊢
      refine (unhide KC _ (unhide S1) (unhide S2)).mono ?_
      rintro e w1 ⟨rfl, hb⟩
      replace HB0 := hide (below_grow (unhide HB0) (Nat.le_refl _) hb)
      replace RS := hide ((unhide RS).after hb)
      replace RT := hide ((unhide RT).after hb)
      replace RV := hide ((unhide RV).after hb)
      replace S1 := hide ((unhide S1).after hb)
      replace S2 := hide ((unhide S2).after hb)
      clear hb rs0 rs1 rt0 rt1
      have rt0 := (unhide RT).cell 0 _ rfl
      have rt1 := (unhide RT).cell 1 _ rfl
      go_wp2_with fail
      refine (unhide KD _).mono ?_
      rintro e w2 ⟨rfl, hb⟩
      replace HB0 := hide (below_grow (unhide HB0) (Nat.le_refl _) hb)
      replace RS := hide ((unhide RS).after hb)
      replace RT := hide ((unhide RT).after hb)
      replace RV := hide ((unhide RV).after hb)
      replace S1 := hide ((unhide S1).after hb)
      replace S2 := hide ((unhide S2).after hb)
      clear hb rt0 rt1
      have HSK : Hid (SK w w.heap.size r1 r2 B E c1 c2 p c w2) := hide ⟨(unhide RS).cell 0 _ rfl, (unhide RS).cell 1 _ rfl, (unhide RT).cell 0 _ rfl, (unhide RT).cell 1 _ rfl, unhide S1, unhide S2, unhide HB0, (unhide RV).lt⟩
      have hv0 : VRow w2.drew (w.heap.size + 1 + 1) 29 [.slice none 0 0, .slice none 0 0] := unhide RV
      clear RS RT S1 S2 HB0 RV
      go_wp2_with fail
      go_region_held3 (fun w' => w'.cell? ⟨w.heap.size, 0, none⟩ = some (.slice r1 B.length c1) ∧ w'.cell? ⟨w.heap.size, 1, none⟩ = some (.slice r2 E.length c2) ∧ w'.cell? ⟨w.heap.size + 1, 0, none⟩ = some (.int .i64 p) ∧ w'.cell? ⟨w.heap.size + 1, 1, none⟩ = some (.int .i64 c) ∧ Rest w w.heap.size r1 r2 B E w')
        (first
          | exact (unhide HSK).drew
          | exact SK.after (by assumption) (by assumption)
          | exact SK.after (by assumption) (below_alloc' _)
          | exact SK.set2 (by assumption) (by assumption) (Nat.le_refl _) (fun _ _ h => by cases h) (fun _ _ h => by cases h))
        (first
          | (go_at_call 28; refine (unhide KN _ (Rest.s1 (And.right (And.right (And.right (And.right (by assumption))))))).mono ?_; rintro e w3 ⟨rfl, hb3⟩; have hv3 : VRow w3 (w.heap.size + 1 + 1) 29 [.slice none 0 0, .slice none 0 0] := (by refine VRow.after ?_ hb3; first | assumption | (refine VRow.alloc ?_ _; assumption)))
          | (go_at_call 13; refine (unhide KH _ (Rest.s1 (And.right (And.right (And.right (And.right (by assumption)))))) (Rest.s2 (And.right (And.right (And.right (And.right (by assumption))))))).mono ?_; rintro e w4 ⟨rfl, hb4⟩; have hv4 : VRow w4 (w.heap.size + 1 + 1) 29 [.slice none 0 0, .slice none 0 0] := (by refine VRow.after ?_ hb4; first | assumption | (refine VRow.alloc ?_ _; assumption)); have ka4 := hv4.cell 0 _ rfl; have kb4 := hv4.cell 1 _ rfl; have kc4 := hv4.frozen 0; have kd4 := hv4.frozen 1)
          | (go_at_call 43; refine (unhide KT _ _ (Rest.s2 (And.right (And.right (And.right (And.right (by assumption)))))) (by first | exact one_sl1 _ _ _ | (refine Sl.after ?_ hb3; exact one_sl1 _ _ _))).mono ?_; rintro e w5 ⟨v5, B5, E5, rfl, ⟨rA, cA, rE, cE, rfl, hcA, hcE, hsA, hsE⟩, hok5, hin5, hlen5, hb5⟩; have hv5 : VRow w5 (w.heap.size + 1 + 1) 29 [.slice none 0 0, .slice none 0 0] := (by refine VRow.after ?_ hb5; first | assumption | (refine VRow.alloc ?_ _; assumption)); have ka5 := hv5.cell 0 _ rfl; have kb5 := hv5.cell 1 _ rfl; have kc5 := hv5.frozen 0; have kd5 := hv5.frozen 1))
      all_goals rename_i hHeld
      all_goals have hbel := hHeld.2.2.2.2.bel
      all_goals clear hHeld
      all_goals have ho := (only_set w4 (w.heap.size + 1 + 1) 0 (.slice rA B5.length cA)).trans (only_set _ (w.heap.size + 1 + 1) 1 (.slice rE E5.length cE))
      all_goals have hrow := (hv4.set 0 (.slice rA B5.length cA)).set 1 (.slice rE E5.length cE)
      all_goals go_wp2_with fail
      all_goals refine bodyPost_ret (v := .tuple #[.agg #[.slice rA B5.length cA, .slice rE E5.length cE], .bool !H]) (results_set (.inl rfl) rfl _ _ _ _ _ rfl rfl hrow) rfl ?_
      all_goals exact ⟨_, B5, E5, !H, rfl, ⟨rA, cA, rE, cE, rfl, hcA, hcE, (hsA.after hb4).only hv4 (two_slices _ _ _ _ _ _) ho, (hsE.after hb4).only hv4 (two_slices _ _ _ _ _ _) ho⟩, hbel, hlen5, fun _ => ⟨hok5, fun x => (hin5 x).trans (unhide HT x), by rw [← unhide HH]; cases H <;> simp⟩, fun h => absurd (unhide HOK) h⟩
    · have hzb : (Vc.dotErr (p, c) != 0) = true := bne_iff_ne.2 he
      have HBAD : Hid (¬ (Vc.checkS B E = 0 ∧ Vc.dotErr (p, c) = 0)) := hide (fun h => he h.2)
      have K1 := hide fun W h => clone_any r1 c1 B (by omega) W h
      have K2 := hide fun W h => clone_any r2 c2 E (by omega) W h
      have KD' : Hid (∀ W, Calls Try.prog 29 #[.agg #[.int .i64 p, .int .i64 c]] W fun e w' => e = .returned (.int .i64 (Vc.dotErr (p, c))) ∧ Below W.heap.size W w') := KD
      obtain ⟨X, hX⟩ : ∃ X, Vc.dotErr (p, c) = X := ⟨_, rfl⟩
      rw [hX] at KD' hzb
      clear KD hX he hz
      have KD := KD'
      clear KD'
      go_enter Try.func20, Try.ntmps20
      go_wp2_with fail
      generalize ((w.alloc (.cells #[.slice r1 B.length c1, .slice r2 E.length c2] 29)).alloc (.cells #[.int .i64 p, .int .i64 c] 26)).alloc (.cells #[.slice none 0 0, .slice none 0 0] 29) = w0 at HB0 RS RT RV S1 S2 rs0 rs1 rt0 rt1 ⊢
      refine (unhide KC _ (unhide S1) (unhide S2)).mono ?_
      rintro e w1 ⟨rfl, hb⟩
      replace HB0 := hide (below_grow (unhide HB0) (Nat.le_refl _) hb)
      replace RS := hide ((unhide RS).after hb)
      replace RT := hide ((unhide RT).after hb)
      replace RV := hide ((unhide RV).after hb)
      replace S1 := hide ((unhide S1).after hb)
      replace S2 := hide ((unhide S2).after hb)
      clear hb rs0 rs1 rt0 rt1
      have rt0 := (unhide RT).cell 0 _ rfl
      have rt1 := (unhide RT).cell 1 _ rfl
      go_wp2_with fail
      refine (unhide KD _).mono ?_
      rintro e w2 ⟨rfl, hb⟩
      replace HB0 := hide (below_grow (unhide HB0) (Nat.le_refl _) hb)
      replace RS := hide ((unhide RS).after hb)
      replace RT := hide ((unhide RT).after hb)
      replace RV := hide ((unhide RV).after hb)
      replace S1 := hide ((unhide S1).after hb)
      replace S2 := hide ((unhide S2).after hb)
      clear hb rt0 rt1
      go_wp2_with fail
      have HSK : Hid (SK w w.heap.size r1 r2 B E c1 c2 p c w2) := hide ⟨(unhide RS).cell 0 _ rfl, (unhide RS).cell 1 _ rfl, (unhide RT).cell 0 _ rfl, (unhide RT).cell 1 _ rfl, unhide S1, unhide S2, unhide HB0, (unhide RV).lt⟩
      have hv0 : VRow w2.drew (w.heap.size + 1 + 1) 29 [.slice none 0 0, .slice none 0 0] := unhide RV
      clear RS RT S1 S2 HB0 RV
      go_region_held3 (fun w' => w'.cell? ⟨w.heap.size, 0, none⟩ = some (.slice r1 B.length c1) ∧ w'.cell? ⟨w.heap.size, 1, none⟩ = some (.slice r2 E.length c2) ∧ w'.cell? ⟨w.heap.size + 1, 0, none⟩ = some (.int .i64 p) ∧ w'.cell? ⟨w.heap.size + 1, 1, none⟩ = some (.int .i64 c) ∧ Rest w w.heap.size r1 r2 B E w')
        (first
          | exact (unhide HSK).drew
          | exact SK.after (by assumption) (by assumption)
          | exact SK.after (by assumption) (below_alloc' _)
          | exact SK.set2 (by assumption) (by assumption) (Nat.le_refl _) (fun _ _ h => by cases h) (fun _ _ h => by cases h))
        (first
          | (go_at_call_of 42 r1; refine (unhide K1 _ (Rest.s1 (And.right (And.right (And.right (And.right (by assumption))))))).mono ?_; rintro e w6 ⟨rA, cA, rfl, hcA, hsA, hb6⟩; have hv6 : VRow w6 (w.heap.size + 1 + 1) 29 [.slice none 0 0, .slice none 0 0] := (by refine VRow.after ?_ hb6; assumption))
          | (go_at_call_of 42 r2; refine (unhide K2 _ (Rest.s2 (And.right (And.right (And.right (And.right (by assumption))))))).mono ?_; rintro e w7 ⟨rE, cE, rfl, hcE, hsE, hb7⟩; have hv7 : VRow w7 (w.heap.size + 1 + 1) 29 [.slice none 0 0, .slice none 0 0] := (by refine VRow.after ?_ hb7; assumption); have ka7 := hv7.cell 0 _ rfl; have kb7 := hv7.cell 1 _ rfl; have kc7 := hv7.frozen 0; have kd7 := hv7.frozen 1))
      all_goals rename_i hHeld
      all_goals have hbel := hHeld.2.2.2.2.bel
      all_goals clear hHeld
      all_goals have ho := (only_set w7 (w.heap.size + 1 + 1) 0 (.slice rA B.length cA)).trans (only_set _ (w.heap.size + 1 + 1) 1 (.slice rE E.length cE))
      all_goals have hrow := (hv7.set 0 (.slice rA B.length cA)).set 1 (.slice rE E.length cE)
      all_goals go_wp2_with fail
      all_goals refine bodyPost_ret (v := .tuple #[.agg #[.slice rA B.length cA, .slice rE E.length cE], .bool false]) (results_set (.inl rfl) rfl _ _ _ _ _ rfl rfl hrow) rfl ?_
      all_goals exact ⟨_, B, E, false, rfl, ⟨rA, cA, rE, cE, rfl, hcA, hcE, (hsA.after hb7).only hv7 (two_slices _ _ _ _ _ _) ho, hsE.only hv7 (two_slices _ _ _ _ _ _) ho⟩, hbel, by omega, fun h => absurd h (unhide HBAD), fun _ => ⟨rfl, rfl, rfl⟩⟩
  · have hzb : (Vc.checkS B E != 0) = true := bne_iff_ne.2 hz
    have HBAD : Hid (¬ (Vc.checkS B E = 0 ∧ Vc.dotErr (p, c) = 0)) := hide (fun h => hz h.1)
    have K1 := hide fun W h => clone_any r1 c1 B (by omega) W h
    have K2 := hide fun W h => clone_any r2 c2 E (by omega) W h
    have KC' : Hid (∀ W, Sl W r1 B → Sl W r2 E → Calls Try.prog 11 #[.agg #[.slice r1 B.length c1, .slice r2 E.length c2]] W fun e w' => e = .returned (.int .i64 (Vc.checkS B E)) ∧ Below W.heap.size W w') := KC
    obtain ⟨X, hX⟩ : ∃ X, Vc.checkS B E = X := ⟨_, rfl⟩
    rw [hX] at KC' hzb
    clear KC KD hX hz
    have KC := KC'
    clear KC'
    go_enter Try.func20, Try.ntmps20
    go_wp2_with fail
    generalize ((w.alloc (.cells #[.slice r1 B.length c1, .slice r2 E.length c2] 29)).alloc (.cells #[.int .i64 p, .int .i64 c] 26)).alloc (.cells #[.slice none 0 0, .slice none 0 0] 29) = w0 at HB0 RS RT RV S1 S2 rs0 rs1 rt0 rt1 ⊢
    refine (unhide KC _ (unhide S1) (unhide S2)).mono ?_
    rintro e w1 ⟨rfl, hb⟩
    replace HB0 := hide (below_grow (unhide HB0) (Nat.le_refl _) hb)
    replace RS := hide ((unhide RS).after hb)
    replace RT := hide ((unhide RT).after hb)
    replace RV := hide ((unhide RV).after hb)
    replace S1 := hide ((unhide S1).after hb)
    replace S2 := hide ((unhide S2).after hb)
    clear hb rs0 rs1 rt0 rt1
    have rt0 := (unhide RT).cell 0 _ rfl
    have rt1 := (unhide RT).cell 1 _ rfl
    go_wp2_with fail
    clear rt0 rt1
    have HSK : Hid (SK w w.heap.size r1 r2 B E c1 c2 p c w1) := hide ⟨(unhide RS).cell 0 _ rfl, (unhide RS).cell 1 _ rfl, (unhide RT).cell 0 _ rfl, (unhide RT).cell 1 _ rfl, unhide S1, unhide S2, unhide HB0, (unhide RV).lt⟩
    have hv0 : VRow w1.drew (w.heap.size + 1 + 1) 29 [.slice none 0 0, .slice none 0 0] := unhide RV
    clear RS RT S1 S2 HB0 RV
    go_region_held3 (fun w' => w'.cell? ⟨w.heap.size, 0, none⟩ = some (.slice r1 B.length c1) ∧ w'.cell? ⟨w.heap.size, 1, none⟩ = some (.slice r2 E.length c2) ∧ w'.cell? ⟨w.heap.size + 1, 0, none⟩ = some (.int .i64 p) ∧ w'.cell? ⟨w.heap.size + 1, 1, none⟩ = some (.int .i64 c) ∧ Rest w w.heap.size r1 r2 B E w')
      (first
        | exact (unhide HSK).drew
        | exact SK.after (by assumption) (by assumption)
        | exact SK.after (by assumption) (below_alloc' _)
        | exact SK.set2 (by assumption) (by assumption) (Nat.le_refl _) (fun _ _ h => by cases h) (fun _ _ h => by cases h))
      (first
        | (go_at_call_of 42 r1; refine (unhide K1 _ (Rest.s1 (And.right (And.right (And.right (And.right (by assumption))))))).mono ?_; rintro e w6 ⟨rA, cA, rfl, hcA, hsA, hb6⟩; have hv6 : VRow w6 (w.heap.size + 1 + 1) 29 [.slice none 0 0, .slice none 0 0] := (by refine VRow.after ?_ hb6; assumption))
        | (go_at_call_of 42 r2; refine (unhide K2 _ (Rest.s2 (And.right (And.right (And.right (And.right (by assumption))))))).mono ?_; rintro e w7 ⟨rE, cE, rfl, hcE, hsE, hb7⟩; have hv7 : VRow w7 (w.heap.size + 1 + 1) 29 [.slice none 0 0, .slice none 0 0] := (by refine VRow.after ?_ hb7; assumption); have ka7 := hv7.cell 0 _ rfl; have kb7 := hv7.cell 1 _ rfl; have kc7 := hv7.frozen 0; have kd7 := hv7.frozen 1))
    all_goals rename_i hHeld
    all_goals have hbel := hHeld.2.2.2.2.bel
    all_goals clear hHeld
    all_goals have ho := (only_set w7 (w.heap.size + 1 + 1) 0 (.slice rA B.length cA)).trans (only_set _ (w.heap.size + 1 + 1) 1 (.slice rE E.length cE))
    all_goals have hrow := (hv7.set 0 (.slice rA B.length cA)).set 1 (.slice rE E.length cE)
    all_goals go_wp2_with fail
    all_goals refine bodyPost_ret (v := .tuple #[.agg #[.slice rA B.length cA, .slice rE E.length cE], .bool false]) (results_set (.inl rfl) rfl _ _ _ _ _ rfl rfl hrow) rfl ?_
    all_goals exact ⟨_, B, E, false, rfl, ⟨rA, cA, rE, cE, rfl, hcA, hcE, (hsA.after hb7).only hv7 (two_slices _ _ _ _ _ _) ho, hsE.only hv7 (two_slices _ _ _ _ _ _) ho⟩, hbel, by omega, fun h => absurd h (unhide HBAD), fun _ => ⟨rfl, rfl, rfl⟩⟩
end Go.Proofs.Ytpcfblpenealbaa
