/-
  What the program puts: dots, vectors, versions and leaves, into a Writer. Conditions: those that each theorem names.
-/
import Derived.Test.YthchcjjpplcfnaaDoorR2
import Derived.Test.YthchcjjpplcfnaaDoorCP1
import Derived.Test.YthchcjjpplcfnaaDoorP1
namespace Go.Proofs.YthchcjjpplcfnaaDoor
open Go.RowKit

/-- What a call has come to at a Writer so far. -/
abbrev WS (own : Nat → Prop) (p : Addr) (w : World) (st : St) (wr : World) : Prop := Turned Wr own p w st (.tuple #[]) (.returned (.tuple #[])) wr
theorem WS.start {own : Nat → Prop} {p : Addr} {w : World} {st : St} (h : Wr w p st own) : WS own p w st w := turned_refl h (Below.refl _ _)
theorem WS.after {own : Nat → Prop} {p : Addr} {w wr wr' : World} {st : St} (h : WS own p w st wr) (hb : Below wr.heap.size wr wr') : WS own p w st wr' := by
  obtain ⟨own', _, hx, ho, hbs⟩ := h
  exact ⟨own', rfl, wr_after hx hb, ho, ⟨hb.os.trans hbs.os, hb.tape.trans hbs.tape, hb.output.trans hbs.output, Nat.le_trans hbs.size hb.size, fun k hk hk2 => (hb.block k (Nat.lt_of_lt_of_le hk hbs.size)).trans (hbs.block k hk hk2)⟩⟩
theorem WS.beside {own : Nat → Prop} {p : Addr} {w wr : World} {st : St} (h : WS own p w st wr) : Beside own w wr := by
  obtain ⟨own', _, hx, _, hbs⟩ := h
  exact hbs
theorem WS.below {own : Nat → Prop} {p : Addr} {w wr : World} {st : St} (h : WS own p w st wr) {B : Nat} (hB : B ≤ w.heap.size) (ho : ∀ g, own g → B ≤ g) : Below B w wr := h.beside.below hB ho
theorem WS.row {own : Nat → Prop} {p : Addr} {w wr : World} {st : St} (h : WS own p w st wr) {B T : Nat} {vs : List Value} (hr : VRow w B T vs) (hB : ¬ own B) : VRow wr B T vs := hr.beside h.beside hB
theorem WS.of {own : Nat → Prop} {p : Addr} {w w1 wr : World} {st : St} (hb : Below w.heap.size w w1) (h : WS own p w1 st wr) : WS own p w st wr := turned_of hb h
/-- What a call does to a Writer, said of what was there ahead. -/
theorem WS.call {own : Nat → Prop} {p : Addr} {w wr : World} {st st' : St} {f : Nat} {args : Array Value} (h : WS own p w st wr)
    (K : ∀ own1, Wr wr p st own1 → (∀ g, own1 g → own g ∨ w.heap.size ≤ g) → Calls Tryd.prog f args wr (Turned Wr own1 p wr st' (.tuple #[]))) : Calls Tryd.prog f args wr fun e w' => e = .returned (.tuple #[]) ∧ WS own p w st' w' := by
  obtain ⟨own1, _, hx, ho, hbs⟩ := h
  refine (K own1 hx ho).mono fun e w' hm => ?_
  have h2 := turned_trans ho hbs hm
  obtain rfl : e = .returned (.tuple #[]) := h2.choose_spec.1
  exact ⟨rfl, h2⟩


set_option maxRecDepth 100000 in
set_option maxHeartbeats 400000 in
theorem putDot_any {w : World} {p : Addr} {st : St} {own : Nat → Prop} (h : Wr w p st own) (hl : st.1.length ≤ 49000000) (x y : Int) :
    Calls Tryd.prog 59 #[.pointer (some p), .agg #[.int .i64 x, .int .i64 y]] w (Turned Wr own p w (wDot st (x, y)) (.tuple #[])) := by
  have HB := hide (below_alloc' (w := w) (.cells #[.int .i64 x, .int .i64 y] 61))
  have HW := hide (WS.start (wr_after h (unhide HB)))
  have R := VRow.new w 61 [.int .i64 x, .int .i64 y]
  have HR := hide R
  have HN : Hid (¬ own w.heap.size) := hide fun ho => absurd (wr_lt h _ ho) (by omega)
  have HL := hide hl
  have HL2 := hide (wNumber_len st x)
  have a0 := R.cell 0 _ rfl
  clear h R hl
  go_enter Tryd.func59, Tryd.ntmps59
  go_wp2_with fail
  refine ((unhide HW).call fun own1 hx _ => wnumber_any hx (by have := unhide HL; omega) x).mono ?_
  rintro e w1 ⟨rfl, hs⟩
  have HS := hide hs
  have a1 := ((unhide HS).row (unhide HR) (unhide HN)).cell 1 _ rfl
  clear hs a0
  go_wp2_with fail
  refine ((unhide HS).call fun own1 hx _ => wnumber_any hx (by have := unhide HL; have := unhide HL2; omega) y).mono ?_
  rintro e w2 ⟨rfl, hs⟩
  have HS2 := hide hs
  clear hs
  go_wp2_with fail
  go_end0
  exact (unhide HS2).of (unhide HB)

set_option maxRecDepth 100000 in
set_option maxHeartbeats 1000000 in
theorem putListD_any {w : World} {p : Addr} {st : St} {own : Nat → Prop} (h : Wr w p st own) (hl : st.1.length ≤ 48000000) (w0 : World) (hb0 : Below w0.heap.size w0 w) (ho0 : ∀ g, own g → w0.heap.size ≤ g)
    (a : Option Addr) (cap : Nat) (ds : List Vc.D) (hd : ds.length ≤ 9223372036854775807) (s : Sl w0 a ds) :
    Calls Tryd.prog 78 #[.pointer (some p), .slice a ds.length cap, .func (.func 65) #[] #[], .func (.func 59) #[] #[]] w (Turned Wr own p w (wVec st ds) (.tuple #[])) := by
  have HW := hide (WS.start h)
  have HB0 := hide hb0
  have S := hide (s.after hb0)
  have S0 := hide s
  have HO0 := hide ho0
  have HL := hide hl
  have KC := hide fun W h => check_any a cap ds hd W h
  obtain ⟨C, hC⟩ : ∃ C, Vc.check ds = C := ⟨_, rfl⟩
  rw [hC] at KC
  clear h s hb0 ho0 hl
  by_cases hc : C = 0
  · subst hc
    have HLEN := hide (Vc.vec_len ((Vc.check_zero ds).1 hC))
    rw [wVec_ok hC]
    obtain ⟨S1, hS1⟩ : ∃ S1, wNumber st ds.length = S1 := ⟨_, rfl⟩
    have HPART : Hid (∀ k, (wDots S1 (ds.take k)).1.length ≤ 48001000) := hide fun k => by
      have h1 := wVec_part st ds k
      rw [hC, fail_zero, hS1] at h1
      have := unhide HL
      omega
    rw [hS1]
    go_enter Tryd.func78, Tryd.ntmps78
    go_wp2_with fail
    refine (unhide KC _ (unhide S)).mono ?_
    rintro e w1 ⟨rfl, hb1⟩
    have HW1 := hide ((unhide HW).after hb1)
    clear hb1
    go_wp2_with fail
    refine ((unhide HW1).call fun own1 hx _ => wnumber_any hx (by have := unhide HL; omega) ds.length).mono ?_
    rw [hS1]
    rintro e w2 ⟨rfl, hs⟩
    have HS := hide hs
    clear hs hS1 hC
    go_wp2_with fail
    go_loopw [25] (fun i wr => ∃ k : Nat, k ≤ ds.length ∧ i = .int .i64 k ∧ WS own p w (wDots S1 (ds.take k)) wr) (fun i _ => ds.length - (intOf i).toNat)
    case atStart => exact ⟨0, Nat.zero_le _, rfl, unhide HS⟩
    case round =>
      obtain ⟨k, hk, rfl, hs⟩ := hrel
      have HR := hide hs
      clear hs
      by_cases hlt : k < ds.length
      · obtain ⟨d, hx⟩ : ∃ d, ds[k]? = some d := ⟨_, List.getElem?_eq_getElem hlt⟩
        have hsl := (unhide S0).after ((unhide HB0).trans ((unhide HR).below (unhide HB0).size (unhide HO0)))
        obtain ⟨g, o, rfl, hg, hcell⟩ := hsl (by omega)
        obtain ⟨x0, x1⟩ := hcell k d hx
        have HST := hide (wDots_snoc S1 ds k d hx)
        clear hcell hx hg
        go_wp2_with (refine store_row (by rfl) 61 _ _ (by rfl) wr.heap.size [.int .i64 d.1, .int .i64 d.2] (by rfl) (by rfl) 61 zero61 (VRow.newAt rfl) 2 size61 rfl rfl (by simp [Value.oneCell']) ?_; intro wz ho hr; have HZ := hide ((below_alloc' (w := wr) (.cells zero61.toArray 61)).trans (ho.below (Nat.le_refl _))); have HZ2 := hide ((unhide HR).after (unhide HZ)); clear x0 x1; have z0 := hr.cell 0 _ rfl; have z1 := hr.cell 1 _ rfl; clear ho hr)
        refine ((unhide HZ2).call fun own1 hx _ => putDot_any hx (by have := unhide HPART k; omega) d.1 d.2).mono ?_
        rintro e w3 ⟨rfl, hs⟩
        have HS3 := hide hs
        clear hs z0 z1
        go_wp2_with fail
        go_roundw
        case rel => exact ⟨k + 1, by omega, by go_num, by rw [unhide HST]; exact unhide HS3⟩
        case measure => simp [intOf]; omega
      · obtain rfl : k = ds.length := by omega
        have HE := unhide HR
        rw [List.take_length] at HE
        have HE2 := hide HE
        clear HE
        go_wp2_with fail
        go_end0
        exact unhide HE2
  · rw [wVec_bad (by rw [hC]; exact hc), hC]
    have hne : (C != 0) = true := bne_iff_ne.2 hc
    go_enter Tryd.func78, Tryd.ntmps78
    go_wp2_with fail
    refine (unhide KC _ (unhide S)).mono ?_
    rintro e w1 ⟨rfl, hb1⟩
    have HW1 := hide ((unhide HW).after hb1)
    clear hb1
    go_wp2_with fail
    refine ((unhide HW1).call fun own1 hx _ => wfail_any hx C).mono ?_
    rintro e w2 ⟨rfl, hs⟩
    have HS := hide hs
    clear hs
    go_wp2_with fail
    go_end0
    exact unhide HS

theorem ws_of {own : Nat → Prop} {p : Addr} {w w' : World} {st : St} {e : Ending} (h : Turned Wr own p w st (.tuple #[]) e w') : e = .returned (.tuple #[]) ∧ WS own p w st w' := by
  obtain rfl : e = .returned (.tuple #[]) := h.choose_spec.1
  exact ⟨rfl, h⟩
set_option maxRecDepth 100000 in
set_option maxHeartbeats 400000 in
theorem putVec_any {w : World} {p : Addr} {st : St} {own : Nat → Prop} (h : Wr w p st own) (hl : st.1.length ≤ 48000000) (w0 : World) (hb0 : Below w0.heap.size w0 w) (ho0 : ∀ g, own g → w0.heap.size ≤ g)
    (a : Option Addr) (cap : Nat) (ds : List Vc.D) (hd : ds.length ≤ 9223372036854775807) (s : Sl w0 a ds) :
    Calls Tryd.prog 60 #[.pointer (some p), .slice a ds.length cap] w (Turned Wr own p w (wVec st ds) (.tuple #[])) := by
  have K := hide (putListD_any h hl w0 hb0 ho0 a cap ds hd s)
  clear h hl s hb0 ho0
  go_enter Tryd.func60, Tryd.ntmps60
  go_wp2_with fail
  refine (unhide K).mono ?_
  intro e w1 hm
  obtain ⟨rfl, hs⟩ := ws_of hm
  have HS := hide hs
  clear hm hs
  go_wp2_with fail
  go_end0
  exact unhide HS

set_option maxRecDepth 100000 in
set_option maxHeartbeats 400000 in
theorem putVersion_any {w : World} {p : Addr} {st : St} {own : Nat → Prop} (h : Wr w p st own) (hl : st.1.length ≤ 47000000) (w0 : World) (hb0 : Below w0.heap.size w0 w) (ho0 : ∀ g, own g → w0.heap.size ≤ g)
    (v : Vc.V) (r : Option Addr) (c : Nat) (hd : v.past.length ≤ 9223372036854775807) (s : Sl w0 r v.past) :
    Calls Tryd.prog 37 #[.pointer (some p), .agg (verL v r c).toArray] w (Turned Wr own p w (wVer st v) (.tuple #[])) := by
  have HB := hide (below_alloc' (w := w) (.cells (verL v r c).toArray 64))
  have HW := hide (WS.start (wr_after h (unhide HB)))
  have R := VRow.new w 64 (verL v r c)
  have HR := hide R
  have HN : Hid (¬ own w.heap.size) := hide fun ho => absurd (wr_lt h _ ho) (by omega)
  have HL := hide hl
  have HL1 := hide (wDot_len st (v.dot.1, v.dot.2))
  have HL2 := hide (wVec_len (wDot st (v.dot.1, v.dot.2)) v.past)
  have HL3 := hide (wFlag_len (wVec (wDot st (v.dot.1, v.dot.2)) v.past) v.dead)
  have HB0 := hide hb0
  have HO0 := hide ho0
  have HW0 := hide (Nat.le_trans hb0.size (unhide HB).size)
  have S := hide s
  have HF : Hid (wText (wFlag (wVec (wDot st (v.dot.1, v.dot.2)) v.past) v.dead) v.data = wVer st v) := hide rfl
  have a0 := R.cell 0 _ rfl
  have a1 := R.cell 1 _ rfl
  clear h R hl s hb0 ho0
  unfold verL at a0 a1 ⊢
  go_enter Tryd.func37, Tryd.ntmps37
  go_wp2_with fail
  refine ((unhide HW).call fun own1 hx _ => putDot_any hx (by have := unhide HL; omega) v.dot.1 v.dot.2).mono ?_
  rintro e w1 ⟨rfl, hs⟩
  have HS1 := hide hs
  have a2 := ((unhide HS1).row (unhide HR) (unhide HN)).cell 2 _ rfl
  clear hs a0 a1
  go_wp2_with fail
  refine ((unhide HS1).call fun own1 hx ho => putVec_any hx (by have := unhide HL; have := unhide HL1; omega) w0 (((unhide HB0).trans ((unhide HB).mono (unhide HB0).size)).trans ((unhide HS1).below (unhide HW0) (unhide HO0)))
    (fun g hg => by rcases ho g hg with h1 | h1; exact unhide HO0 g h1; exact Nat.le_trans (unhide HW0) h1) r c v.past hd (unhide S)).mono ?_
  rintro e w2 ⟨rfl, hs⟩
  have HS2 := hide hs
  have a3 := ((unhide HS2).row (unhide HR) (unhide HN)).cell 3 _ rfl
  clear hs a2
  go_wp2_with fail
  refine ((unhide HS2).call fun own1 hx _ => wflag_any hx (by have := unhide HL; have := unhide HL1; have := unhide HL2; omega) v.dead).mono ?_
  rintro e w3 ⟨rfl, hs⟩
  have HS3 := hide hs
  have a4 := ((unhide HS3).row (unhide HR) (unhide HN)).cell 4 _ rfl
  clear hs a3
  go_wp2_with fail
  refine ((unhide HS3).call fun own1 hx _ => wtext_any hx (by have := unhide HL; have := unhide HL1; have := unhide HL2; have := unhide HL3; omega) v.data).mono ?_
  rw [unhide HF]
  rintro e w4 ⟨rfl, hs⟩
  have HS4 := hide hs
  clear hs a4
  go_wp2_with fail
  go_end0
  exact (unhide HS4).of (unhide HB)

set_option maxRecDepth 100000 in
set_option maxHeartbeats 1000000 in
theorem putListV_any {w : World} {p : Addr} {st : St} {own : Nat → Prop} (h : Wr w p st own) (hl : st.1.length ≤ 40000000) (w0 : World) (hb0 : Below w0.heap.size w0 w) (ho0 : ∀ g, own g → w0.heap.size ≤ g)
    (a : Option Addr) (cap : Nat) (vs : List Vc.V) (hf : Few vs) (s : SV w0 a vs) :
    Calls Tryd.prog 36 #[.pointer (some p), .slice a vs.length cap, .func (.func 27) #[] #[], .func (.func 37) #[] #[]] w (Turned Wr own p w (wLeaf st vs) (.tuple #[])) := by
  have HW := hide (WS.start h)
  have HB0 := hide hb0
  have S := hide (s.after hb0)
  have S0 := hide s
  have HO0 := hide ho0
  have HL := hide hl
  have HF := hide hf
  have hd : vs.length ≤ 100000 := hf.1
  have KC := hide fun W h => checkLeaf_any a cap vs hf W h
  obtain ⟨C, hC⟩ : ∃ C, Vc.checkLeaf vs = C := ⟨_, rfl⟩
  rw [hC] at KC
  clear h s hb0 ho0 hl hf
  by_cases hc : C = 0
  · subst hc
    rw [wLeaf_ok hC]
    obtain ⟨S1, hS1⟩ : ∃ S1, wNumber st vs.length = S1 := ⟨_, rfl⟩
    have HPART : Hid (∀ k, (wVers S1 (vs.take k)).1.length ≤ 44400000) := hide fun k => by
      have h1 := wLeaf_part st vs k
      rw [hC, fail_zero, hS1] at h1
      have := unhide HL
      omega
    rw [hS1]
    go_enter Tryd.func36, Tryd.ntmps36
    go_wp2_with fail
    refine (unhide KC _ (unhide S)).mono ?_
    rintro e w1 ⟨rfl, hb1⟩
    have HW1 := hide ((unhide HW).after hb1)
    clear hb1
    go_wp2_with fail
    refine ((unhide HW1).call fun own1 hx _ => wnumber_any hx (by have := unhide HL; omega) vs.length).mono ?_
    rw [hS1]
    rintro e w2 ⟨rfl, hs⟩
    have HS := hide hs
    clear hs hS1 hC
    go_wp2_with fail
    go_loopw [25] (fun i wr => ∃ k : Nat, k ≤ vs.length ∧ i = .int .i64 k ∧ WS own p w (wVers S1 (vs.take k)) wr) (fun i _ => vs.length - (intOf i).toNat)
    case atStart => exact ⟨0, Nat.zero_le _, rfl, unhide HS⟩
    case round =>
      obtain ⟨k, hk, rfl, hs⟩ := hrel
      have HR := hide hs
      clear hs
      by_cases hlt : k < vs.length
      · obtain ⟨v, hx⟩ : ∃ d, vs[k]? = some d := ⟨_, List.getElem?_eq_getElem hlt⟩
        have hsl := (unhide S0).after ((unhide HB0).trans ((unhide HR).below (unhide HB0).size (unhide HO0)))
        obtain ⟨g, o, rfl, hg, hcell⟩ := hsl (by omega)
        obtain ⟨g0, o0, e0, _, hcell0⟩ := unhide S0 (by omega)
        obtain ⟨q, d, x0, x1, x2, x3, x4, h5, h6⟩ := hcell k v hx
        obtain ⟨q0, d0, _, _, y2, _, _, _, y6⟩ := hcell0 k v hx
        have eq0 : q0 = q := by
          injection e0 with e0
          injection e0 with e1 e2
          subst e1
          subst e2
          have hlt0 : g < w0.heap.size := block_lt_of_cell y2
          have hk0 := ((unhide HB0).trans ((unhide HR).below (unhide HB0).size (unhide HO0))).cell (p := ⟨g, o + k * 5 + 2, none⟩) hlt0
          rw [x2, y2] at hk0
          injection hk0 with hk0
          injection hk0 with hk0
          exact hk0.symm
        subst eq0
        have HST := hide (wVers_snoc S1 vs k v hx)
        have H6 := hide y6
        have HD := hide ((unhide HF).at hx)
        clear hcell hx hg h5 h6 e0 hcell0 y2 y6 hsl
        go_wp2_with (refine store_row (by rfl) 64 _ _ (by rfl) wr.heap.size (verL v q0 d) (by rfl) (by rfl) 64 zero64 (VRow.newAt rfl) 5 size64 rfl rfl (verL_one _ _ _) ?_; intro wz ho hr; have HZ := hide ((below_alloc' (w := wr) (.cells zero64.toArray 64)).trans (ho.below (Nat.le_refl _))); have HZ2 := hide ((unhide HR).after (unhide HZ)); clear x0 x1 x2 x3 x4; have z0 := hr.cell 0 _ rfl; have z1 := hr.cell 1 _ rfl; have z2 := hr.cell 2 _ rfl; have z3 := hr.cell 3 _ rfl; have z4 := hr.cell 4 _ rfl; have HZB := hide ((unhide HB0).trans ((unhide HZ2).below (unhide HB0).size (unhide HO0))); clear ho hr)
        refine ((unhide HZ2).call fun own1 hx ho => putVersion_any hx (by have := unhide HPART k; omega) w0 (unhide HZB) (fun g hg => by rcases ho g hg with h1 | h1; exact unhide HO0 g h1; have := (unhide HB0).size; omega) v q0 d (unhide HD) (unhide H6)).mono ?_
        rintro e w3 ⟨rfl, hs⟩
        have HS3 := hide hs
        clear hs z0 z1 z2 z3 z4
        go_wp2_with fail
        go_roundw
        case rel => exact ⟨k + 1, by omega, by go_num, by rw [unhide HST]; exact unhide HS3⟩
        case measure => simp [intOf]; omega
      · obtain rfl : k = vs.length := by omega
        have HE := unhide HR
        rw [List.take_length] at HE
        have HE2 := hide HE
        clear HE
        go_wp2_with fail
        go_end0
        exact unhide HE2
  · rw [wLeaf_bad (by rw [hC]; exact hc), hC]
    have hne : (C != 0) = true := bne_iff_ne.2 hc
    go_enter Tryd.func36, Tryd.ntmps36
    go_wp2_with fail
    refine (unhide KC _ (unhide S)).mono ?_
    rintro e w1 ⟨rfl, hb1⟩
    have HW1 := hide ((unhide HW).after hb1)
    clear hb1
    go_wp2_with fail
    refine ((unhide HW1).call fun own1 hx _ => wfail_any hx C).mono ?_
    rintro e w2 ⟨rfl, hs⟩
    have HS := hide hs
    clear hs
    go_wp2_with fail
    go_end0
    exact unhide HS

set_option maxRecDepth 100000 in
set_option maxHeartbeats 400000 in
theorem putLeaf_any {w : World} {p : Addr} {st : St} {own : Nat → Prop} (h : Wr w p st own) (hl : st.1.length ≤ 40000000) (w0 : World) (hb0 : Below w0.heap.size w0 w) (ho0 : ∀ g, own g → w0.heap.size ≤ g)
    (a : Option Addr) (cap : Nat) (vs : List Vc.V) (hf : Few vs) (s : SV w0 a vs) :
    Calls Tryd.prog 14 #[.pointer (some p), .slice a vs.length cap] w (Turned Wr own p w (wLeaf st vs) (.tuple #[])) := by
  have K := hide (putListV_any h hl w0 hb0 ho0 a cap vs hf s)
  clear h hl s hb0 ho0 hf
  go_enter Tryd.func14, Tryd.ntmps14
  go_wp2_with fail
  refine (unhide K).mono ?_
  intro e w1 hm
  obtain ⟨rfl, hs⟩ := ws_of hm
  have HS := hide hs
  clear hm hs
  go_wp2_with fail
  go_end0
  exact unhide HS

end Go.Proofs.YthchcjjpplcfnaaDoor
