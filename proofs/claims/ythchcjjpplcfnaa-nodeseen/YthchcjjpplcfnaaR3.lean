/-
  What is kept while a reader turns; the program's Reader in the document's form; a dot, and a vector, that the program takes. Conditions: those that each theorem names.
-/
import Derived.Test.YthchcjjpplcfnaaR2
import Derived.Test.YthchcjjpplcfnaaCP3
import Derived.Test.YthchcjjpplcfnaaGrow
import Derived.Test.YthchcjjpplcfnaaP1
namespace Go.Proofs.Ythchcjjpplcfnaa
open Go.RowKit

section
variable {q T : Nat} {w w1 wr wr' : World} {st st' : St}
theorem DS.under (h : DS q T w st wr) {n : Nat} (hn : w.heap.size ≤ n) (hq : q < n) (hb : Below n wr wr') : DS q T w st wr' :=
  ⟨VRow.below h.1 hb hq, ⟨hb.os.trans h.2.os, hb.tape.trans h.2.tape, hb.output.trans h.2.output, Nat.le_trans h.2.size hb.size, fun k hk hk2 => (hb.block k (by omega)).trans (h.2.block k hk hk2)⟩⟩
theorem DS.only {B : Nat} (h : DS q T w st wr) (ho : Only B wr wr') (hB : w.heap.size ≤ B) (hne : q ≠ B) : DS q T w st wr' :=
  ⟨VRow.only h.1 ho hne, ⟨ho.os.trans h.2.os, ho.tape.trans h.2.tape, ho.output.trans h.2.output, by rw [ho.size]; exact h.2.size, fun k hk hk2 => (ho.block k (by omega)).trans (h.2.block k hk hk2)⟩⟩
theorem DS.trans {S : St} (h : DS q T w S wr) (h2 : DS q T wr st' wr') : DS q T w st' wr' := ⟨h2.1, h.2.trans h2.2⟩
/-- What a call does to it, and what it does beside. -/
theorem DS.call3 {f : Nat} {args : Array Value} {v : Value} (h : DS q T w st wr) (K : Doc wr q T st → Calls Try.prog f args wr (DocMade q T wr st' v)) : Calls Try.prog f args wr fun e w' => e = .returned v ∧ DS q T w st' w' ∧ Beside (· = q) wr w' :=
  (K h.1).mono fun _ _ hm => ⟨hm.1, ⟨hm.2.1, h.2.trans hm.2.2⟩, hm.2.2⟩
end
theorem own_kept {w w' : World} {base e size n : Nat} {v : Value} {xs : List Value} (h : w.ownsRow base e size v n xs) (hk : ∀ g, v.ownBlock = some g → w'.heap[g]? = w.heap[g]?) : w'.ownsRow base e size v n xs := by
  refine ⟨h.1, ?_⟩
  rcases h.2 with h1 | ⟨g, cap, cur, rfl, hb, hg, h2⟩
  · exact .inl h1
  · exact .inr ⟨g, cap, cur, rfl, hb, (hk g rfl).trans hg, h2⟩
theorem row_beside {w w' : World} {base e size n q : Nat} {v : Value} {xs : List Value} (h : w.ownsRow base e size v n xs) (hb : Beside (· = q) w w') (hq : q < base) : w'.ownsRow base e size v n xs :=
  own_kept h fun g hg => hb.block g (h.lt g hg).2 fun e => by have := (h.lt g hg).1; omega
theorem Sl.beside {q : Nat} {w w' : World} {a : Option Addr} {ds : List Vc.D} (h : Sl w a ds) (hb : Beside (· = q) w w') (hne : ∀ ad, a = some ad → 0 < ds.length → ad.block ≠ q) : Sl w' a ds := fun h0 => by
  obtain ⟨g, o, e, hg, hc⟩ := h h0
  have hn : g ≠ q := hne _ e h0
  have e1 : ∀ k, w'.cell? ⟨g, k, Option.none⟩ = w.cell? ⟨g, k, Option.none⟩ := fun k => World.cell?_of_block (w := w) (hb.block g hg hn)
  refine ⟨g, o, e, Nat.lt_of_lt_of_le hg hb.size, fun j d hj => ?_⟩
  rw [e1, e1]
  exact hc j d hj
theorem Sl.besideF {q n : Nat} {w w' : World} {a : Option Addr} {ds : List Vc.D} (h : Sl w a ds) (hb : Beside (· = q) w w') (hf : Fresh n a ds) (hq : q < n) : Sl w' a ds :=
  h.beside hb fun ad e h0 => by have := hf ad e h0; omega
theorem SV.beside {O : Nat → Prop} {q : Nat} {W W' : World} {a : Option Addr} {vs : List Vc.V} (h : SV W a vs) (hp : Prov O W a vs) (hb : Beside (· = q) W W') (hq : ¬ O q) : SV W' a vs := fun h0 => by
  obtain ⟨g, o, e, hg, hc⟩ := h h0
  obtain ⟨hO, hP⟩ := hp h0 g o e
  have hn : g ≠ q := fun e => hq (by rw [← e]; exact hO)
  have e1 : ∀ k, W'.cell? ⟨g, k, Option.none⟩ = W.cell? ⟨g, k, Option.none⟩ := fun k => World.cell?_of_block (w := W) (hb.block g hg hn)
  refine ⟨g, o, e, Nat.lt_of_lt_of_le hg hb.size, fun j v hj => ?_⟩
  obtain ⟨r, c, h0, h1, h2, h3, h4, h5, h6⟩ := hc j v hj
  refine ⟨r, c, ?_, ?_, ?_, ?_, ?_, h5, h6.beside hb fun ad ea h7 e7 => hq (by rw [← e7]; exact hP j v r c hj h2 ad ea h7)⟩
  all_goals rw [e1]
  all_goals assumption
theorem Prov.beside {O : Nat → Prop} {q : Nat} {W W' : World} {a : Option Addr} {vs : List Vc.V} (hp : Prov O W a vs) (h : SV W a vs) (hb : Beside (· = q) W W') (hq : ¬ O q) : Prov O W' a vs := fun h0 g o e => by
  obtain ⟨hO, hP⟩ := hp h0 g o e
  obtain ⟨g', o', e', hg, _⟩ := h h0
  rw [e] at e'
  injection e' with e'
  injection e' with e2 e3
  subst e2
  have hn : g ≠ q := fun e => hq (by rw [← e]; exact hO)
  exact ⟨hO, fun j v r c hj hc => hP j v r c hj (by rw [← World.cell?_of_block (w := W) (hb.block g hg hn)]; exact hc)⟩
theorem Prov.weak {O O' : Nat → Prop} {W : World} {a : Option Addr} {vs : List Vc.V} (hp : Prov O W a vs) (h : ∀ g, O g → O' g) : Prov O' W a vs := fun h0 g o e => by
  obtain ⟨hO, hP⟩ := hp h0 g o e
  exact ⟨h _ hO, fun j v r c hj hc ad ea h1 => h _ (hP j v r c hj hc ad ea h1)⟩
theorem OV.beside {O : Nat → Prop} {q base : Nat} {W W' : World} {l : Value} {vs : List Vc.V} (h : OV O W base l vs) (hb : Beside (· = q) W W') (hq : q < base) (hO : ¬ O q) : OV O W' base l vs := by
  obtain ⟨ps, h1, h2, h3⟩ := h.is
  exact ⟨ps, h1, row_beside h2 hb hq, fun x hx => ⟨(h3 x hx).1, (h3 x hx).2.1.beside hb fun ad e h0 e7 => hO (by rw [← e7]; exact ((h3 x hx).2.2 ad e h0).2), (h3 x hx).2.2⟩⟩

/-! The program's Reader, in the document's form. -/
theorem rd_of {w : World} {q : Nat} {st : St} (h : Doc w q 75 st) : Rd w ⟨q, 0, none⟩ st (· = q) := ⟨q, rfl, h, fun _ => Iff.rfl⟩
theorem rd_made {w w' : World} {q : Nat} {st : St} {v : Value} {e : Ending} (h : Turned Rd (· = q) ⟨q, 0, none⟩ w st v e w') : DocMade q 75 w st v e w' := by
  obtain ⟨own', he, ⟨q', hp, hr, _⟩, _, hb⟩ := h
  injection hp with hq
  subst hq
  exact ⟨he, hr, hb⟩
section
variable {w : World} {q : Nat} {st : St} (h : Doc w q 75 st)
include h
theorem rnumber_d (hs : st.1.length ≤ 50000000) (most : Int) : Calls Try.prog 46 #[.pointer (some ⟨q, 0, none⟩), .int .i64 most] w (DocMade q 75 w (rNumber st most).2 (.int .i64 (rNumber st most).1)) := (rnumber_any (rd_of h) hs most).mono fun _ _ hm => rd_made hm
theorem rtext_d (hs : st.1.length ≤ 50000000) (most : Int) : Calls Try.prog 47 #[.pointer (some ⟨q, 0, none⟩), .int .i64 most] w (DocMade q 75 w (rText st most).2 (.string (str (rText st most).1))) := (rtext_any (rd_of h) hs most).mono fun _ _ hm => rd_made hm
theorem rflag_d (hs : st.1.length ≤ 50000000) : Calls Try.prog 70 #[.pointer (some ⟨q, 0, none⟩)] w (DocMade q 75 w (rFlag st).2 (.bool (rFlag st).1)) := (rflag_any (rd_of h) hs).mono fun _ _ hm => rd_made hm
theorem rfail_d (x : Int) : Calls Try.prog 67 #[.pointer (some ⟨q, 0, none⟩), .int .i64 x] w (DocMade q 75 w (fail st x) (.tuple #[])) := (rfail_any (rd_of h) x).mono fun _ _ hm => rd_made hm
end

/-- A vector that is taken, and where it lies. -/
def VecMade (q T : Nat) (w : World) (x : List Vc.D × St) (e : Ending) (w' : World) : Prop := ∃ a cap, e = .returned (.slice a x.1.length cap) ∧ x.1.length ≤ cap ∧ Sl w' a x.1 ∧ Fresh w.heap.size a x.1 ∧ DS q T w x.2 w'
/-- Versions that are taken, and where they lie. -/
def VersMade (q T : Nat) (w : World) (x : List Vc.V × St) (e : Ending) (w' : World) : Prop := ∃ a cap, e = .returned (.slice a x.1.length cap) ∧ x.1.length ≤ cap ∧ SV w' a x.1 ∧ Prov (fun g => w.heap.size ≤ g) w' a x.1 ∧ DS q T w x.2 w'
/-- A version that is taken, and where its past lies. -/
def VerMade (q T : Nat) (w : World) (x : Vc.V × St) (e : Ending) (w' : World) : Prop := ∃ r c, e = .returned (.agg (verL x.1 r c).toArray) ∧ x.1.past.length ≤ c ∧ Sl w' r x.1.past ∧ Fresh w.heap.size r x.1.past ∧ DS q T w x.2 w'

theorem results_row53 (tmps : Array Value) (w : World) (g : Nat) (vs : List Value) (hp : tmps.getD 2 undef = .pointer (some ⟨g, 0, none⟩)) (hr : VRow w g 62 vs) (hn : vs.length = 2) :
    (results Try.f68 tmps).run Try.prog w = .ok (.agg vs.toArray) w := by
  have hp' : tmps[2]?.getD undef = .pointer (some ⟨g, 0, none⟩) := by simpa using hp
  have hl := run_loadVar_row (P := Try.prog) w g 62 62 vs.toArray (0, 0) _ hr Try.underlying62 rfl (by rw [size62]; simp [hn])
  simp [results, hp', asAddr, hl]

set_option maxRecDepth 100000 in
set_option maxHeartbeats 400000 in
theorem takeDot_any {w : World} {q : Nat} {st : St} (h : Doc w q 75 st) (hs : st.1.length ≤ 50000000) :
    Calls Try.prog 68 #[.pointer (some ⟨q, 0, none⟩)] w (DocMade q 75 w (rDot st).2 (.agg #[.int .i64 (rDot st).1.1, .int .i64 (rDot st).1.2])) := by
  have HB := hide (below_alloc' (w := w) (.cells zero62.toArray 62))
  have hq := h.lt
  have HW := hide (DS.start (h.after (unhide HB)))
  have HR := hide (VRow.new w 62 zero62)
  have HL := hide (show (rNumber st 63).2.1.length ≤ 50000000 from Nat.le_trans (rNumber_len st 63) hs)
  have K1 := hide ((unhide HW).call3 fun hx => rnumber_d hx hs 63)
  obtain ⟨n1, S1, hN⟩ : ∃ n1 S1, rNumber st 63 = (n1, S1) := ⟨_, _, rfl⟩
  have hR : rDot st = ((n1, (rNumber S1 1048576).1), (rNumber S1 1048576).2) := by unfold rDot; rw [hN]
  rw [hR]
  rw [hN] at K1 HL
  dsimp only at K1 HL ⊢
  obtain ⟨n2, S2, hN2⟩ : ∃ n1 S2, rNumber S1 1048576 = (n1, S2) := ⟨_, _, rfl⟩
  rw [hN2]
  dsimp only
  clear h hs hN hR
  go_enter Try.func68, Try.ntmps68
  go_wp2_with fail
  refine (unhide K1).mono ?_
  rintro e w1 ⟨rfl, hd, hb⟩
  have HD1 := hide hd
  have HR1 := hide ((unhide HR).beside hb (by omega))
  clear hd hb
  go_wp2_with fail
  refine ((unhide HD1).call3 fun hx => rnumber_d hx (unhide HL) 1048576).mono ?_
  rw [hN2]
  rintro e w2 ⟨rfl, hd, hb⟩
  have HD2 := hide hd
  have HR2 := hide ((unhide HR1).beside hb (by omega))
  clear hd hb hN2
  go_wp2_with (refine store_row (by rfl) 62 (.tmp 2) (.tmp 7) (by rfl) w.heap.size [.int .i64 n1, .int .i64 n2] (by rfl) (by rfl) 62 zero62 (unhide HR2) 2 size62 rfl rfl (by simp [Value.oneCell']) ?_; intro w3 ho3 hr3; have HR3 := hide hr3; have HO3 := hide ho3; clear ho3 hr3)
  refine bodyPost_ret (v := .agg #[.int .i64 n1, .int .i64 n2]) ?_ rfl ⟨rfl, ?_⟩
  · exact results_row53 _ _ w.heap.size _ rfl (unhide HR3) rfl
  · exact ((unhide HD2).of (unhide HB)).only (unhide HO3) (Nat.le_refl _) (by omega)

/-- A list appended to a row of the call's own. -/
theorem append_dots {w : World} {ops : Array Oper} {rest : List Oper} {o : Oper} {a : Act} {Q : Exit → Act → World → Prop} (hgd : o.guard = none) (s x : Operand)
    (ho : o.op = .call { callee := .builtin .append, args := #[s, x], argTypes := #[63, 63] }) (base : Nat) (v : Value) (ds : List Vc.D) (hs : a.eval s = v) (hown : w.ownsRow base 62 2 v ds.length (flat ds))
    (g c : Nat) (xs : List Vc.D) (hx : a.eval x = .slice (some ⟨g, 0, none⟩) xs.length c) (hsl : Sl w (some ⟨g, 0, none⟩) xs) (hx0 : 0 < xs.length) (hn : ds.length + xs.length ≤ 200000) (hbase : base ≤ w.heap.size)
    (h : ∀ v' w', w'.ownsRow base 62 2 v' (ds ++ xs).length (flat (ds ++ xs)) → Below base w w' → wpList Try.prog ops Q rest (a.put o.dst v') w') : wpList Try.prog ops Q (o :: rest) a w := by
  obtain ⟨i0, hi, hz0, hz1, hz2⟩ := info_parts info62
  obtain ⟨g', o', e', _, hc⟩ := hsl hx0
  injection e' with e'
  injection e' with e1 e2
  subst e1
  subst e2
  refine wpList_append_own_at w hgd s x 63 ho base 62 i0 _ 2 16 Try.underlying63 hi hz0 hz1 hz2 rfl (by decide) v ds.length (flat ds) hs hown ⟨g, 0, none⟩ xs.length c (flat xs) hx (flat_len xs) (sl_cells hc) (flat_one xs) (by unfold maxLen; omega) (by omega) hbase ?_
  intro v' w' g1 g2 _ _
  refine h v' w' ?_ (grown_below hown g2 hbase)
  rw [List.length_append, flat_append]
  exact g1
theorem sl_row {W : World} {D T : Nat} {d : Vc.D} (h : VRow W D T [.int .i64 d.1, .int .i64 d.2]) : Sl W (some ⟨D, 0, none⟩) [d] := fun _ => by
  refine ⟨D, 0, rfl, h.lt, fun j x hj => ?_⟩
  have hj0 : j = 0 := by have := (List.getElem?_eq_some_iff.1 hj).1; simp at this; omega
  subst hj0
  simp at hj
  subst hj
  exact ⟨h.cell 0 _ rfl, h.cell 1 _ rfl⟩
theorem count_nat (st : St) (m : Int) : ∃ N : Nat, (rNumber st m).1 = N ∧ (rNumber st m).1.toNat = N := ⟨(rNumber st m).1.toNat, by have := rNumber_nonneg st m; omega, rfl⟩

set_option maxRecDepth 100000 in
set_option maxHeartbeats 1000000 in
theorem takeListD_any {w : World} {q : Nat} {st : St} (h : Doc w q 75 st) (hs : st.1.length ≤ 50000000) :
    Calls Try.prog 91 #[.pointer (some ⟨q, 0, none⟩), .func (.func 83) #[] #[], .func (.func 68) #[] #[]] w (VecMade q 75 w (rVec st)) := by
  have hq := h.lt
  have HW := hide (DS.start h)
  have K1 := hide ((unhide HW).call3 fun hx => rnumber_d hx hs 64)
  have HLEN := hide (rNumber_len st 64)
  have HL0 := hide hs
  have HN64 := hide (rCount st)
  have HV : Hid (rVec st = endD (itD (rNumber st 64).1.toNat (rNumber st 64).2)) := hide rfl
  obtain ⟨N, e1, e2⟩ := count_nat st 64
  rw [e1] at K1
  rw [e2] at HV HN64
  generalize (rNumber st 64).2 = S0 at K1 HLEN HV
  have HLS : Hid (∀ k, (itD k S0).2.1.length ≤ 50000000) := hide fun k => by
    have h1 := itD_less k S0
    have := unhide HLEN
    have := unhide HL0
    omega
  rw [unhide HV]
  have hN := unhide HN64
  clear h hs e1 e2 HLEN HL0
  go_enter Try.func91, Try.ntmps91
  go_wp2_with fail
  refine (unhide K1).mono ?_
  rintro e w1 ⟨rfl, hd, _⟩
  have HD1 := hide hd
  clear hd
  go_wp2_with fail
  go_loopw [7, 10] (fun l i wr => ∃ k : Nat, k ≤ N ∧ i = .int .i64 k ∧ wr.ownsRow w.heap.size 62 2 l (itD k S0).1.length (flat (itD k S0).1) ∧ DS q 75 w (itD k S0).2 wr) (fun _ i _ => N - (intOf i).toNat)
  case atStart => exact ⟨0, Nat.zero_le _, rfl, World.ownsRow_nil _ _ _ _, unhide HD1⟩
  case round =>
    obtain ⟨k, hk, rfl, hown, hd⟩ := hrel
    have HOWN := hide hown
    have HD := hide hd
    have HSZ := hide hd.2.size
    clear hown hd
    by_cases hlt : k < N
    · have K53 := hide ((unhide HD).call3 fun hx => takeDot_any hx (unhide HLS k))
      have HX : Hid (itD (k + 1) S0 = ((itD k S0).1 ++ [(rDot (itD k S0).2).1], (rDot (itD k S0).2).2)) := hide rfl
      have HKL := hide (itD_len k S0)
      generalize itD k S0 = X at HOWN HD K53 HX HKL
      generalize rDot X.2 = Y at K53 HX
      obtain ⟨⟨y1, y2⟩, SY⟩ := Y
      dsimp only at K53
      go_wp2_with fail
      refine (unhide K53).mono ?_
      rintro e w2 ⟨rfl, hd, hb⟩
      have HD2 := hide hd
      have HOWN2 := hide (row_beside (unhide HOWN) hb hq)
      have HSZ2 := hide (Nat.le_trans (unhide HSZ) hb.size)
      clear hd hb
      go_wp2_with (at_builtin; refine append_dots rfl _ _ rfl w.heap.size _ X.1 rfl ((own_after (unhide HOWN2) (below_alloc' _))) w2.heap.size 1 [(y1, y2)] rfl (sl_row (VRow.new w2 62 [.int .i64 y1, .int .i64 y2])) (by simp) (by simp; have := unhide HKL; omega) (by simp; have := unhide HSZ2; omega) ?_; intro v3 w3 hown hb; have HOWN3 := hide hown; have HD3 := hide (((unhide HD2).after (below_alloc' _)).under (Nat.le_refl _) hq hb); clear hown hb)
      go_roundw
      case rel => exact ⟨k + 1, by omega, by go_num, by rw [unhide HX]; exact unhide HOWN3, by rw [unhide HX]; exact unhide HD3⟩
      case measure => simp [intOf]; omega
    · obtain rfl : k = N := by omega
      obtain ⟨a, cap, e, hcap, hsl, hfr⟩ := own_slF rfl (unhide HOWN)
      have HCAP := hide hcap
      have HSL := hide hsl
      have HFR := hide hfr
      have KL := itD_len k S0
      obtain ⟨X, hX⟩ : ∃ X, itD k S0 = X := ⟨_, rfl⟩
      have HXE := hide hX
      rw [hX] at e HD HCAP HSL HFR KL
      subst e
      have KC := hide fun W h => check_any a cap X.1 (by omega) W h
      obtain ⟨C, hC⟩ : ∃ C, Vc.check X.1 = C := ⟨_, rfl⟩
      have HE : Hid (endD X = (if (fail X.2 C).2 ≠ 0 then [] else X.1, fail X.2 C)) := hide (by unfold endD; rw [hC])
      rw [hC] at KC
      clear hcap hsl hfr hC HOWN KL hX
      obtain ⟨F, hF⟩ : ∃ F, fail X.2 C = F := ⟨_, rfl⟩
      rw [hF] at HE
      go_wp2_with fail
      refine (unhide KC _ (unhide HSL)).mono ?_
      rintro e w2 ⟨rfl, hb⟩
      have HD2 := hide ((unhide HD).after hb)
      have HSL2 := hide ((unhide HSL).after hb)
      clear hb
      go_wp2_with fail
      refine ((unhide HD2).call3 fun hx => rfail_d hx C).mono ?_
      rw [hF]
      rintro e w3 ⟨rfl, hd, hb⟩
      have HD3 := hide hd
      have HSL3 := hide ((unhide HSL2).besideF hb (unhide HFR) hq)
      have KE := hide (rerr_at (show RdAt w3 q F from hd.1))
      clear hd hb hF
      obtain ⟨FB, FE⟩ := F
      dsimp only at KE
      by_cases he : FE = 0
      · subst he
        have HE2 : Hid (endD X = (X.1, (FB, 0))) := hide (by rw [unhide HE]; rfl)
        go_wp2_with fail
        refine (unhide KE).mono ?_
        rintro e w4 ⟨rfl, rfl⟩
        go_wp2_with fail
        go_ret
        rw [unhide HXE, unhide HE2]
        exact ⟨a, cap, rfl, unhide HCAP, unhide HSL3, unhide HFR, unhide HD3⟩
      · have HE2 : Hid (endD X = ([], (FB, FE))) := hide (by rw [unhide HE]; rw [if_pos he])
        have hne : (FE != 0) = true := bne_iff_ne.2 he
        go_wp2_with fail
        refine (unhide KE).mono ?_
        rintro e w4 ⟨rfl, rfl⟩
        go_wp2_with fail
        go_ret
        rw [unhide HXE, unhide HE2]
        exact ⟨none, 0, rfl, Nat.le_refl _, Sl.none _ _, Fresh.nil _ _, unhide HD3⟩

set_option maxRecDepth 100000 in
set_option maxHeartbeats 400000 in
theorem takeVec_any {w : World} {q : Nat} {st : St} (h : Doc w q 75 st) (hs : st.1.length ≤ 50000000) :
    Calls Try.prog 69 #[.pointer (some ⟨q, 0, none⟩)] w (VecMade q 75 w (rVec st)) := by
  have K := hide (takeListD_any h hs)
  generalize rVec st = X at K ⊢
  clear h hs
  go_enter Try.func69, Try.ntmps69
  go_wp2_with fail
  refine (unhide K).mono ?_
  rintro e w1 ⟨a, cap, rfl, h1, h2, h3, h4⟩
  have HM := hide (show VecMade q 75 w X (.returned (.slice a X.1.length cap)) w1 from ⟨a, cap, rfl, h1, h2, h3, h4⟩)
  clear h1 h2 h3 h4
  go_wp2_with fail
  go_ret
  exact unhide HM
end Go.Proofs.Ythchcjjpplcfnaa
