/-
  What is kept while a reader turns; the program's Reader in the document's form; a dot, and a vector, that the program takes. Conditions: those that each theorem names.
-/
import Derived.Test.YthecijjmgfempaaGreatSib
import Derived.Test.YthecijjmgfempaaGreatGrow
import Derived.Test.YthecijjmgfempaaGreatCShelf
namespace Go.Proofs.YthecijjmgfempaaGreat
open Go.RowKit

section
variable {q T : Nat} {w w1 wr wr' : World} {st st' : St}
theorem DS.under (h : DS q T w st wr) {n : Nat} (hn : w.heap.size ≤ n) (hq : q < n) (hb : Below n wr wr') : DS q T w st wr' :=
  ⟨VRow.below h.1 hb hq, ⟨hb.os.trans h.2.os, hb.tape.trans h.2.tape, hb.output.trans h.2.output, Nat.le_trans h.2.size hb.size, fun k hk hk2 => (hb.block k (by omega)).trans (h.2.block k hk hk2)⟩⟩
theorem DS.only {B : Nat} (h : DS q T w st wr) (ho : Only B wr wr') (hB : w.heap.size ≤ B) (hne : q ≠ B) : DS q T w st wr' :=
  ⟨VRow.only h.1 ho hne, ⟨ho.os.trans h.2.os, ho.tape.trans h.2.tape, ho.output.trans h.2.output, by rw [ho.size]; exact h.2.size, fun k hk hk2 => (ho.block k (by omega)).trans (h.2.block k hk hk2)⟩⟩
theorem DS.trans {S : St} (h : DS q T w S wr) (h2 : DS q T wr st' wr') : DS q T w st' wr' := ⟨h2.1, h.2.trans h2.2⟩
/-- What a call does to it, and what it does beside. -/
theorem DS.call3 {f : Nat} {args : Array Value} {v : Value} (h : DS q T w st wr) (K : Doc wr q T st → Calls Tryz.prog f args wr (DocMade q T wr st' v)) : Calls Tryz.prog f args wr fun e w' => e = .returned v ∧ DS q T w st' w' ∧ Beside (· = q) wr w' :=
  (K h.1).mono fun _ _ hm => ⟨hm.1, ⟨hm.2.1, h.2.trans hm.2.2⟩, hm.2.2⟩
end
theorem own_kept {w w' : World} {base e size n : Nat} {v : Value} {xs : List Value} (h : w.ownsRow base e size v n xs) (hk : ∀ g, v.ownBlock = some g → w'.heap[g]? = w.heap[g]?) : w'.ownsRow base e size v n xs := by
  refine ⟨h.1, ?_⟩
  rcases h.2 with h1 | ⟨g, cap, cur, rfl, hb, hg, h2⟩
  · exact .inl h1
  · exact .inr ⟨g, cap, cur, rfl, hb, (hk g rfl).trans hg, h2⟩
theorem row_beside {w w' : World} {base e size n q : Nat} {v : Value} {xs : List Value} (h : w.ownsRow base e size v n xs) (hb : Beside (· = q) w w') (hq : q < base) : w'.ownsRow base e size v n xs :=
  own_kept h fun g hg => hb.block g (h.lt g hg).2 fun e => by have := (h.lt g hg).1; omega
theorem Sl.beside {q : Nat} {w w' : World} {a : Option Addr} {ds : List Vc.D} (h : Sl w a ds) (hb : Beside (· = q) w w') (hne : ∀ ad, a = some ad → 0 < ds.length → ad.block ≠ q) : Sl w' a ds := fun h0 => by
  obtain ⟨g, o, e, hg, hc⟩ := h h0
  have hn : g ≠ q := hne _ e h0
  have e1 : ∀ k, w'.cell? ⟨g, k, Option.none⟩ = w.cell? ⟨g, k, Option.none⟩ := fun k => World.cell?_of_block (w := w) (hb.block g hg hn)
  refine ⟨g, o, e, Nat.lt_of_lt_of_le hg hb.size, fun j d hj => ?_⟩
  rw [e1, e1]
  exact hc j d hj
theorem Sl.besideF {q n : Nat} {w w' : World} {a : Option Addr} {ds : List Vc.D} (h : Sl w a ds) (hb : Beside (· = q) w w') (hf : Fresh n a ds) (hq : q < n) : Sl w' a ds :=
  h.beside hb fun ad e h0 => by have := hf ad e h0; omega
theorem rd_of {w : World} {q : Nat} {st : St} (h : Doc w q 82 st) : Rd w ⟨q, 0, none⟩ st (· = q) := ⟨q, rfl, h, fun _ => Iff.rfl⟩
theorem rd_made {w w' : World} {q : Nat} {st : St} {v : Value} {e : Ending} (h : Turned Rd (· = q) ⟨q, 0, none⟩ w st v e w') : DocMade q 82 w st v e w' := by
  obtain ⟨own', he, ⟨q', hp, hr, _⟩, _, hb⟩ := h
  injection hp with hq
  subst hq
  exact ⟨he, hr, hb⟩
section
variable {w : World} {q : Nat} {st : St} (h : Doc w q 82 st)
include h
theorem rnumber_d (hs : st.1.length ≤ 50000000) (most : Int) : Calls Tryz.prog 130 #[.pointer (some ⟨q, 0, none⟩), .int .i64 most] w (DocMade q 82 w (rNumber st most).2 (.int .i64 (rNumber st most).1)) := (rnumber_any (rd_of h) hs most).mono fun _ _ hm => rd_made hm
theorem rtext_d (hs : st.1.length ≤ 50000000) (most : Int) : Calls Tryz.prog 31 #[.pointer (some ⟨q, 0, none⟩), .int .i64 most] w (DocMade q 82 w (rText st most).2 (.string (str (rText st most).1))) := (rtext_any (rd_of h) hs most).mono fun _ _ hm => rd_made hm
theorem rflag_d (hs : st.1.length ≤ 50000000) : Calls Tryz.prog 105 #[.pointer (some ⟨q, 0, none⟩)] w (DocMade q 82 w (rFlag st).2 (.bool (rFlag st).1)) := (rflag_any (rd_of h) hs).mono fun _ _ hm => rd_made hm
theorem rfail_d (x : Int) : Calls Tryz.prog 67 #[.pointer (some ⟨q, 0, none⟩), .int .i64 x] w (DocMade q 82 w (fail st x) (.tuple #[])) := (rfail_any (rd_of h) x).mono fun _ _ hm => rd_made hm
end

/-- A vector that is taken, and where it lies. -/
def VecMade (q T : Nat) (w : World) (x : List Vc.D × St) (e : Ending) (w' : World) : Prop := ∃ a cap, e = .returned (.slice a x.1.length cap) ∧ x.1.length ≤ cap ∧ Sl w' a x.1 ∧ Fresh w.heap.size a x.1 ∧ DS q T w x.2 w'
theorem results_row53 (tmps : Array Value) (w : World) (g : Nat) (vs : List Value) (hp : tmps.getD 2 undef = .pointer (some ⟨g, 0, none⟩)) (hr : VRow w g 66 vs) (hn : vs.length = 2) :
    (results Tryz.f137 tmps).run Tryz.prog w = .ok (.agg vs.toArray) w := by
  have hp' : tmps[2]?.getD undef = .pointer (some ⟨g, 0, none⟩) := by simpa using hp
  have hl := run_loadVar_row (P := Tryz.prog) w g 66 66 vs.toArray (0, 0) _ hr Tryz.underlying66 rfl (by rw [size81]; simp [hn])
  simp [results, hp', asAddr, hl]

set_option maxRecDepth 100000 in
set_option maxHeartbeats 400000 in
theorem takeDot_any {w : World} {q : Nat} {st : St} (h : Doc w q 82 st) (hs : st.1.length ≤ 50000000) :
    Calls Tryz.prog 137 #[.pointer (some ⟨q, 0, none⟩)] w (DocMade q 82 w (rDot st).2 (.agg #[.int .i64 (rDot st).1.1, .int .i64 (rDot st).1.2])) := by
  have HB := hide (below_alloc' (w := w) (.cells zero81.toArray 66))
  have hq := h.lt
  have HW := hide (DS.start (h.after (unhide HB)))
  have HR := hide (VRow.new w 66 zero81)
  have HL := hide (show (rNumber st 63).2.1.length ≤ 50000000 from Nat.le_trans (rNumber_len st 63) hs)
  have K1 := hide ((unhide HW).call3 fun hx => rnumber_d hx hs 63)
  obtain ⟨n1, S1, hN⟩ : ∃ n1 S1, rNumber st 63 = (n1, S1) := ⟨_, _, rfl⟩
  have hR : rDot st = ((n1, (rNumber S1 1048576).1), (rNumber S1 1048576).2) := by unfold rDot; rw [hN]
  rw [hR]
  rw [hN] at K1 HL
  dsimp only at K1 HL ⊢
  obtain ⟨n2, S2, hN2⟩ : ∃ n1 S2, rNumber S1 1048576 = (n1, S2) := ⟨_, _, rfl⟩
  rw [hN2]
  dsimp only
  clear h hs hN hR
  go_enter Tryz.func137, Tryz.ntmps137
  go_wp2_with fail
  refine (unhide K1).mono ?_
  rintro e w1 ⟨rfl, hd, hb⟩
  have HD1 := hide hd
  have HR1 := hide ((unhide HR).beside hb (by omega))
  clear hd hb
  go_wp2_with fail
  refine ((unhide HD1).call3 fun hx => rnumber_d hx (unhide HL) 1048576).mono ?_
  rw [hN2]
  rintro e w2 ⟨rfl, hd, hb⟩
  have HD2 := hide hd
  have HR2 := hide ((unhide HR1).beside hb (by omega))
  clear hd hb hN2
  go_wp2_with (refine store_row (by rfl) 66 (.tmp 2) (.tmp 7) (by rfl) w.heap.size [.int .i64 n1, .int .i64 n2] (by rfl) (by rfl) 66 zero81 (unhide HR2) 2 size81 rfl rfl (by simp [Value.oneCell']) ?_; intro w3 ho3 hr3; have HR3 := hide hr3; have HO3 := hide ho3; clear ho3 hr3)
  refine bodyPost_ret (v := .agg #[.int .i64 n1, .int .i64 n2]) ?_ rfl ⟨rfl, ?_⟩
  · exact results_row53 _ _ w.heap.size _ rfl (unhide HR3) rfl
  · exact ((unhide HD2).of (unhide HB)).only (unhide HO3) (Nat.le_refl _) (by omega)

/-- A list appended to a row of the call's own. -/
theorem append_dots {w : World} {ops : Array Oper} {rest : List Oper} {o : Oper} {a : Act} {Q : Exit → Act → World → Prop} (hgd : o.guard = none) (s x : Operand)
    (ho : o.op = .call { callee := .builtin .append, args := #[s, x], argTypes := #[25, 25] }) (base : Nat) (v : Value) (ds : List Vc.D) (hs : a.eval s = v) (hown : w.ownsRow base 66 2 v ds.length (flat ds))
    (g c : Nat) (xs : List Vc.D) (hx : a.eval x = .slice (some ⟨g, 0, none⟩) xs.length c) (hsl : Sl w (some ⟨g, 0, none⟩) xs) (hx0 : 0 < xs.length) (hn : ds.length + xs.length ≤ 200000) (hbase : base ≤ w.heap.size)
    (h : ∀ v' w', w'.ownsRow base 66 2 v' (ds ++ xs).length (flat (ds ++ xs)) → Below base w w' → wpList Tryz.prog ops Q rest (a.put o.dst v') w') : wpList Tryz.prog ops Q (o :: rest) a w := by
  obtain ⟨i0, hi, hz0, hz1, hz2⟩ := info_parts info81
  obtain ⟨g', o', e', _, hc⟩ := hsl hx0
  injection e' with e'
  injection e' with e1 e2
  subst e1
  subst e2
  refine wpList_append_own_at w hgd s x 25 ho base 66 i0 _ 2 16 Tryz.underlying25 hi hz0 hz1 hz2 rfl (by decide) v ds.length (flat ds) hs hown ⟨g, 0, none⟩ xs.length c (flat xs) hx (flat_len xs) (sl_cells hc) (flat_one xs) (by unfold maxLen; omega) (by omega) hbase ?_
  intro v' w' g1 g2 _ _
  refine h v' w' ?_ (grown_below hown g2 hbase)
  rw [List.length_append, flat_append]
  exact g1
theorem sl_row {W : World} {D T : Nat} {d : Vc.D} (h : VRow W D T [.int .i64 d.1, .int .i64 d.2]) : Sl W (some ⟨D, 0, none⟩) [d] := fun _ => by
  refine ⟨D, 0, rfl, h.lt, fun j x hj => ?_⟩
  have hj0 : j = 0 := by have := (List.getElem?_eq_some_iff.1 hj).1; simp at this; omega
  subst hj0
  simp at hj
  subst hj
  exact ⟨h.cell 0 _ rfl, h.cell 1 _ rfl⟩
theorem count_nat (st : St) (m : Int) : ∃ N : Nat, (rNumber st m).1 = N ∧ (rNumber st m).1.toNat = N := ⟨(rNumber st m).1.toNat, by have := rNumber_nonneg st m; omega, rfl⟩

set_option maxRecDepth 100000 in
set_option maxHeartbeats 1000000 in
theorem takeListD_any {w : World} {q : Nat} {st : St} (h : Doc w q 82 st) (hs : st.1.length ≤ 50000000) :
    Calls Tryz.prog 136 #[.pointer (some ⟨q, 0, none⟩), .func (.func 75) #[] #[], .func (.func 137) #[] #[]] w (VecMade q 82 w (rVec st)) := by
  have hq := h.lt
  have HW := hide (DS.start h)
  have K1 := hide ((unhide HW).call3 fun hx => rnumber_d hx hs 64)
  have HLEN := hide (rNumber_len st 64)
  have HL0 := hide hs
  have HN64 := hide (rCount st)
  have HV : Hid (rVec st = endD (itD (rNumber st 64).1.toNat (rNumber st 64).2)) := hide rfl
  obtain ⟨N, e1, e2⟩ := count_nat st 64
  rw [e1] at K1
  rw [e2] at HV HN64
  generalize (rNumber st 64).2 = S0 at K1 HLEN HV
  have HLS : Hid (∀ k, (itD k S0).2.1.length ≤ 50000000) := hide fun k => by
    have h1 := itD_less k S0
    have := unhide HLEN
    have := unhide HL0
    omega
  rw [unhide HV]
  have hN := unhide HN64
  clear h hs e1 e2 HLEN HL0
  go_enter Tryz.func136, Tryz.ntmps136
  go_wp2_with fail
  refine (unhide K1).mono ?_
  rintro e w1 ⟨rfl, hd, _⟩
  have HD1 := hide hd
  clear hd
  go_wp2_with fail
  go_loopw [7, 10] (fun l i wr => ∃ k : Nat, k ≤ N ∧ i = .int .i64 k ∧ wr.ownsRow w.heap.size 66 2 l (itD k S0).1.length (flat (itD k S0).1) ∧ DS q 82 w (itD k S0).2 wr) (fun _ i _ => N - (intOf i).toNat)
  case atStart => exact ⟨0, Nat.zero_le _, rfl, World.ownsRow_nil _ _ _ _, unhide HD1⟩
  case round =>
    obtain ⟨k, hk, rfl, hown, hd⟩ := hrel
    have HOWN := hide hown
    have HD := hide hd
    have HSZ := hide hd.2.size
    clear hown hd
    by_cases hlt : k < N
    · have K53 := hide ((unhide HD).call3 fun hx => takeDot_any hx (unhide HLS k))
      have HX : Hid (itD (k + 1) S0 = ((itD k S0).1 ++ [(rDot (itD k S0).2).1], (rDot (itD k S0).2).2)) := hide rfl
      have HKL := hide (itD_len k S0)
      generalize itD k S0 = X at HOWN HD K53 HX HKL
      generalize rDot X.2 = Y at K53 HX
      obtain ⟨⟨y1, y2⟩, SY⟩ := Y
      dsimp only at K53
      go_wp2_with fail
      refine (unhide K53).mono ?_
      rintro e w2 ⟨rfl, hd, hb⟩
      have HD2 := hide hd
      have HOWN2 := hide (row_beside (unhide HOWN) hb hq)
      have HSZ2 := hide (Nat.le_trans (unhide HSZ) hb.size)
      clear hd hb
      go_wp2_with (at_builtin; refine append_dots rfl _ _ rfl w.heap.size _ X.1 rfl ((own_after (unhide HOWN2) (below_alloc' _))) w2.heap.size 1 [(y1, y2)] rfl (sl_row (VRow.new w2 66 [.int .i64 y1, .int .i64 y2])) (by simp) (by simp; have := unhide HKL; omega) (by simp; have := unhide HSZ2; omega) ?_; intro v3 w3 hown hb; have HOWN3 := hide hown; have HD3 := hide (((unhide HD2).after (below_alloc' _)).under (Nat.le_refl _) hq hb); clear hown hb)
      go_roundw
      case rel => exact ⟨k + 1, by omega, by go_num, by rw [unhide HX]; exact unhide HOWN3, by rw [unhide HX]; exact unhide HD3⟩
      case measure => simp [intOf]; omega
    · obtain rfl : k = N := by omega
      obtain ⟨a, cap, e, hcap, hsl, hfr⟩ := own_slF rfl (unhide HOWN)
      have HCAP := hide hcap
      have HSL := hide hsl
      have HFR := hide hfr
      have KL := itD_len k S0
      obtain ⟨X, hX⟩ : ∃ X, itD k S0 = X := ⟨_, rfl⟩
      have HXE := hide hX
      rw [hX] at e HD HCAP HSL HFR KL
      subst e
      have KC := hide fun W h => check_any a cap X.1 (by omega) W h
      obtain ⟨C, hC⟩ : ∃ C, Vc.check X.1 = C := ⟨_, rfl⟩
      have HE : Hid (endD X = (if (fail X.2 C).2 ≠ 0 then [] else X.1, fail X.2 C)) := hide (by unfold endD; rw [hC])
      rw [hC] at KC
      clear hcap hsl hfr hC HOWN KL hX
      obtain ⟨F, hF⟩ : ∃ F, fail X.2 C = F := ⟨_, rfl⟩
      rw [hF] at HE
      go_wp2_with fail
      refine (unhide KC _ (unhide HSL)).mono ?_
      rintro e w2 ⟨rfl, hb⟩
      have HD2 := hide ((unhide HD).after hb)
      have HSL2 := hide ((unhide HSL).after hb)
      clear hb
      go_wp2_with fail
      refine ((unhide HD2).call3 fun hx => rfail_d hx C).mono ?_
      rw [hF]
      rintro e w3 ⟨rfl, hd, hb⟩
      have HD3 := hide hd
      have HSL3 := hide ((unhide HSL2).besideF hb (unhide HFR) hq)
      have KE := hide (rerr_at (show RdAt w3 q F from hd.1))
      clear hd hb hF
      obtain ⟨FB, FE⟩ := F
      dsimp only at KE
      by_cases he : FE = 0
      · subst he
        have HE2 : Hid (endD X = (X.1, (FB, 0))) := hide (by rw [unhide HE]; rfl)
        go_wp2_with fail
        refine (unhide KE).mono ?_
        rintro e w4 ⟨rfl, rfl⟩
        go_wp2_with fail
        go_ret
        rw [unhide HXE, unhide HE2]
        exact ⟨a, cap, rfl, unhide HCAP, unhide HSL3, unhide HFR, unhide HD3⟩
      · have HE2 : Hid (endD X = ([], (FB, FE))) := hide (by rw [unhide HE]; rw [if_pos he])
        have hne : (FE != 0) = true := bne_iff_ne.2 he
        go_wp2_with fail
        refine (unhide KE).mono ?_
        rintro e w4 ⟨rfl, rfl⟩
        go_wp2_with fail
        go_ret
        rw [unhide HXE, unhide HE2]
        exact ⟨none, 0, rfl, Nat.le_refl _, Sl.none _ _, Fresh.nil _ _, unhide HD3⟩

set_option maxRecDepth 100000 in
set_option maxHeartbeats 400000 in
theorem takeVec_any {w : World} {q : Nat} {st : St} (h : Doc w q 82 st) (hs : st.1.length ≤ 50000000) :
    Calls Tryz.prog 131 #[.pointer (some ⟨q, 0, none⟩)] w (VecMade q 82 w (rVec st)) := by
  have K := hide (takeListD_any h hs)
  generalize rVec st = X at K ⊢
  clear h hs
  go_enter Tryz.func131, Tryz.ntmps131
  go_wp2_with fail
  refine (unhide K).mono ?_
  rintro e w1 ⟨a, cap, rfl, h1, h2, h3, h4⟩
  have HM := hide (show VecMade q 82 w X (.returned (.slice a X.1.length cap)) w1 from ⟨a, cap, rfl, h1, h2, h3, h4⟩)
  clear h1 h2 h3 h4
  go_wp2_with fail
  go_ret
  exact unhide HM
end Go.Proofs.YthecijjmgfempaaGreat

namespace Go.Proofs.YthecijjmgfempaaGreat
open Go.RowKit

theorem Fresh.ne {n q : Nat} {a : Option Addr} {ds : List Vc.D} (h : Fresh n a ds) (hq : q < n) : ∀ ad, a = some ad → 0 < ds.length → ad.block ≠ q := fun ad e h0 => by
  have := h ad e h0
  omega

set_option maxRecDepth 100000 in
set_option maxHeartbeats 400000 in
theorem rnew_d (s : ByteArray) (w : World) : Calls Tryz.prog 30 #[.string s] w fun e w' => e = .returned (.pointer (some ⟨w.heap.size, 0, none⟩)) ∧ Doc w' w.heap.size 82 (s.data.toList, 0) ∧ Below w.heap.size w w' := by
  go_enter Tryz.func30, Tryz.ntmps30
  go_wp2_with fail
  go_ret
  refine ⟨rfl, ?_, below_alloc' _⟩
  show VRow _ _ _ [.string (str s.data.toList), .int .i64 0]
  rw [str_of]
  exact VRow.new w 82 [.string s, .int .i64 0]

end Go.Proofs.YthecijjmgfempaaGreat

namespace Go.Proofs.YthecijjmgfempaaGreat
open Go.RowKit

set_option maxRecDepth 100000 in
set_option maxHeartbeats 2000000 in
theorem refTakeVec_any {w : World} {q : Nat} {st : St} (h : Doc w q 51 st) (hs : st.1.length ≤ 50000000) :
    Calls Tryz.prog 38 #[.pointer (some ⟨q, 0, none⟩)] w (VecMade q 51 w (rVec st)) := by
  have hq := h.lt
  have HW := hide (DS.start h)
  have K1 := hide ((unhide HW).call3 fun hx => refNumberR_any q st 64 (by omega) _ hx)
  have HLEN := hide (rNumber_len st 64)
  have HL0 := hide hs
  have HN64 := hide (rCount st)
  have HV : Hid (rVec st = endD (itD (rNumber st 64).1.toNat (rNumber st 64).2)) := hide rfl
  have HEARLY := hide fun k hk hb => rVec_early (st := st) (k := k) hk hb
  obtain ⟨R, hR⟩ : ∃ R, rVec st = R := ⟨_, rfl⟩
  obtain ⟨N, e1, e2⟩ := count_nat st 64
  rw [e1] at K1
  rw [hR, e2] at HV
  rw [e2] at HN64
  rw [hR, e2] at HEARLY
  generalize (rNumber st 64).2 = S0 at K1 HLEN HV HEARLY
  have HLS : Hid (∀ k, (itD k S0).2.1.length ≤ 50000000) := hide fun k => by
    have h1 := itD_less k S0
    have := unhide HLEN
    have := unhide HL0
    omega
  rw [hR]
  have hN := unhide HN64
  clear h hs e1 e2 HLEN HL0 hR
  go_enter Tryz.func38, Tryz.ntmps38
  go_wp2_with fail
  refine (unhide K1).mono ?_
  rintro e w1 ⟨rfl, hd, _⟩
  have HD1 := hide hd
  clear hd
  go_wp2_with fail
  go_loopw [4, 5] (fun l i wr => ∃ k : Nat, k ≤ N ∧ i = .int .i64 k ∧ wr.ownsRow w.heap.size 66 2 l (itD k S0).1.length (flat (itD k S0).1) ∧ DS q 51 w (itD k S0).2 wr) (fun _ i _ => N - (intOf i).toNat)
  case atStart => exact ⟨0, Nat.zero_le _, rfl, World.ownsRow_nil _ _ _ _, unhide HD1⟩
  case round =>
    obtain ⟨k, hk, rfl, hown, hd⟩ := hrel
    have HOWN := hide hown
    have HD := hide hd
    have HSZ := hide hd.2.size
    have HLK := hide (unhide HLS k)
    have HKL := hide (itD_len k S0)
    have HX : Hid (itD (k + 1) S0 = ((itD k S0).1 ++ [(rDot (itD k S0).2).1], (rDot (itD k S0).2).2)) := hide rfl
    have HEA := hide (unhide HEARLY k hk)
    have HVK : Hid (k = N → R = endD (itD k S0)) := hide fun e => by rw [e]; exact unhide HV
    clear hown hd
    generalize itD k S0 = X at HOWN HD HLK HKL HX HEA HVK
    obtain ⟨L, SB, SE⟩ := X
    dsimp only at HOWN HD HLK HKL HX
    have c1 := (unhide HD).1.c1
    dsimp only at c1
    by_cases he : SE = 0
    · subst he
      by_cases hlt : k < N
      · have K1 := hide ((DS.start (unhide HD).1).call3 fun hx => refNumberR_any q (SB, 0) 63 (by have := unhide HLK; show SB.length ≤ 100000000; omega) _ hx)
        have HL1 := hide (rNumber_len (SB, 0) 63)
        have HX2 : Hid (itD (k + 1) S0 = (L ++ [((rNumber (SB, 0) 63).1, (rNumber (rNumber (SB, 0) 63).2 1048576).1)], (rNumber (rNumber (SB, 0) 63).2 1048576).2)) := hide (unhide HX)
        generalize rNumber (SB, 0) 63 = Y at K1 HL1 HX2
        obtain ⟨n1, S1⟩ := Y
        dsimp only at K1 HL1 HX2
        obtain ⟨Z, hZ⟩ : ∃ Z, rNumber S1 1048576 = Z := ⟨_, rfl⟩
        rw [hZ] at HX2
        have HZ := hide hZ
        obtain ⟨n2, S2⟩ := Z
        dsimp only at HX2
        clear hZ
        go_wp2_with fail
        refine (unhide K1).mono ?_
        rintro e w2 ⟨rfl, hd, _⟩
        have HI2 := hide hd
        have HSZ2 := hide hd.2.size
        clear hd c1
        go_wp2_with (refine store_row (by rfl) 66 _ _ (by rfl) w2.heap.size [.int .i64 n1, .int .i64 0] (by rfl) (by rfl) 66 zero81 (VRow.newAt rfl) 2 size81 rfl rfl (by simp [Value.oneCell']) ?_; intro w3 ho hr; have HI3 := hide (((unhide HI2).after (below_alloc' (.cells zero81.toArray 66))).only ho (unhide HSZ2) (by have := (unhide HI2).lt; omega)); have HR3 := hide hr; clear ho hr)
        have K2 := (unhide HI3).call3 fun hx => refNumberR_any q S1 1048576 (by have := unhide HLK; have := unhide HL1; omega) _ hx
        rw [unhide HZ] at K2
        refine K2.mono ?_
        rintro e w4 ⟨rfl, hd, hb⟩
        have hqD : w2.heap.size ≠ q := by have := (unhide HI2).lt; omega
        have HI4 := hide hd
        have hr4 := (unhide HR3).beside hb hqD
        have HR4 := hide hr4
        have f1 := hr4.frozen 1
        have z0 := hr4.cell 0 _ rfl
        have z1 := hr4.cell 1 _ rfl
        have HI5 := hide (DS.only hd (only_set w4 w2.heap.size 1 (.int .i64 n2)) (unhide HSZ2) (by omega))
        have HLT4 := hide hr4.lt
        clear hd hb K2 hr4
        go_wp2_with (at_builtin; refine append_dots rfl _ _ rfl w.heap.size _ L rfl (own_after (row_beside (unhide HOWN) (unhide HI5).2 hq) (below_alloc' _)) w4.heap.size 1 [(n1, n2)] (by first | rfl | simp) (sl_row (VRow.newAt (by simp))) (by simp) (by simp; have := unhide HKL; omega) (by simp; have := unhide HSZ; have := unhide HSZ2; have := unhide HLT4; omega) ?_; intro v3 w6 hown hb; have HOWN3 := hide hown; have HD3 := hide (((unhide HD).trans ((unhide HI5).after (below_alloc' _))).under (Nat.le_refl _) hq hb); clear hown hb)
        go_roundw
        case rel => exact ⟨k + 1, by omega, by go_num, by rw [unhide HX2]; exact unhide HOWN3, by rw [unhide HX2]; exact unhide HD3⟩
        case measure => simp [intOf]; omega
      · obtain rfl : k = N := by omega
        obtain ⟨a, cap, e, hcap, hsl, hfr⟩ := own_slF rfl (unhide HOWN)
        have HCAP := hide hcap
        have HSL := hide hsl
        have HFR := hide hfr
        have hll : L.length ≤ 64 := by have := unhide HKL; omega
        subst e
        have KC := hide fun W h => refCheck_any a cap L (by omega) W h
        obtain ⟨C, hC⟩ : ∃ C, Vc.check L = C := ⟨_, rfl⟩
        have HE : Hid (R = (if (fail (SB, 0) C).2 ≠ 0 then [] else L, fail (SB, 0) C)) := hide (by rw [unhide HVK rfl]; unfold endD; rw [← hC])
        rw [hC] at KC
        clear hcap hsl hfr hC HOWN hll
        obtain ⟨F, hF⟩ : ∃ F, fail (SB, 0) C = F := ⟨_, rfl⟩
        rw [hF] at HE
        go_wp2_with fail
        refine (unhide KC _ (unhide HSL)).mono ?_
        rintro e w2 ⟨rfl, hb⟩
        have HD2 := hide ((unhide HD).after hb)
        have HSL2 := hide ((unhide HSL).after hb)
        clear hb c1
        go_wp2_with fail
        refine ((unhide HD2).call3 fun hx => refFailR_any q (SB, 0) C _ hx).mono ?_
        rw [hF]
        rintro e w3 ⟨rfl, hd, hb⟩
        have HD3 := hide hd
        have HSL3 := hide ((unhide HSL2).besideF hb (unhide HFR) hq)
        have c1 := hd.1.c1
        clear hd hb hF
        obtain ⟨FB, FE⟩ := F
        dsimp only at c1
        by_cases he : FE = 0
        · subst he
          have HE2 : Hid (R = (L, (FB, 0))) := hide (by rw [unhide HE]; rfl)
          go_wp2_with fail
          go_ret
          rw [unhide HE2]
          exact ⟨a, cap, rfl, unhide HCAP, unhide HSL3, unhide HFR, unhide HD3⟩
        · have HE2 : Hid (R = ([], (FB, FE))) := hide (by rw [unhide HE]; rw [if_pos he])
          have hne : (FE != 0) = true := bne_iff_ne.2 he
          go_wp2_with fail
          go_ret
          rw [unhide HE2]
          exact ⟨none, 0, rfl, Nat.le_refl _, Sl.none _ _, Fresh.nil _ _, unhide HD3⟩
    · have HE2 : Hid (R = ([], (SB, SE))) := hide (by rw [← unhide HEA he, endD_bad he])
      have hne : (SE != 0) = true := bne_iff_ne.2 he
      have hne2 : (SE == 0) = false := by simp [he]
      by_cases hlt : k < N
      · go_wp2_with fail
        go_ret
        rw [unhide HE2]
        exact ⟨none, 0, rfl, Nat.le_refl _, Sl.none _ _, Fresh.nil _ _, unhide HD⟩
      · go_wp2_with fail
        go_ret
        rw [unhide HE2]
        exact ⟨none, 0, rfl, Nat.le_refl _, Sl.none _ _, Fresh.nil _ _, unhide HD⟩
end Go.Proofs.YthecijjmgfempaaGreat

namespace Go.Proofs.YthecijjmgfempaaGreat
open Go.RowKit

/-- What a call has come to at a Writer so far. -/
abbrev WS (own : Nat → Prop) (p : Addr) (w : World) (st : St) (wr : World) : Prop := Turned Wr own p w st (.tuple #[]) (.returned (.tuple #[])) wr
theorem WS.start {own : Nat → Prop} {p : Addr} {w : World} {st : St} (h : Wr w p st own) : WS own p w st w := turned_refl h (Below.refl _ _)
theorem WS.after {own : Nat → Prop} {p : Addr} {w wr wr' : World} {st : St} (h : WS own p w st wr) (hb : Below wr.heap.size wr wr') : WS own p w st wr' := by
  obtain ⟨own', _, hx, ho, hbs⟩ := h
  exact ⟨own', rfl, wr_after hx hb, ho, ⟨hb.os.trans hbs.os, hb.tape.trans hbs.tape, hb.output.trans hbs.output, Nat.le_trans hbs.size hb.size, fun k hk hk2 => (hb.block k (Nat.lt_of_lt_of_le hk hbs.size)).trans (hbs.block k hk hk2)⟩⟩
theorem WS.beside {own : Nat → Prop} {p : Addr} {w wr : World} {st : St} (h : WS own p w st wr) : Beside own w wr := by
  obtain ⟨own', _, hx, _, hbs⟩ := h
  exact hbs
theorem WS.below {own : Nat → Prop} {p : Addr} {w wr : World} {st : St} (h : WS own p w st wr) {B : Nat} (hB : B ≤ w.heap.size) (ho : ∀ g, own g → B ≤ g) : Below B w wr := h.beside.below hB ho
theorem WS.row {own : Nat → Prop} {p : Addr} {w wr : World} {st : St} (h : WS own p w st wr) {B T : Nat} {vs : List Value} (hr : VRow w B T vs) (hB : ¬ own B) : VRow wr B T vs := hr.beside h.beside hB
theorem WS.of {own : Nat → Prop} {p : Addr} {w w1 wr : World} {st : St} (hb : Below w.heap.size w w1) (h : WS own p w1 st wr) : WS own p w st wr := turned_of hb h
/-- What a call does to a Writer, said of what was there ahead. -/
theorem WS.call {own : Nat → Prop} {p : Addr} {w wr : World} {st st' : St} {f : Nat} {args : Array Value} (h : WS own p w st wr)
    (K : ∀ own1, Wr wr p st own1 → (∀ g, own1 g → own g ∨ w.heap.size ≤ g) → Calls Tryz.prog f args wr (Turned Wr own1 p wr st' (.tuple #[]))) : Calls Tryz.prog f args wr fun e w' => e = .returned (.tuple #[]) ∧ WS own p w st' w' := by
  obtain ⟨own1, _, hx, ho, hbs⟩ := h
  refine (K own1 hx ho).mono fun e w' hm => ?_
  have h2 := turned_trans ho hbs hm
  obtain rfl : e = .returned (.tuple #[]) := h2.choose_spec.1
  exact ⟨rfl, h2⟩


set_option maxRecDepth 100000 in
set_option maxHeartbeats 400000 in
theorem putDot_any {w : World} {p : Addr} {st : St} {own : Nat → Prop} (h : Wr w p st own) (hl : st.1.length ≤ 49000000) (x y : Int) :
    Calls Tryz.prog 120 #[.pointer (some p), .agg #[.int .i64 x, .int .i64 y]] w (Turned Wr own p w (wDot st (x, y)) (.tuple #[])) := by
  have HB := hide (below_alloc' (w := w) (.cells #[.int .i64 x, .int .i64 y] 66))
  have HW := hide (WS.start (wr_after h (unhide HB)))
  have R := VRow.new w 66 [.int .i64 x, .int .i64 y]
  have HR := hide R
  have HN : Hid (¬ own w.heap.size) := hide fun ho => absurd (wr_lt h _ ho) (by omega)
  have HL := hide hl
  have HL2 := hide (wNumber_len st x)
  have a0 := R.cell 0 _ rfl
  clear h R hl
  go_enter Tryz.func120, Tryz.ntmps120
  go_wp2_with fail
  refine ((unhide HW).call fun own1 hx _ => wnumber_any hx (by have := unhide HL; omega) x).mono ?_
  rintro e w1 ⟨rfl, hs⟩
  have HS := hide hs
  have a1 := ((unhide HS).row (unhide HR) (unhide HN)).cell 1 _ rfl
  clear hs a0
  go_wp2_with fail
  refine ((unhide HS).call fun own1 hx _ => wnumber_any hx (by have := unhide HL; have := unhide HL2; omega) y).mono ?_
  rintro e w2 ⟨rfl, hs⟩
  have HS2 := hide hs
  clear hs
  go_wp2_with fail
  go_end0
  exact (unhide HS2).of (unhide HB)

set_option maxRecDepth 100000 in
set_option maxHeartbeats 1000000 in
theorem putListD_any {w : World} {p : Addr} {st : St} {own : Nat → Prop} (h : Wr w p st own) (hl : st.1.length ≤ 48000000) (w0 : World) (hb0 : Below w0.heap.size w0 w) (ho0 : ∀ g, own g → w0.heap.size ≤ g)
    (a : Option Addr) (cap : Nat) (ds : List Vc.D) (hd : ds.length ≤ 9223372036854775807) (s : Sl w0 a ds) :
    Calls Tryz.prog 119 #[.pointer (some p), .slice a ds.length cap, .func (.func 75) #[] #[], .func (.func 120) #[] #[]] w (Turned Wr own p w (wVec st ds) (.tuple #[])) := by
  have HW := hide (WS.start h)
  have HB0 := hide hb0
  have S := hide (s.after hb0)
  have S0 := hide s
  have HO0 := hide ho0
  have HL := hide hl
  have KC := hide fun W h => check_any a cap ds hd W h
  obtain ⟨C, hC⟩ : ∃ C, Vc.check ds = C := ⟨_, rfl⟩
  rw [hC] at KC
  clear h s hb0 ho0 hl
  by_cases hc : C = 0
  · subst hc
    have HLEN := hide (Vc.vec_len ((Vc.check_zero ds).1 hC))
    rw [wVec_ok hC]
    obtain ⟨S1, hS1⟩ : ∃ S1, wNumber st ds.length = S1 := ⟨_, rfl⟩
    have HPART : Hid (∀ k, (wDots S1 (ds.take k)).1.length ≤ 48001000) := hide fun k => by
      have h1 := wVec_part st ds k
      rw [hC, fail_zero, hS1] at h1
      have := unhide HL
      omega
    rw [hS1]
    go_enter Tryz.func119, Tryz.ntmps119
    go_wp2_with fail
    refine (unhide KC _ (unhide S)).mono ?_
    rintro e w1 ⟨rfl, hb1⟩
    have HW1 := hide ((unhide HW).after hb1)
    clear hb1
    go_wp2_with fail
    refine ((unhide HW1).call fun own1 hx _ => wnumber_any hx (by have := unhide HL; omega) ds.length).mono ?_
    rw [hS1]
    rintro e w2 ⟨rfl, hs⟩
    have HS := hide hs
    clear hs hS1 hC
    go_wp2_with fail
    go_loopw [25] (fun i wr => ∃ k : Nat, k ≤ ds.length ∧ i = .int .i64 k ∧ WS own p w (wDots S1 (ds.take k)) wr) (fun i _ => ds.length - (intOf i).toNat)
    case atStart => exact ⟨0, Nat.zero_le _, rfl, unhide HS⟩
    case round =>
      obtain ⟨k, hk, rfl, hs⟩ := hrel
      have HR := hide hs
      clear hs
      by_cases hlt : k < ds.length
      · obtain ⟨d, hx⟩ : ∃ d, ds[k]? = some d := ⟨_, List.getElem?_eq_getElem hlt⟩
        have hsl := (unhide S0).after ((unhide HB0).trans ((unhide HR).below (unhide HB0).size (unhide HO0)))
        obtain ⟨g, o, rfl, hg, hcell⟩ := hsl (by omega)
        obtain ⟨x0, x1⟩ := hcell k d hx
        have HST := hide (wDots_snoc S1 ds k d hx)
        clear hcell hx hg
        go_wp2_with (refine store_row (by rfl) 66 _ _ (by rfl) wr.heap.size [.int .i64 d.1, .int .i64 d.2] (by rfl) (by rfl) 66 zero81 (VRow.newAt rfl) 2 size81 rfl rfl (by simp [Value.oneCell']) ?_; intro wz ho hr; have HZ := hide ((below_alloc' (w := wr) (.cells zero81.toArray 66)).trans (ho.below (Nat.le_refl _))); have HZ2 := hide ((unhide HR).after (unhide HZ)); clear x0 x1; have z0 := hr.cell 0 _ rfl; have z1 := hr.cell 1 _ rfl; clear ho hr)
        refine ((unhide HZ2).call fun own1 hx _ => putDot_any hx (by have := unhide HPART k; omega) d.1 d.2).mono ?_
        rintro e w3 ⟨rfl, hs⟩
        have HS3 := hide hs
        clear hs z0 z1
        go_wp2_with fail
        go_roundw
        case rel => exact ⟨k + 1, by omega, by go_num, by rw [unhide HST]; exact unhide HS3⟩
        case measure => simp [intOf]; omega
      · obtain rfl : k = ds.length := by omega
        have HE := unhide HR
        rw [List.take_length] at HE
        have HE2 := hide HE
        clear HE
        go_wp2_with fail
        go_end0
        exact unhide HE2
  · rw [wVec_bad (by rw [hC]; exact hc), hC]
    have hne : (C != 0) = true := bne_iff_ne.2 hc
    go_enter Tryz.func119, Tryz.ntmps119
    go_wp2_with fail
    refine (unhide KC _ (unhide S)).mono ?_
    rintro e w1 ⟨rfl, hb1⟩
    have HW1 := hide ((unhide HW).after hb1)
    clear hb1
    go_wp2_with fail
    refine ((unhide HW1).call fun own1 hx _ => wfail_any hx C).mono ?_
    rintro e w2 ⟨rfl, hs⟩
    have HS := hide hs
    clear hs
    go_wp2_with fail
    go_end0
    exact unhide HS

theorem ws_of {own : Nat → Prop} {p : Addr} {w w' : World} {st : St} {e : Ending} (h : Turned Wr own p w st (.tuple #[]) e w') : e = .returned (.tuple #[]) ∧ WS own p w st w' := by
  obtain rfl : e = .returned (.tuple #[]) := h.choose_spec.1
  exact ⟨rfl, h⟩
set_option maxRecDepth 100000 in
set_option maxHeartbeats 400000 in
theorem putVec_any {w : World} {p : Addr} {st : St} {own : Nat → Prop} (h : Wr w p st own) (hl : st.1.length ≤ 48000000) (w0 : World) (hb0 : Below w0.heap.size w0 w) (ho0 : ∀ g, own g → w0.heap.size ≤ g)
    (a : Option Addr) (cap : Nat) (ds : List Vc.D) (hd : ds.length ≤ 9223372036854775807) (s : Sl w0 a ds) :
    Calls Tryz.prog 117 #[.pointer (some p), .slice a ds.length cap] w (Turned Wr own p w (wVec st ds) (.tuple #[])) := by
  have K := hide (putListD_any h hl w0 hb0 ho0 a cap ds hd s)
  clear h hl s hb0 ho0
  go_enter Tryz.func117, Tryz.ntmps117
  go_wp2_with fail
  refine (unhide K).mono ?_
  intro e w1 hm
  obtain ⟨rfl, hs⟩ := ws_of hm
  have HS := hide hs
  clear hm hs
  go_wp2_with fail
  go_end0
  exact unhide HS

end Go.Proofs.YthecijjmgfempaaGreat
