/-
  What is kept while a reader turns; the program's Reader in the document's form; a dot, and a vector, that the program takes. Conditions: those that each theorem names.
-/
import Derived.Test.YthecijjmgfempaaSib
import Derived.Test.YthecijjmgfempaaGrow
import Derived.Test.YthecijjmgfempaaCShelf
namespace Go.Proofs.Ythecijjmgfempaa
open Go.RowKit

section
variable {q T : Nat} {w w1 wr wr' : World} {st st' : St}
theorem DS.under (h : DS q T w st wr) {n : Nat} (hn : w.heap.size ≤ n) (hq : q < n) (hb : Below n wr wr') : DS q T w st wr' :=
  ⟨VRow.below h.1 hb hq, ⟨hb.os.trans h.2.os, hb.tape.trans h.2.tape, hb.output.trans h.2.output, Nat.le_trans h.2.size hb.size, fun k hk hk2 => (hb.block k (by omega)).trans (h.2.block k hk hk2)⟩⟩
theorem DS.only {B : Nat} (h : DS q T w st wr) (ho : Only B wr wr') (hB : w.heap.size ≤ B) (hne : q ≠ B) : DS q T w st wr' :=
  ⟨VRow.only h.1 ho hne, ⟨ho.os.trans h.2.os, ho.tape.trans h.2.tape, ho.output.trans h.2.output, by rw [ho.size]; exact h.2.size, fun k hk hk2 => (ho.block k (by omega)).trans (h.2.block k hk hk2)⟩⟩
theorem DS.trans {S : St} (h : DS q T w S wr) (h2 : DS q T wr st' wr') : DS q T w st' wr' := ⟨h2.1, h.2.trans h2.2⟩
/-- What a call does to it, and what it does beside. -/
theorem DS.call3 {f : Nat} {args : Array Value} {v : Value} (h : DS q T w st wr) (K : Doc wr q T st → Calls Try.prog f args wr (DocMade q T wr st' v)) : Calls Try.prog f args wr fun e w' => e = .returned v ∧ DS q T w st' w' ∧ Beside (· = q) wr w' :=
  (K h.1).mono fun _ _ hm => ⟨hm.1, ⟨hm.2.1, h.2.trans hm.2.2⟩, hm.2.2⟩
end
theorem own_kept {w w' : World} {base e size n : Nat} {v : Value} {xs : List Value} (h : w.ownsRow base e size v n xs) (hk : ∀ g, v.ownBlock = some g → w'.heap[g]? = w.heap[g]?) : w'.ownsRow base e size v n xs := by
  refine ⟨h.1, ?_⟩
  rcases h.2 with h1 | ⟨g, cap, cur, rfl, hb, hg, h2⟩
  · exact .inl h1
  · exact .inr ⟨g, cap, cur, rfl, hb, (hk g rfl).trans hg, h2⟩
theorem row_beside {w w' : World} {base e size n q : Nat} {v : Value} {xs : List Value} (h : w.ownsRow base e size v n xs) (hb : Beside (· = q) w w') (hq : q < base) : w'.ownsRow base e size v n xs :=
  own_kept h fun g hg => hb.block g (h.lt g hg).2 fun e => by have := (h.lt g hg).1; omega
theorem Sl.beside {q : Nat} {w w' : World} {a : Option Addr} {ds : List Vc.D} (h : Sl w a ds) (hb : Beside (· = q) w w') (hne : ∀ ad, a = some ad → 0 < ds.length → ad.block ≠ q) : Sl w' a ds := fun h0 => by
  obtain ⟨g, o, e, hg, hc⟩ := h h0
  have hn : g ≠ q := hne _ e h0
  have e1 : ∀ k, w'.cell? ⟨g, k, Option.none⟩ = w.cell? ⟨g, k, Option.none⟩ := fun k => World.cell?_of_block (w := w) (hb.block g hg hn)
  refine ⟨g, o, e, Nat.lt_of_lt_of_le hg hb.size, fun j d hj => ?_⟩
  rw [e1, e1]
  exact hc j d hj
theorem Sl.besideF {q n : Nat} {w w' : World} {a : Option Addr} {ds : List Vc.D} (h : Sl w a ds) (hb : Beside (· = q) w w') (hf : Fresh n a ds) (hq : q < n) : Sl w' a ds :=
  h.beside hb fun ad e h0 => by have := hf ad e h0; omega
section

end

/-- A vector that is taken, and where it lies. -/
def VecMade (q T : Nat) (w : World) (x : List Vc.D × St) (e : Ending) (w' : World) : Prop := ∃ a cap, e = .returned (.slice a x.1.length cap) ∧ x.1.length ≤ cap ∧ Sl w' a x.1 ∧ Fresh w.heap.size a x.1 ∧ DS q T w x.2 w'
/-- A list appended to a row of the call's own. -/
theorem append_dots {w : World} {ops : Array Oper} {rest : List Oper} {o : Oper} {a : Act} {Q : Exit → Act → World → Prop} (hgd : o.guard = none) (s x : Operand)
    (ho : o.op = .call { callee := .builtin .append, args := #[s, x], argTypes := #[24, 24] }) (base : Nat) (v : Value) (ds : List Vc.D) (hs : a.eval s = v) (hown : w.ownsRow base 86 2 v ds.length (flat ds))
    (g c : Nat) (xs : List Vc.D) (hx : a.eval x = .slice (some ⟨g, 0, none⟩) xs.length c) (hsl : Sl w (some ⟨g, 0, none⟩) xs) (hx0 : 0 < xs.length) (hn : ds.length + xs.length ≤ 200000) (hbase : base ≤ w.heap.size)
    (h : ∀ v' w', w'.ownsRow base 86 2 v' (ds ++ xs).length (flat (ds ++ xs)) → Below base w w' → wpList Try.prog ops Q rest (a.put o.dst v') w') : wpList Try.prog ops Q (o :: rest) a w := by
  obtain ⟨i0, hi, hz0, hz1, hz2⟩ := info_parts info81
  obtain ⟨g', o', e', _, hc⟩ := hsl hx0
  injection e' with e'
  injection e' with e1 e2
  subst e1
  subst e2
  refine wpList_append_own_at w hgd s x 24 ho base 86 i0 _ 2 16 Try.underlying24 hi hz0 hz1 hz2 rfl (by decide) v ds.length (flat ds) hs hown ⟨g, 0, none⟩ xs.length c (flat xs) hx (flat_len xs) (sl_cells hc) (flat_one xs) (by unfold maxLen; omega) (by omega) hbase ?_
  intro v' w' g1 g2 _ _
  refine h v' w' ?_ (grown_below hown g2 hbase)
  rw [List.length_append, flat_append]
  exact g1
theorem sl_row {W : World} {D T : Nat} {d : Vc.D} (h : VRow W D T [.int .i64 d.1, .int .i64 d.2]) : Sl W (some ⟨D, 0, none⟩) [d] := fun _ => by
  refine ⟨D, 0, rfl, h.lt, fun j x hj => ?_⟩
  have hj0 : j = 0 := by have := (List.getElem?_eq_some_iff.1 hj).1; simp at this; omega
  subst hj0
  simp at hj
  subst hj
  exact ⟨h.cell 0 _ rfl, h.cell 1 _ rfl⟩
theorem count_nat (st : St) (m : Int) : ∃ N : Nat, (rNumber st m).1 = N ∧ (rNumber st m).1.toNat = N := ⟨(rNumber st m).1.toNat, by have := rNumber_nonneg st m; omega, rfl⟩

end Go.Proofs.Ythecijjmgfempaa

namespace Go.Proofs.Ythecijjmgfempaa
open Go.RowKit

theorem Fresh.ne {n q : Nat} {a : Option Addr} {ds : List Vc.D} (h : Fresh n a ds) (hq : q < n) : ∀ ad, a = some ad → 0 < ds.length → ad.block ≠ q := fun ad e h0 => by
  have := h ad e h0
  omega

end Go.Proofs.Ythecijjmgfempaa

namespace Go.Proofs.Ythecijjmgfempaa
open Go.RowKit

end Go.Proofs.Ythecijjmgfempaa

namespace Go.Proofs.Ythecijjmgfempaa
open Go.RowKit

/-- What a call has come to at a Writer so far. -/
abbrev WS (own : Nat → Prop) (p : Addr) (w : World) (st : St) (wr : World) : Prop := Turned Wr own p w st (.tuple #[]) (.returned (.tuple #[])) wr
theorem WS.start {own : Nat → Prop} {p : Addr} {w : World} {st : St} (h : Wr w p st own) : WS own p w st w := turned_refl h (Below.refl _ _)
theorem WS.after {own : Nat → Prop} {p : Addr} {w wr wr' : World} {st : St} (h : WS own p w st wr) (hb : Below wr.heap.size wr wr') : WS own p w st wr' := by
  obtain ⟨own', _, hx, ho, hbs⟩ := h
  exact ⟨own', rfl, wr_after hx hb, ho, ⟨hb.os.trans hbs.os, hb.tape.trans hbs.tape, hb.output.trans hbs.output, Nat.le_trans hbs.size hb.size, fun k hk hk2 => (hb.block k (Nat.lt_of_lt_of_le hk hbs.size)).trans (hbs.block k hk hk2)⟩⟩
theorem WS.beside {own : Nat → Prop} {p : Addr} {w wr : World} {st : St} (h : WS own p w st wr) : Beside own w wr := by
  obtain ⟨own', _, hx, _, hbs⟩ := h
  exact hbs
theorem WS.below {own : Nat → Prop} {p : Addr} {w wr : World} {st : St} (h : WS own p w st wr) {B : Nat} (hB : B ≤ w.heap.size) (ho : ∀ g, own g → B ≤ g) : Below B w wr := h.beside.below hB ho
theorem WS.row {own : Nat → Prop} {p : Addr} {w wr : World} {st : St} (h : WS own p w st wr) {B T : Nat} {vs : List Value} (hr : VRow w B T vs) (hB : ¬ own B) : VRow wr B T vs := hr.beside h.beside hB
theorem WS.of {own : Nat → Prop} {p : Addr} {w w1 wr : World} {st : St} (hb : Below w.heap.size w w1) (h : WS own p w1 st wr) : WS own p w st wr := turned_of hb h
/-- What a call does to a Writer, said of what was there ahead. -/
theorem WS.call {own : Nat → Prop} {p : Addr} {w wr : World} {st st' : St} {f : Nat} {args : Array Value} (h : WS own p w st wr)
    (K : ∀ own1, Wr wr p st own1 → (∀ g, own1 g → own g ∨ w.heap.size ≤ g) → Calls Try.prog f args wr (Turned Wr own1 p wr st' (.tuple #[]))) : Calls Try.prog f args wr fun e w' => e = .returned (.tuple #[]) ∧ WS own p w st' w' := by
  obtain ⟨own1, _, hx, ho, hbs⟩ := h
  refine (K own1 hx ho).mono fun e w' hm => ?_
  have h2 := turned_trans ho hbs hm
  obtain rfl : e = .returned (.tuple #[]) := h2.choose_spec.1
  exact ⟨rfl, h2⟩


set_option maxRecDepth 100000 in
set_option maxHeartbeats 400000 in
theorem putDot_any {w : World} {p : Addr} {st : St} {own : Nat → Prop} (h : Wr w p st own) (hl : st.1.length ≤ 49000000) (x y : Int) :
    Calls Try.prog 85 #[.pointer (some p), .agg #[.int .i64 x, .int .i64 y]] w (Turned Wr own p w (wDot st (x, y)) (.tuple #[])) := by
  have HB := hide (below_alloc' (w := w) (.cells #[.int .i64 x, .int .i64 y] 86))
  have HW := hide (WS.start (wr_after h (unhide HB)))
  have R := VRow.new w 86 [.int .i64 x, .int .i64 y]
  have HR := hide R
  have HN : Hid (¬ own w.heap.size) := hide fun ho => absurd (wr_lt h _ ho) (by omega)
  have HL := hide hl
  have HL2 := hide (wNumber_len st x)
  have a0 := R.cell 0 _ rfl
  clear h R hl
  go_enter Try.func85, Try.ntmps85
  go_wp2_with fail
  refine ((unhide HW).call fun own1 hx _ => wnumber_any hx (by have := unhide HL; omega) x).mono ?_
  rintro e w1 ⟨rfl, hs⟩
  have HS := hide hs
  have a1 := ((unhide HS).row (unhide HR) (unhide HN)).cell 1 _ rfl
  clear hs a0
  go_wp2_with fail
  refine ((unhide HS).call fun own1 hx _ => wnumber_any hx (by have := unhide HL; have := unhide HL2; omega) y).mono ?_
  rintro e w2 ⟨rfl, hs⟩
  have HS2 := hide hs
  clear hs
  go_wp2_with fail
  go_end0
  exact (unhide HS2).of (unhide HB)

set_option maxRecDepth 100000 in
set_option maxHeartbeats 1000000 in
theorem putListD_any {w : World} {p : Addr} {st : St} {own : Nat → Prop} (h : Wr w p st own) (hl : st.1.length ≤ 48000000) (w0 : World) (hb0 : Below w0.heap.size w0 w) (ho0 : ∀ g, own g → w0.heap.size ≤ g)
    (a : Option Addr) (cap : Nat) (ds : List Vc.D) (hd : ds.length ≤ 9223372036854775807) (s : Sl w0 a ds) :
    Calls Try.prog 84 #[.pointer (some p), .slice a ds.length cap, .func (.func 43) #[] #[], .func (.func 85) #[] #[]] w (Turned Wr own p w (wVec st ds) (.tuple #[])) := by
  have HW := hide (WS.start h)
  have HB0 := hide hb0
  have S := hide (s.after hb0)
  have S0 := hide s
  have HO0 := hide ho0
  have HL := hide hl
  have KC := hide fun W h => check_any a cap ds hd W h
  obtain ⟨C, hC⟩ : ∃ C, Vc.check ds = C := ⟨_, rfl⟩
  rw [hC] at KC
  clear h s hb0 ho0 hl
  by_cases hc : C = 0
  · subst hc
    have HLEN := hide (Vc.vec_len ((Vc.check_zero ds).1 hC))
    rw [wVec_ok hC]
    obtain ⟨S1, hS1⟩ : ∃ S1, wNumber st ds.length = S1 := ⟨_, rfl⟩
    have HPART : Hid (∀ k, (wDots S1 (ds.take k)).1.length ≤ 48001000) := hide fun k => by
      have h1 := wVec_part st ds k
      rw [hC, fail_zero, hS1] at h1
      have := unhide HL
      omega
    rw [hS1]
    go_enter Try.func84, Try.ntmps84
    go_wp2_with fail
    refine (unhide KC _ (unhide S)).mono ?_
    rintro e w1 ⟨rfl, hb1⟩
    have HW1 := hide ((unhide HW).after hb1)
    clear hb1
    go_wp2_with fail
    refine ((unhide HW1).call fun own1 hx _ => wnumber_any hx (by have := unhide HL; omega) ds.length).mono ?_
    rw [hS1]
    rintro e w2 ⟨rfl, hs⟩
    have HS := hide hs
    clear hs hS1 hC
    go_wp2_with fail
    go_loopw [25] (fun i wr => ∃ k : Nat, k ≤ ds.length ∧ i = .int .i64 k ∧ WS own p w (wDots S1 (ds.take k)) wr) (fun i _ => ds.length - (intOf i).toNat)
    case atStart => exact ⟨0, Nat.zero_le _, rfl, unhide HS⟩
    case round =>
      obtain ⟨k, hk, rfl, hs⟩ := hrel
      have HR := hide hs
      clear hs
      by_cases hlt : k < ds.length
      · obtain ⟨d, hx⟩ : ∃ d, ds[k]? = some d := ⟨_, List.getElem?_eq_getElem hlt⟩
        have hsl := (unhide S0).after ((unhide HB0).trans ((unhide HR).below (unhide HB0).size (unhide HO0)))
        obtain ⟨g, o, rfl, hg, hcell⟩ := hsl (by omega)
        obtain ⟨x0, x1⟩ := hcell k d hx
        have HST := hide (wDots_snoc S1 ds k d hx)
        clear hcell hx hg
        go_wp2_with (refine store_row (by rfl) 86 _ _ (by rfl) wr.heap.size [.int .i64 d.1, .int .i64 d.2] (by rfl) (by rfl) 86 zero81 (VRow.newAt rfl) 2 size81 rfl rfl (by simp [Value.oneCell']) ?_; intro wz ho hr; have HZ := hide ((below_alloc' (w := wr) (.cells zero81.toArray 86)).trans (ho.below (Nat.le_refl _))); have HZ2 := hide ((unhide HR).after (unhide HZ)); clear x0 x1; have z0 := hr.cell 0 _ rfl; have z1 := hr.cell 1 _ rfl; clear ho hr)
        refine ((unhide HZ2).call fun own1 hx _ => putDot_any hx (by have := unhide HPART k; omega) d.1 d.2).mono ?_
        rintro e w3 ⟨rfl, hs⟩
        have HS3 := hide hs
        clear hs z0 z1
        go_wp2_with fail
        go_roundw
        case rel => exact ⟨k + 1, by omega, by go_num, by rw [unhide HST]; exact unhide HS3⟩
        case measure => simp [intOf]; omega
      · obtain rfl : k = ds.length := by omega
        have HE := unhide HR
        rw [List.take_length] at HE
        have HE2 := hide HE
        clear HE
        go_wp2_with fail
        go_end0
        exact unhide HE2
  · rw [wVec_bad (by rw [hC]; exact hc), hC]
    have hne : (C != 0) = true := bne_iff_ne.2 hc
    go_enter Try.func84, Try.ntmps84
    go_wp2_with fail
    refine (unhide KC _ (unhide S)).mono ?_
    rintro e w1 ⟨rfl, hb1⟩
    have HW1 := hide ((unhide HW).after hb1)
    clear hb1
    go_wp2_with fail
    refine ((unhide HW1).call fun own1 hx _ => wfail_any hx C).mono ?_
    rintro e w2 ⟨rfl, hs⟩
    have HS := hide hs
    clear hs
    go_wp2_with fail
    go_end0
    exact unhide HS

theorem ws_of {own : Nat → Prop} {p : Addr} {w w' : World} {st : St} {e : Ending} (h : Turned Wr own p w st (.tuple #[]) e w') : e = .returned (.tuple #[]) ∧ WS own p w st w' := by
  obtain rfl : e = .returned (.tuple #[]) := h.choose_spec.1
  exact ⟨rfl, h⟩
set_option maxRecDepth 100000 in
set_option maxHeartbeats 400000 in
theorem putVec_any {w : World} {p : Addr} {st : St} {own : Nat → Prop} (h : Wr w p st own) (hl : st.1.length ≤ 48000000) (w0 : World) (hb0 : Below w0.heap.size w0 w) (ho0 : ∀ g, own g → w0.heap.size ≤ g)
    (a : Option Addr) (cap : Nat) (ds : List Vc.D) (hd : ds.length ≤ 9223372036854775807) (s : Sl w0 a ds) :
    Calls Try.prog 82 #[.pointer (some p), .slice a ds.length cap] w (Turned Wr own p w (wVec st ds) (.tuple #[])) := by
  have K := hide (putListD_any h hl w0 hb0 ho0 a cap ds hd s)
  clear h hl s hb0 ho0
  go_enter Try.func82, Try.ntmps82
  go_wp2_with fail
  refine (unhide K).mono ?_
  intro e w1 hm
  obtain ⟨rfl, hs⟩ := ws_of hm
  have HS := hide hs
  clear hm hs
  go_wp2_with fail
  go_end0
  exact unhide HS

end Go.Proofs.Ythecijjmgfempaa
