/-
  What a leaf stands for, what is left of versions behind a closure, the live ones, and which of two wins: the program's.
-/
import Derived.Test.YthchcjjpplcfnaaP1
import Derived.Test.YthchcjjpplcfnaaGrow
namespace Go.Proofs.Ythchcjjpplcfnaa
open Go.RowKit

theorem run_append_none {w : World} (base : Nat) (t ty e : TypeId) (i : TypeInfo) (size : Nat) (ht : Try.prog.underlying t = some (.slice e)) (hi : Try.prog.info? e = some i)
    (v : Value) (n : Nat) (xs : List Value) (hown : w.ownsRow base e size v n xs) (c : Nat) :
    (Builtin.append_ #[t, t] ty #[v, .slice none 0 c]).run Try.prog w = .ok v w := by
  rcases hown.2 with ⟨rfl, rfl⟩ | ⟨g, cap, cur, rfl, _, _, hnc, _⟩
  · simp [Builtin.append_, run_underlying ht, sizeOf, typeInfo, hi, Builtin.lenOf, Builtin.firstCells]
  · simp [Builtin.append_, run_underlying ht, sizeOf, typeInfo, hi, Builtin.lenOf, Builtin.firstCells, hnc, storeCells]
/-- A list of dots appended to one of the call's own. -/
theorem append_sl {w : World} {ops : Array Oper} {rest : List Oper} {o : Oper} {a : Act} {Q : Exit → Act → World → Prop} (hgd : o.guard = none) (s x : Operand)
    (ho : o.op = .call { callee := .builtin .append, args := #[s, x], argTypes := #[63, 63] }) (base : Nat) (v : Value) (ds : List Vc.D) (hs : a.eval s = v) (hown : w.ownsRow base 62 2 v ds.length (flat ds))
    (r : Option Addr) (c : Nat) (xs : List Vc.D) (hx : a.eval x = .slice r xs.length c) (hsl : Sl w r xs) (hn : ds.length + xs.length ≤ 200000) (hbase : base ≤ w.heap.size)
    (h : ∀ v' w', w'.ownsRow base 62 2 v' (ds ++ xs).length (flat (ds ++ xs)) → Below base w w' → wpList Try.prog ops Q rest (a.put o.dst v') w') : wpList Try.prog ops Q (o :: rest) a w := by
  obtain ⟨i0, hi, hz0, hz1, hz2⟩ := info_parts info62
  cases r with
  | none =>
    have hxs : xs = [] := by
      cases xs with
      | nil => rfl
      | cons d l => obtain ⟨g, o, e, _⟩ := hsl (by simp); cases e
    subst hxs
    refine wpList_plain hgd fun K hK => ?_
    have hrun := run_append_none (w := w) base 63 o.type 62 i0 2 Try.underlying63 hi v ds.length (flat ds) hown c
    unfold Oper.wp
    simp only [List.length_nil] at hx
    simp [execOp, ho, resolve, invoke, builtin, hs, hx, hrun, Result.andThen]
    refine hK _ _ (h v w ?_ (Below.refl _ _))
    rw [List.append_nil]
    exact hown
  | some ad =>
    refine wpList_append_own w hgd s x 63 ho base 62 i0 _ 2 16 Try.underlying63 hi hz0 hz1 hz2 rfl (by decide) v ds.length (flat ds) hs hown ad xs.length c (flat xs) hx (flat_len xs) ?_ (flat_one xs) (by unfold maxLen; omega) (by omega) hbase ?_
    · cases xs with
      | nil => intro j u hu; simp [flat] at hu
      | cons d l =>
        obtain ⟨g, o, e, _, hc⟩ := hsl (by simp)
        injection e with e
        subst e
        exact sl_cells hc
    · intro v' w' h1 h2 _
      refine h v' w' ?_ (grown_below hown h2 hbase)
      rw [List.length_append, flat_append]
      exact h1

set_option maxRecDepth 100000 in
set_option maxHeartbeats 400000 in
theorem cloneD_any (a : Option Addr) (cap : Nat) (ds : List Vc.D) (hl : ds.length ≤ 100000) (w : World) (h : Sl w a ds) : Calls Try.prog 80 #[.slice a ds.length cap] w (MadeF w ds) := by
  have HS := hide h
  have HL := hide hl
  have q25 : ∀ (w : World) (a : Option Addr) (n c n' c' : Nat), (binOp .eql 63 (.slice a n c) (.slice none n' c')).run Try.prog w = .ok (.bool a.isNone) w := fun w a n c n' c' => Lib.run_eql_slice_nil w _ _ a n c n' c' Try.underlying63
  clear h hl
  cases a with
  | none =>
    have hxs : ds = [] := by
      cases ds with
      | nil => rfl
      | cons d l => obtain ⟨g, o, e, _⟩ := unhide HS (by simp); cases e
    subst hxs
    go_enter Try.func80, Try.ntmps80
    go_wp2_with fail
    go_ret
    exact ⟨none, 0, rfl, Nat.le_refl _, Sl.none _ _, Below.refl _ _, Fresh.nil _ _⟩
  | some ad =>
    have HB := hide (below_alloc' (w := w) (.cells #[] 62))
    have HO := hide (World.ownsRow_lit (base := w.heap.size) (e := 62) (size := 2) w #[] 0 (Nat.le_refl _) (by unfold maxLen; omega) rfl)
    go_enter Try.func80, Try.ntmps80
    go_wp2_with (at_builtin; refine append_sl (by rfl) _ _ (by rfl) w.heap.size _ [] (by rfl) (unhide HO) _ _ ds (by rfl) ((unhide HS).after (unhide HB)) (by have := unhide HL; simp; omega) (by simp) ?_; intro v' w2 hown' hb2; have HB2 := hide ((unhide HB).trans hb2); have HO2 := hide hown'; clear hb2 hown')
    rw [List.nil_append] at HO2
    obtain ⟨r, cap', rfl, hcap, hsl, hfr⟩ := own_slF rfl (unhide HO2)
    have HSL := hide hsl
    have HCAP := hide hcap
    have HFR := hide hfr
    clear hsl hcap hfr
    go_wp2_with fail
    go_ret
    exact ⟨r, cap', rfl, unhide HCAP, unhide HSL, unhide HB2, unhide HFR⟩

set_option maxRecDepth 100000 in
set_option maxHeartbeats 400000 in
theorem live1_any (v : Vc.V) (q : Option Addr) (d : Nat) (w : World) :
    Calls Try.prog 55 #[.agg (verL v q d).toArray] w fun e w' => e = .returned (.bool v.dead) ∧ Below w.heap.size w w' := by
  have HB := hide (below_alloc1 (w := w) (.cells (verL v q d).toArray 65))
  have a3 := (VRow.new w 65 (verL v q d)).cell 3 _ rfl
  unfold verL at *
  go_enter Try.func55, Try.ntmps55
  go_wp2_with fail
  go_ret
  exact ⟨rfl, unhide HB⟩
/-- What is left: a row of the call's own. -/
def Left (O : Nat → Prop) (w : World) (vs : List Vc.V) (e : Ending) (w' : World) : Prop := ∃ l, e = .returned l ∧ OV O w' w.heap.size l vs ∧ Below w.heap.size w w'
theorem Left.made {O : Nat → Prop} {w w' : World} {vs : List Vc.V} {e : Ending} (hO : ∀ g, w.heap.size ≤ g → O g) (h : Left O w vs e w') : MadeV O w vs e w' := by
  obtain ⟨l, rfl, h1, h2⟩ := h
  obtain ⟨r, c, rfl, hc, hs, hp⟩ := h1.sv
  exact ⟨r, c, rfl, hc, hs, hp hO, h2⟩

set_option maxRecDepth 100000 in
set_option maxHeartbeats 1000000 in
theorem without53_any (O : Nat → Prop) (F : Vc.V → Bool) (a : Option Addr) (cap : Nat) (vs : List Vc.V) (hl : vs.length ≤ 100000) (hp : ∀ v ∈ vs, v.past.length ≤ 100000) (w : World) (hO : ∀ g, w.heap.size ≤ g → O g) (h : SV w a vs)
    (KF : ∀ W, Below w.heap.size w W → ∀ v r c, Calls Try.prog 55 #[.agg (verL v r c).toArray] W fun e w' => e = .returned (.bool (F v)) ∧ Below W.heap.size W w') :
    Calls Try.prog 54 #[.slice a vs.length cap, .func (.func 55) #[] #[]] w (Left O w (vs.filter fun v => !F v)) := by
  have HS := hide h
  have HOO := hide hO
  have KFF := hide KF
  have HPP := hide hp
  obtain ⟨G, hG⟩ : ∃ G : Vc.V → Bool, (fun v => !F v) = G := ⟨_, rfl⟩
  have HG0 : Hid (∀ v, G v = !F v) := hide (fun v => by rw [← hG])
  rw [hG]
  clear h hO KF hp hG
  go_enter Try.func54, Try.ntmps54
  go_wp2_with fail
  go_loopw [5, 10] (fun l i wr => ∃ (k : Nat), k ≤ vs.length ∧ i = .int .i64 k ∧ OV O wr w.heap.size l ((vs.take k).filter G) ∧ Below w.heap.size w wr) (fun _ i _ => vs.length - (intOf i).toNat)
  case atStart => exact ⟨0, Nat.zero_le _, rfl, OV.nil _ _ _, Below.refl _ _⟩
  case round =>
    obtain ⟨k, hk, rfl, hov, hb⟩ := hrel
    have HO := hide hov
    have HB := hide hb
    have S := (unhide HS).after hb
    have HSZ := hide hb.size
    have HFL0 := hide (show ((vs.take k).filter G).length ≤ 100000 from Nat.le_trans (List.length_filter_le _ _) (by rw [List.length_take]; omega))
    by_cases hlt : k < vs.length
    · obtain ⟨v, hx⟩ : ∃ d, vs[k]? = some d := ⟨_, List.getElem?_eq_getElem hlt⟩
      obtain ⟨g, o, rfl, hg, hcell⟩ := S (by omega)
      obtain ⟨q, d, x0, x1, x2, x3, x4, h5, h6⟩ := hcell k v hx
      have HFL := hide (show (vs.take (k + 1)).filter G = ((vs.take k).filter G) ++ ([v].filter G) by rw [take_snocA hx, List.filter_append])
      generalize ((vs.take k).filter G) = L at HO HFL HFL0
      have H6 := hide h6
      have HPL := hide (unhide HPP v (List.mem_of_getElem? hx))
      clear hx hcell hg h5 h6 hov hb
      go_wp2_with (refine store_row (by rfl) 65 _ _ (by rfl) wr.heap.size (verL v q d) (by rfl) (by rfl) 65 zero65 (VRow.newAt rfl) 5 size65 rfl rfl (verL_one _ _ _) ?_; intro wz ho hr; have HZ := hide ((below_alloc' (w := wr) (.cells zero65.toArray 65)).trans (ho.below (Nat.le_refl _))); have RZ := hide hr; clear ho hr x0 x1 x2 x3 x4; have z0 := (unhide RZ).cell 0 _ rfl; have z1 := (unhide RZ).cell 1 _ rfl; have z2 := (unhide RZ).cell 2 _ rfl; have z3 := (unhide RZ).cell 3 _ rfl; have z4 := (unhide RZ).cell 4 _ rfl)
      refine (unhide KFF _ (below_grow (unhide HB) (Nat.le_refl _) (unhide HZ)) v q d).mono ?_
      rintro e w2 ⟨rfl, hb2⟩
      have RZ2 := hide ((unhide RZ).after hb2)
      have HZ2 := hide (below_grow (unhide HZ) (Nat.le_refl _) hb2)
      have H62 := hide ((unhide H6).after (unhide HZ2))
      clear hb2 z0 z1 z2 z3 z4 RZ HZ H6
      cases hFv : F v with
      | true =>
        rw [show [v].filter G = [] by simp [unhide HG0, hFv], List.append_nil] at HFL
        go_wp2_with fail
        go_roundw
        case rel => exact ⟨k + 1, by omega, by go_num, by rw [unhide HFL]; exact (unhide HO).after (unhide HZ2), below_grow (unhide HB) (Nat.le_refl _) (unhide HZ2)⟩
        case measure => simp [intOf]; omega
      | false =>
        rw [show [v].filter G = [v] by simp [unhide HG0, hFv]] at HFL
        have KC := hide (cloneD_any q d v.past (unhide HPL) w2 (unhide H62))
        have z2 := (unhide RZ2).cell 2 _ rfl
        go_wp2_with fail
        refine (unhide KC).mono ?_
        rintro e wc ⟨r3, c3, rfl, hc3, hs3, hb3, hf3⟩
        have RZc := hide ((unhide RZ2).after hb3)
        have HDlt := hide ((unhide RZ2).lt)
        have HZc := hide (below_grow (unhide HZ2) (Nat.le_refl _) hb3)
        have RW := (unhide RZc).set 2 (.slice r3 v.past.length c3)
        have HSW := hide (hs3.onlyNe (only_set wc wr.heap.size 2 (.slice r3 v.past.length c3)) (fun ad e h0 => by have h1 := hf3 ad e h0; have h2 := unhide HDlt; omega))
        have HBW := hide (below_set (unhide HZc) (Nat.le_refl _) 2 (.slice r3 v.past.length c3))
        have HROW := hide (VRow.newAt (W := wc.setCell ⟨wr.heap.size, 2, none⟩ (.slice r3 v.past.length c3)) (T := 65) (n := wc.heap.size) (vs := verL v r3 c3) (by simp))
        have HAP : Hid (Apart O u5.ownBlock r3 v.past) := hide (fun ad e h0 => by
          have h1 := hf3 ad e h0
          have h2 := unhide HDlt
          refine ⟨fun e' => ?_, unhide HOO _ (by have := unhide HSZ; omega)⟩
          have := ((unhide HO).lt _ e'.symm).2
          omega)
        have HC3 := hide hc3
        have HLW : Hid (w.heap.size ≤ wc.heap.size) := hide (Nat.le_trans (unhide HSZ) (unhide HZc).size)
        clear hb3 hs3 hf3 hc3 z2 KC
        have y2 := (unhide RZc).cell 2 _ rfl
        have f2 := (unhide RZc).frozen 2
        have t0 := RW.cell 0 _ rfl
        have t1 := RW.cell 1 _ rfl
        have t2 := RW.cell 2 _ rfl
        have t3 := RW.cell 3 _ rfl
        have t4 := RW.cell 4 _ rfl
        clear RW
        go_wp2_with (at_builtin; refine append_sv (by rfl) _ _ (by rfl) w.heap.size _ L (by rfl) ((unhide HO).after (keep_alloc' (unhide HBW) (.cells (verL v r3 c3).toArray 65))) _ _ [v] (by rfl) (one_svn (unhide HROW) (unhide HC3) ((unhide HSW).after (below_alloc' _)) (unhide HAP)) (by have := unhide HFL0; simp; omega) (by have := unhide HLW; simp; omega) ?_; intro v9 w9 hown9 hb9 _ _; have HO9 := hide hown9; have HB9 := hide ((below_grow (unhide HB) (Nat.le_refl _) (keep_alloc' (unhide HBW) (.cells (verL v r3 c3).toArray 65))).trans hb9); clear hown9 hb9)
        go_roundw
        case rel => exact ⟨k + 1, by omega, by go_num, by rw [unhide HFL]; exact unhide HO9, unhide HB9⟩
        case measure => simp [intOf]; omega
    · obtain rfl : k = vs.length := by omega
      rw [List.take_length] at HO
      clear hov
      go_wp2_with fail
      go_ret
      exact ⟨u5, rfl, unhide HO, unhide HB⟩

set_option maxRecDepth 100000 in
set_option maxHeartbeats 400000 in
theorem live_any (O : Nat → Prop) (a : Option Addr) (cap : Nat) (vs : List Vc.V) (hl : vs.length ≤ 100000) (hp : ∀ v ∈ vs, v.past.length ≤ 100000) (w : World) (hO : ∀ g, w.heap.size ≤ g → O g) (h : SV w a vs) :
    Calls Try.prog 29 #[.slice a vs.length cap] w (MadeV O w (Vc.live vs)) := by
  have K := hide (without53_any O (fun v => v.dead) a cap vs hl hp w hO h (fun W _ v r c => live1_any v r c W))
  rw [show (vs.filter fun v => !v.dead) = Vc.live vs from rfl] at K
  generalize Vc.live vs = L at K ⊢
  have HO := hide hO
  clear h hp hO
  go_enter Try.func29, Try.ntmps29
  go_wp2_with fail
  refine (unhide K).mono ?_
  rintro e w1 hm
  obtain ⟨r, c, rfl, hc, hs, hpr, hb⟩ := Left.made (unhide HO) hm
  have H1 := hide hc
  have H2 := hide hs
  have H3 := hide hpr
  have H4 := hide hb
  clear hm hc hs hpr hb
  go_wp2_with fail
  go_ret
  exact ⟨r, c, rfl, unhide H1, unhide H2, unhide H3, unhide H4⟩

end Go.Proofs.Ythchcjjpplcfnaa
