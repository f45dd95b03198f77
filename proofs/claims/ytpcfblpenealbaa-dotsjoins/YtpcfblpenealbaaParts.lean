/-
  Small parts: Ahead, checkDot, whether a dot is in a list; a list appended to one of the call's own; Clone.
-/
import Derived.Test.YtpcfblpenealbaaCmp
import Derived.Test.YtpcfblpenealbaaRefJoin
import Derived.Test.YtpcfblpenealbaaSize
import Derived.Lib.SliceRun
namespace Go.Proofs.Ytpcfblpenealbaa
open Go.RowKit

theorem below_alloc' {w : World} (o : Obj) : Below w.heap.size w (w.alloc o) := (Below.refl _ _).alloc (Nat.le_refl _) o

set_option maxRecDepth 100000 in
set_option maxHeartbeats 400000 in
theorem ahead_any (p c p' c' : Int) (w : World) :
    Calls Try.prog 33 #[.agg #[.int .i64 p, .int .i64 c], .agg #[.int .i64 p', .int .i64 c']] w fun e w' => e = .returned (.bool (decide (Vc.Ah (p, c) (p', c')))) ∧ Below w.heap.size w w' := by
  have HB0 := hide (((Below.refl w.heap.size w).alloc (Nat.le_refl _) (.cells #[.int .i64 p, .int .i64 c] 26)).alloc (by simp) (.cells #[.int .i64 p', .int .i64 c'] 26))
  obtain ⟨R, hR⟩ : ∃ R, decide (Vc.Ah (p, c) (p', c')) = R := ⟨_, rfl⟩
  rw [hR]
  have hR' : R = (decide (p < p') || (decide (p = p') && decide (c < c'))) := by
    rw [← hR, Bool.eq_iff_iff, decide_eq_true_iff]
    simp [Vc.Ah]
  clear hR
  by_cases h1 : p < p'
  · have d1 : decide (p < p') = true := decide_eq_true h1
    rw [d1, Bool.true_or] at hR'
    subst hR'
    go_enter Try.func33, Try.ntmps33
    go_wp2
    go_ret
    exact ⟨rfl, unhide HB0⟩
  · have d1 : decide (p < p') = false := decide_eq_false h1
    by_cases h2 : p = p'
    · subst h2
      rw [d1, Bool.false_or, decide_eq_true rfl, Bool.true_and] at hR'
      subst hR'
      go_enter Try.func33, Try.ntmps33
      go_wp2
      go_ret
      exact ⟨rfl, unhide HB0⟩
    · have d2 : decide (p = p') = false := decide_eq_false h2
      have d3 : (p == p') = false := beq_eq_false_iff_ne.2 h2
      rw [d1, Bool.false_or, d2, Bool.false_and] at hR'
      subst hR'
      go_enter Try.func33, Try.ntmps33
      go_wp2
      go_ret
      exact ⟨rfl, unhide HB0⟩

theorem check_one (d : Vc.D) : Vc.check [d] = Vc.dotErr d := by
  unfold Vc.check Vc.chk
  by_cases h : Vc.dotErr d = 0
  · rw [if_neg (by simpa using h), h]
    have := (Vc.dotErr_zero d).1 h
    unfold Vc.Ok at this
    rw [if_neg (by omega)]
    rfl
  · rw [if_pos (by simpa using h)]

set_option maxRecDepth 100000 in
set_option maxHeartbeats 400000 in
theorem checkDot_any (p c : Int) (w : World) :
    Calls Try.prog 29 #[.agg #[.int .i64 p, .int .i64 c]] w fun e w' => e = .returned (.int .i64 (Vc.dotErr (p, c))) ∧ Below w.heap.size w w' := by
  have HB0 := hide (((Below.refl w.heap.size w).alloc (Nat.le_refl _) (.cells #[.int .i64 p, .int .i64 c] 26)).alloc (by simp) (.cells #[.int .i64 p, .int .i64 c] 26))
  have HS := hide (one_sl1 (w.alloc (.cells #[.int .i64 p, .int .i64 c] 26)) p c)
  have K := hide fun a W h => check_any a 1 [(p, c)] (by simp) W h
  rw [check_one] at K
  rw [World.size_alloc] at HS
  generalize Vc.dotErr (p, c) = R at *
  go_enter Try.func29, Try.ntmps29
  go_wp2_with fail
  refine (unhide K _ _ (unhide HS)).mono ?_
  rintro e w1 ⟨rfl, hb⟩
  have HB1 := hide (below_grow (unhide HB0) (by simp) hb)
  clear hb
  go_wp2_with fail
  go_ret
  exact ⟨rfl, unhide HB1⟩

set_option maxRecDepth 100000 in
set_option maxHeartbeats 400000 in
theorem in_any (a : Option Addr) (cap : Nat) (ds : List Vc.D) (hl : ds.length ≤ 100000) (p c : Int) (w : World) (h : Sl w a ds) (D : Bool) (hD : D = true ↔ (p, c) ∈ ds) :
    Calls Try.prog 38 #[.slice a ds.length cap, .agg #[.int .i64 p, .int .i64 c]] w fun e w' => e = .returned (.bool D) ∧ Below w.heap.size w w' := by
  have HB0 := hide ((Below.refl w.heap.size w).alloc (Nat.le_refl _) (.cells #[.int .i64 p, .int .i64 c] 26))
  have HS := hide (h.after (unhide HB0))
  have HD := hide hD
  have n0 := new0 w (.int .i64 p) (.int .i64 c) 26
  have n1 := new1 w (.int .i64 p) (.int .i64 c) 26
  clear h hD
  go_enter Try.func38, Try.ntmps38
  go_wp2_with fail
  generalize w.alloc (.cells #[.int .i64 p, .int .i64 c] 26) = w1 at HB0 HS n0 n1 ⊢
  go_loopw [5] (fun i wr => ∃ k q : Nat, k ≤ ds.length ∧ i = .int .i64 k ∧ (∀ j : Nat, j < k → ds[j]? ≠ some (p, c)) ∧ wr = w1.drewN q) (fun i _ => ds.length - (intOf i).toNat)
  case atStart => exact ⟨0, 0, Nat.zero_le _, rfl, fun j hj => absurd hj (Nat.not_lt_zero _), rfl⟩
  case round =>
    obtain ⟨k, q, hk, rfl, hall, rfl⟩ := hrel
    have HALL := hide hall
    clear hall
    by_cases hlt : k < ds.length
    · obtain ⟨⟨p', c'⟩, hx⟩ : ∃ x, ds[k]? = some x := ⟨_, List.getElem?_eq_getElem hlt⟩
      obtain ⟨g1, o1, rfl, _, hc1⟩ := unhide HS (by omega)
      have e1 : w1.cell? ⟨g1, o1 + k * 2, none⟩ = some (.int .i64 p') := (hc1 k _ hx).1
      have e2 : w1.cell? ⟨g1, o1 + k * 2 + 1, none⟩ = some (.int .i64 c') := (hc1 k _ hx).2
      clear hc1
      by_cases hpe : p' = p ∧ c' = c
      · obtain ⟨rfl, rfl⟩ := hpe
        obtain rfl : D = true := (unhide HD).2 (List.mem_of_getElem? hx)
        clear hx
        go_wp2_with fail
        go_quiet (fail)
        go_wp2_with fail
        go_ret
        exact ⟨rfl, below_drewN (below_drewN (unhide HB0) _) _⟩
      · have HALL2 : Hid (∀ j : Nat, j < k + 1 → ds[j]? ≠ some (p, c)) := by
          intro j hj
          by_cases e : j = k
          · subst e
            rw [hx]
            intro e
            injection e with e
            injection e with e e'
            exact hpe ⟨e, e'⟩
          · exact unhide HALL j (by omega)
        clear hx
        by_cases hp : p' = p
        · subst hp
          have hc : c' ≠ c := fun e => hpe ⟨rfl, e⟩
          clear hpe
          go_wp2_with fail
          go_quiet (fail)
          go_wp2_with fail
          go_roundw
          case rel => exact ⟨k + 1, _, by omega, by go_num, unhide HALL2, rfl⟩
          case measure => simp [intOf]; omega
        · clear hpe
          go_wp2_with fail
          go_quiet (fail)
          go_wp2_with fail
          go_roundw
          case rel => exact ⟨k + 1, _, by omega, by go_num, unhide HALL2, rfl⟩
          case measure => simp [intOf]; omega
    · obtain rfl : D = false := by
        cases D with
        | false => rfl
        | true =>
          exfalso
          obtain ⟨j, hj⟩ := List.getElem?_of_mem ((unhide HD).1 rfl)
          exact unhide HALL j (by have := (List.getElem?_eq_some_iff.1 hj).1; omega) hj
      go_wp2_with fail
      go_ret
      exact ⟨rfl, below_drewN (unhide HB0) _⟩

theorem flat_one : ∀ (l : List Vc.D), ∀ v ∈ flat l, v.oneCell' = true
  | [], _, h => by cases h
  | d :: l, v, h => by
    rcases List.mem_cons.1 h with rfl | h
    · rfl
    · rcases List.mem_cons.1 h with rfl | h
      · rfl
      · exact flat_one l v h
theorem sl_cells {W : World} {g o : Nat} {ds : List Vc.D} (hc : ∀ (j : Nat) (d : Vc.D), ds[j]? = some d → W.cell? ⟨g, o + j * 2, none⟩ = some (.int .i64 d.1) ∧ W.cell? ⟨g, o + j * 2 + 1, none⟩ = some (.int .i64 d.2)) :
    ∀ j u, (flat ds)[j]? = some u → W.cell? ((⟨g, o, none⟩ : Addr).add j) = some u := by
  intro j u hu
  have hj := (List.getElem?_eq_some_iff.1 hu).1
  rw [flat_len] at hj
  obtain ⟨d, hd⟩ : ∃ d, ds[j / 2]? = some d := ⟨_, List.getElem?_eq_getElem (by omega)⟩
  obtain ⟨f1, f2⟩ := flat_get ds (j / 2) d hd
  obtain ⟨c1, c2⟩ := hc (j / 2) d hd
  rw [show (⟨g, o, none⟩ : Addr).add j = ⟨g, o + j, none⟩ by unfold Addr.add; split <;> simp_all]
  rcases (show j = j / 2 * 2 ∨ j = j / 2 * 2 + 1 by omega) with e | e
  · rw [← e] at f1 c1
    rw [f1] at hu
    rw [c1, hu]
  · rw [← e] at f2
    rw [show o + j / 2 * 2 + 1 = o + j by omega] at c2
    rw [f2] at hu
    rw [c2, hu]
theorem run_append_none {w : World} (base : Nat) (t ty e : TypeId) (i : TypeInfo) (size : Nat) (ht : Try.prog.underlying t = some (.slice e)) (hi : Try.prog.info? e = some i)
    (v : Value) (n : Nat) (xs : List Value) (hown : w.ownsRow base e size v n xs) (c : Nat) :
    (Builtin.append_ #[t, t] ty #[v, .slice none 0 c]).run Try.prog w = .ok v w := by
  rcases hown.2 with ⟨rfl, rfl⟩ | ⟨g, cap, cur, rfl, _, _, hnc, _⟩
  · simp [Builtin.append_, run_underlying ht, sizeOf, typeInfo, hi, Builtin.lenOf, Builtin.firstCells]
  · simp [Builtin.append_, run_underlying ht, sizeOf, typeInfo, hi, Builtin.lenOf, Builtin.firstCells, hnc, storeCells]

/-- A list appended to one of the call's own. -/
theorem append_sl {w : World} {ops : Array Oper} {rest : List Oper} {o : Oper} {a : Act} {Q : Exit → Act → World → Prop} (hgd : o.guard = none) (s x : Operand)
    (ho : o.op = .call { callee := .builtin .append, args := #[s, x], argTypes := #[22, 22] }) (base : Nat) (v : Value) (ds : List Vc.D) (hs : a.eval s = v) (hown : w.ownsRow base 26 2 v ds.length (flat ds))
    (r : Option Addr) (c : Nat) (xs : List Vc.D) (hx : a.eval x = .slice r xs.length c) (hsl : Sl w r xs) (hn : ds.length + xs.length ≤ 200000) (hbase : base ≤ w.heap.size)
    (h : ∀ v' w', w'.ownsRow base 26 2 v' (ds ++ xs).length (flat (ds ++ xs)) → Below base w w' → wpList Try.prog ops Q rest (a.put o.dst v') w') : wpList Try.prog ops Q (o :: rest) a w := by
  obtain ⟨i0, hi, hz0, hz1, hz2⟩ := info_parts info26
  cases r with
  | none =>
    have hxs : xs = [] := by
      cases xs with
      | nil => rfl
      | cons d l => obtain ⟨g, o, e, _⟩ := hsl (by simp); cases e
    subst hxs
    refine wpList_plain hgd fun K hK => ?_
    have hrun := run_append_none (w := w) base 22 o.type 26 i0 2 Try.underlying22 hi v ds.length (flat ds) hown c
    unfold Oper.wp
    simp only [List.length_nil] at hx
    simp [execOp, ho, resolve, invoke, builtin, hs, hx, hrun, Result.andThen]
    refine hK _ _ (h v w ?_ (Below.refl _ _))
    rw [List.append_nil]
    exact hown
  | some ad =>
    refine wpList_append_own w hgd s x 22 ho base 26 i0 _ 2 16 Try.underlying22 hi hz0 hz1 hz2 rfl (by decide) v ds.length (flat ds) hs hown ad xs.length c (flat xs) hx (flat_len xs) ?_ (flat_one xs) (by unfold maxLen; omega) (by omega) hbase ?_
    · cases xs with
      | nil => intro j u hu; simp [flat] at hu
      | cons d l =>
        obtain ⟨g, o, e, _, hc⟩ := hsl (by simp)
        injection e with e
        subst e
        exact sl_cells hc
    · intro v' w' h1 h2 _
      refine h v' w' ?_ (grown_below hown h2 hbase)
      rw [List.length_append, flat_append]
      exact h1

set_option maxRecDepth 100000 in
set_option maxHeartbeats 400000 in
theorem clone_any (a : Option Addr) (cap : Nat) (ds : List Vc.D) (hl : ds.length ≤ 100000) (w : World) (h : Sl w a ds) : Calls Try.prog 42 #[.slice a ds.length cap] w (Made w ds) := by
  have HS := hide h
  have HL := hide hl
  have q22 : ∀ (w : World) (a : Option Addr) (n c n' c' : Nat), (binOp .eql 22 (.slice a n c) (.slice none n' c')).run Try.prog w = .ok (.bool a.isNone) w := fun w a n c n' c' => Lib.run_eql_slice_nil w _ _ a n c n' c' Try.underlying22
  clear h hl
  cases a with
  | none =>
    have hxs : ds = [] := by
      cases ds with
      | nil => rfl
      | cons d l => obtain ⟨g, o, e, _⟩ := unhide HS (by simp); cases e
    subst hxs
    go_enter Try.func42, Try.ntmps42
    go_wp2_with fail
    go_ret
    exact ⟨none, 0, rfl, Nat.le_refl _, Sl.none _ _, Below.refl _ _⟩
  | some ad =>
    have HB := hide (below_alloc' (w := w) (.cells #[] 26))
    have HO := hide (World.ownsRow_lit (base := w.heap.size) (e := 26) (size := 2) w #[] 0 (Nat.le_refl _) (by unfold maxLen; omega) rfl)
    go_enter Try.func42, Try.ntmps42
    go_wp2_with (at_builtin; refine append_sl (by rfl) _ _ (by rfl) w.heap.size _ [] (by rfl) (unhide HO) _ _ ds (by rfl) ((unhide HS).after (unhide HB)) (by have := unhide HL; simp; omega) (by simp) ?_; intro v' w2 hown' hb2; have HB2 := hide ((unhide HB).trans hb2); have HO2 := hide hown'; clear hb2 hown')
    rw [List.nil_append] at HO2
    obtain ⟨r, cap', rfl, hcap, hsl⟩ := own_sl rfl (unhide HO2)
    have HSL := hide hsl
    have HCAP := hide hcap
    clear hsl hcap
    go_wp2_with fail
    go_ret
    exact ⟨r, cap', rfl, unhide HCAP, unhide HSL, unhide HB2⟩
end Go.Proofs.Ytpcfblpenealbaa
