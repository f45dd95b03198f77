/-
  The program's matrix: New, Peers, has, Clone, Row, Rows, and what none answers of them.
-/
import Derived.Test.YtbgpdiinkkgieaaMatR
import Derived.Test.YtbgpdiinkkgieaaUno
import Derived.Test.YtbgpdiinkkgieaaMeet
import Derived.Maps.AppendAt
namespace Go.Proofs.Ytbgpdiinkkgieaa
open Go.RowKit

theorem make_ps (n : Nat) (hn : n ≤ 64) (w : World) : ∃ wm, (Instr.makeSlice 30 (.int .i64 n) (.int .i64 n)).run Try.prog w = .ok (.slice (some ⟨w.heap.size, 0, none⟩) n n) wm ∧ VRow wm w.heap.size 32 (flatR (List.replicate n ([], none, 0))) ∧ Below w.heap.size w wm := by
  obtain ⟨i0, hi, hz0, hz1, hz2⟩ := info_parts info32
  have hr := run_make (P := Try.prog) w 30 32 i0 (.slice none 0 0) Try.underlying30 hi hz0 .i64 .i64 n n (by omega) (by omega) (by rw [hz2]; omega) (by omega)
  rw [hz1] at hr
  simp only [Int.toNat_natCast, Nat.mul_one] at hr
  refine ⟨_, hr, ?_, below_alloc' _⟩
  have e : madeCells (Value.slice none 0 0).cells n = (flatR (List.replicate n ([], none, 0))).toArray := by
    apply Array.ext'
    apply List.ext_getElem (by simp [madeCells, flatR])
    intro j h1 h2
    simp [madeCells, flatR, Value.cells, Nat.mod_one]
  rw [e]
  exact VRow.new _ _ _

set_option maxRecDepth 100000 in
set_option maxHeartbeats 800000 in
theorem new_any (n : Nat) (w : World) (h1 : 0 < n) (h64 : n ≤ 64) : Calls Try.prog 8 #[.int .i64 n] w fun e w' => ∃ p own, e = .returned (.pointer (some p)) ∧ MatR w' p (List.replicate n []) own ∧ (∀ g, own g → w.heap.size ≤ g) ∧ Below w.heap.size w w' := by
  obtain ⟨wm, hmk, hrm, hbm⟩ := make_ps n h64 w
  have d1 : decide ((n : Int) < 1) = false := decide_eq_false (by omega)
  have d2 : decide (64 < (n : Int)) = false := decide_eq_false (by omega)
  have HR := hide hrm
  have HB := hide hbm
  clear hrm hbm
  go_enter Try.func8, Try.ntmps8
  go_wp2_with fail
  go_ret
  have hlt := (unhide HR).lt
  have hnew := VRow.new wm 53 [.slice (some ⟨w.heap.size, 0, none⟩) n n]
  refine ⟨⟨wm.heap.size, 0, none⟩, fun k => k = w.heap.size ∨ k = wm.heap.size, rfl, ⟨wm.heap.size, w.heap.size, n, List.replicate n ([], none, 0), ⟨rfl, by simp, ?_, by simp, (unhide HR).alloc _, fun x hx => ?_, .inr rfl, .inl rfl, by omega, fun x hx => ?_, vecs_none n, by simpa using h1, by simpa using h64⟩⟩, fun g hg => by omega, below_grow (unhide HB) (Nat.le_refl _) (below_alloc' _)⟩
  · rw [List.length_replicate]; exact hnew.cell 0 _ rfl
  · rw [(List.mem_replicate.1 hx).2]
    exact ⟨Nat.le_refl _, Sl.none _ _, fun _ e => by cases e⟩
  · have := hnew.lt; rcases hx with rfl | rfl <;> omega

set_option maxRecDepth 100000 in
theorem newNil_any (n : Int) (w : World) (h : n < 1 ∨ 64 < n) : Calls Try.prog 8 #[.int .i64 n] w fun e w' => e = .returned (.pointer none) ∧ Below w.heap.size w w' := by
  by_cases h1 : n < 1
  · have d1 : decide (n < 1) = true := decide_eq_true h1
    go_enter Try.func8, Try.ntmps8
    go_wp2_with fail
    go_ret
    exact ⟨rfl, Below.refl _ _⟩
  · have d1 : decide (n < 1) = false := decide_eq_false h1
    have d2 : decide (64 < n) = true := decide_eq_true (by omega)
    clear h
    go_enter Try.func8, Try.ntmps8
    go_wp2_with fail
    go_ret
    exact ⟨rfl, Below.refl _ _⟩

set_option maxRecDepth 100000 in
theorem peers_still {w : World} {p : Addr} {rows : List (List Vc.D)} {own : Nat → Prop} (h : MatR w p rows own) : Calls Try.prog 9 #[.pointer (some p)] w fun e w' => e = .returned (.int .i64 rows.length) ∧ w' = w := by
  obtain ⟨b, g, cap, ps, h⟩ := h
  obtain rfl := h.at0
  have x0 := h.head
  clear h
  go_enter Try.func9, Try.ntmps9
  go_wp2_with fail
  go_ret
  exact ⟨rfl, rfl⟩
theorem peers_any {w : World} {p : Addr} {rows : List (List Vc.D)} {own : Nat → Prop} (h : MatR w p rows own) : Calls Try.prog 9 #[.pointer (some p)] w fun e w' => e = .returned (.int .i64 rows.length) ∧ Below w.heap.size w w' :=
  (peers_still h).mono fun _ _ ⟨h1, h2⟩ => ⟨h1, by rw [h2]; exact Below.refl _ _⟩

set_option maxRecDepth 100000 in
theorem nPeers_still (w : World) : Calls Try.prog 9 #[.pointer none] w fun e w' => e = .returned (.int .i64 0) ∧ w' = w := by
  go_enter Try.func9, Try.ntmps9
  go_wp2_with fail
  go_ret
  exact ⟨rfl, rfl⟩
theorem nPeers_any (w : World) : Calls Try.prog 9 #[.pointer none] w fun e w' => e = .returned (.int .i64 0) ∧ Below w.heap.size w w' :=
  (nPeers_still w).mono fun _ _ ⟨h1, h2⟩ => ⟨h1, by rw [h2]; exact Below.refl _ _⟩

/-- Whether there is a peer, of so many. -/
def inR (n : Nat) (q : Int) : Bool := decide (0 ≤ q) && decide (q < (n : Int))
theorem inR_iff {n : Nat} {q : Int} : inR n q = true ↔ 0 ≤ q ∧ q < n := by simp [inR]

set_option maxRecDepth 100000 in
set_option maxHeartbeats 400000 in
theorem hasM_any {w : World} {p : Addr} {rows : List (List Vc.D)} {own : Nat → Prop} (h : MatR w p rows own) (q : Int) : Calls Try.prog 31 #[.pointer (some p), .int .i64 q] w fun e w' => e = .returned (.bool (inR rows.length q)) ∧ w' = w := by
  have K := hide (peers_still h)
  clear h
  obtain ⟨R, hR⟩ : ∃ R, inR rows.length q = R := ⟨_, rfl⟩
  rw [hR]
  unfold inR at hR
  by_cases h0 : 0 ≤ q
  · have d0 : decide (0 ≤ q) = true := decide_eq_true h0
    rw [d0, Bool.true_and] at hR
    have HR := hide hR
    clear hR
    go_enter Try.func31, Try.ntmps31
    go_wp2_with fail
    refine (unhide K).mono ?_
    rintro e w1 ⟨rfl, rfl⟩
    clear K
    go_wp2_with fail
    go_ret
    exact ⟨ret_bool (unhide HR), rfl⟩
  · have d0 : decide (0 ≤ q) = false := decide_eq_false h0
    rw [d0, Bool.false_and] at hR
    subst hR
    go_enter Try.func31, Try.ntmps31
    go_wp2_with fail
    go_ret
    exact ⟨rfl, rfl⟩

set_option maxRecDepth 100000 in
set_option maxHeartbeats 400000 in
theorem nHas_any (w : World) (q : Int) : Calls Try.prog 31 #[.pointer none, .int .i64 q] w fun e w' => e = .returned (.bool false) ∧ w' = w := by
  by_cases h0 : 0 ≤ q
  · have d0 : decide (0 ≤ q) = true := decide_eq_true h0
    have d1 : decide (q < 0) = false := decide_eq_false (by omega)
    go_enter Try.func31, Try.ntmps31
    go_wp2_with fail
    refine (nPeers_still _).mono ?_
    rintro e w1 ⟨rfl, rfl⟩
    go_wp2_with fail
    go_ret
    exact ⟨rfl, rfl⟩
  · have d0 : decide (0 ≤ q) = false := decide_eq_false h0
    go_enter Try.func31, Try.ntmps31
    go_wp2_with fail
    go_ret
    exact ⟨rfl, rfl⟩

set_option maxRecDepth 100000 in
theorem nRow_any (i : Int) (w : World) : Calls Try.prog 21 #[.pointer none, .int .i64 i] w (Made w []) := by
  go_enter Try.func21, Try.ntmps21
  go_wp2_with fail
  refine (nHas_any _ _).mono ?_
  rintro e w1 ⟨rfl, rfl⟩
  go_wp2_with fail
  go_ret
  exact ⟨none, 0, rfl, Nat.le_refl _, Sl.none _ _, Below.refl _ _⟩

def MadeF (w : World) (ds : List Vc.D) (e : Ending) (w' : World) : Prop := ∃ r cap, e = .returned (.slice r ds.length cap) ∧ ds.length ≤ cap ∧ Sl w' r ds ∧ Below w.heap.size w w' ∧ Fresh w.heap.size r ds
theorem run_append_none {w : World} (base : Nat) (t ty e : TypeId) (i : TypeInfo) (size : Nat) (ht : Try.prog.underlying t = some (.slice e)) (hi : Try.prog.info? e = some i)
    (v : Value) (n : Nat) (xs : List Value) (hown : w.ownsRow base e size v n xs) (c : Nat) :
    (Builtin.append_ #[t, t] ty #[v, .slice none 0 c]).run Try.prog w = .ok v w := by
  rcases hown.2 with ⟨rfl, rfl⟩ | ⟨g, cap, cur, rfl, _, _, hnc, _⟩
  · simp [Builtin.append_, run_underlying ht, sizeOf, typeInfo, hi, Builtin.lenOf, Builtin.firstCells]
  · simp [Builtin.append_, run_underlying ht, sizeOf, typeInfo, hi, Builtin.lenOf, Builtin.firstCells, hnc, storeCells]
/-- A list of dots appended to one of the call's own. -/
theorem append_sl {w : World} {ops : Array Oper} {rest : List Oper} {o : Oper} {a : Act} {Q : Exit → Act → World → Prop} (hgd : o.guard = none) (s x : Operand)
    (ho : o.op = .call { callee := .builtin .append, args := #[s, x], argTypes := #[32, 32] }) (base : Nat) (v : Value) (ds : List Vc.D) (hs : a.eval s = v) (hown : w.ownsRow base 24 2 v ds.length (flat ds))
    (r : Option Addr) (c : Nat) (xs : List Vc.D) (hx : a.eval x = .slice r xs.length c) (hsl : Sl w r xs) (hn : ds.length + xs.length ≤ 200000) (hbase : base ≤ w.heap.size)
    (h : ∀ v' w', w'.ownsRow base 24 2 v' (ds ++ xs).length (flat (ds ++ xs)) → Below base w w' → wpList Try.prog ops Q rest (a.put o.dst v') w') : wpList Try.prog ops Q (o :: rest) a w := by
  obtain ⟨i0, hi, hz0, hz1, hz2⟩ := info_parts info24
  cases r with
  | none =>
    have hxs : xs = [] := by
      cases xs with
      | nil => rfl
      | cons d l => obtain ⟨g, o, e, _⟩ := hsl (by simp); cases e
    subst hxs
    refine wpList_plain hgd fun K hK => ?_
    have hrun := run_append_none (w := w) base 32 o.type 24 i0 2 Try.underlying32 hi v ds.length (flat ds) hown c
    unfold Oper.wp
    simp only [List.length_nil] at hx
    simp [execOp, ho, resolve, invoke, builtin, hs, hx, hrun, Result.andThen]
    refine hK _ _ (h v w ?_ (Below.refl _ _))
    rw [List.append_nil]
    exact hown
  | some ad =>
    refine wpList_append_own w hgd s x 32 ho base 24 i0 _ 2 16 Try.underlying32 hi hz0 hz1 hz2 rfl (by decide) v ds.length (flat ds) hs hown ad xs.length c (flat xs) hx (flat_len xs) ?_ (flat_one xs) (by unfold maxLen; omega) (by omega) hbase ?_
    · cases xs with
      | nil => intro j u hu; simp [flat] at hu
      | cons d l =>
        obtain ⟨g, o, e, _, hc⟩ := hsl (by simp)
        injection e with e
        subst e
        exact sl_cells hc
    · intro v' w' h1 h2 _
      refine h v' w' ?_ (grown_below hown h2 hbase)
      rw [List.length_append, flat_append]
      exact h1

set_option maxRecDepth 100000 in
set_option maxHeartbeats 400000 in
theorem clone_any (a : Option Addr) (cap : Nat) (ds : List Vc.D) (hl : ds.length ≤ 100000) (w : World) (h : Sl w a ds) : Calls Try.prog 32 #[.slice a ds.length cap] w (MadeF w ds) := by
  have HS := hide h
  have HL := hide hl
  have q32 : ∀ (w : World) (a : Option Addr) (n c n' c' : Nat), (binOp .eql 32 (.slice a n c) (.slice none n' c')).run Try.prog w = .ok (.bool a.isNone) w := fun w a n c n' c' => Lib.run_eql_slice_nil w _ _ a n c n' c' Try.underlying32
  clear h hl
  cases a with
  | none =>
    have hxs : ds = [] := by
      cases ds with
      | nil => rfl
      | cons d l => obtain ⟨g, o, e, _⟩ := unhide HS (by simp); cases e
    subst hxs
    go_enter Try.func32, Try.ntmps32
    go_wp2_with fail
    go_ret
    exact ⟨none, 0, rfl, Nat.le_refl _, Sl.none _ _, Below.refl _ _, fun _ e => by cases e⟩
  | some ad =>
    have HB := hide (below_alloc' (w := w) (.cells #[] 24))
    have HO := hide (World.ownsRow_lit (base := w.heap.size) (e := 24) (size := 2) w #[] 0 (Nat.le_refl _) (by unfold maxLen; omega) rfl)
    go_enter Try.func32, Try.ntmps32
    go_wp2_with (at_builtin; refine append_sl (by rfl) _ _ (by rfl) w.heap.size _ [] (by rfl) (unhide HO) _ _ ds (by rfl) ((unhide HS).after (unhide HB)) (by have := unhide HL; simp; omega) (by simp) ?_; intro v' w2 hown' hb2; have HB2 := hide ((unhide HB).trans hb2); have HO2 := hide hown'; clear hb2 hown')
    rw [List.nil_append] at HO2
    obtain ⟨r, cap', rfl, hcap, hsl, hfr⟩ := own_slF rfl (unhide HO2)
    have HSL := hide hsl
    have HCAP := hide hcap
    have HFR := hide hfr
    clear hsl hcap hfr
    go_wp2_with fail
    go_ret
    exact ⟨r, cap', rfl, unhide HCAP, unhide HSL, unhide HB2, unhide HFR⟩

set_option maxRecDepth 100000 in
set_option maxHeartbeats 800000 in
theorem row_fresh {w : World} {p : Addr} {rows : List (List Vc.D)} {own : Nat → Prop} (h : MatR w p rows own) (i : Nat) (hi : i < rows.length) : Calls Try.prog 21 #[.pointer (some p), .int .i64 i] w (MadeF w (rows[i]?.getD [])) := by
  have KH := hide (hasM_any h (i : Int))
  rw [show inR rows.length (i : Int) = true from inR_iff.2 ⟨by omega, by omega⟩] at KH
  obtain ⟨b, g, cap, ps, h⟩ := h
  obtain rfl := h.at0
  have x0 := h.head
  obtain ⟨r, c, x1, hc, hs, hl⟩ := h.cell hi
  have KJ := hide (clone_any r c (rows[i]?.getD []) (by omega) w hs)
  generalize rows[i]?.getD [] = D at *
  have hiz : (i : Int) < (rows.length : Int) := by omega
  clear h hs hc hl
  go_enter Try.func21, Try.ntmps21
  go_wp2_with fail
  refine (unhide KH).mono ?_
  rintro e w1 ⟨rfl, rfl⟩
  go_wp2_with fail
  refine (unhide KJ).mono ?_
  rintro e w2 ⟨r1, c1, rfl, hc1, hs1, hb, hf⟩
  have HE : Hid (MadeF w1 D (.returned (.slice r1 D.length c1)) w2) := hide ⟨r1, c1, rfl, hc1, hs1, hb, hf⟩
  clear hc1 hs1 hb hf
  go_wp2_with fail
  go_ret
  exact unhide HE
theorem row_any {w : World} {p : Addr} {rows : List (List Vc.D)} {own : Nat → Prop} (h : MatR w p rows own) (i : Nat) (hi : i < rows.length) : Calls Try.prog 21 #[.pointer (some p), .int .i64 i] w (Made w (rows[i]?.getD [])) :=
  (row_fresh h i hi).mono fun _ _ ⟨r, c, h1, h2, h3, h4, _⟩ => ⟨r, c, h1, h2, h3, h4⟩
end Go.Proofs.Ytbgpdiinkkgieaa
