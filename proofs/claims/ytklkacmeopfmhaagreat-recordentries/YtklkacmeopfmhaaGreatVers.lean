/-
  Versions in memory: one by value, one in a block, a slice of them wherever it lies.
-/
import Derived.Test.YtklkacmeopfmhaaGreatHelp
import Derived.Test.YtklkacmeopfmhaaGreatSame
import Derived.Test.YtklkacmeopfmhaaGreatSib
import Derived.Test.YtklkacmeopfmhaaGreatHas
namespace Go.Proofs.YtklkacmeopfmhaaGreat
open Go.RowKit

/-- A version as a value, and its cells. -/
def verL (v : Vc.V) (r : Option Addr) (c : Nat) : List Value := [.int .i64 v.dot.1, .int .i64 v.dot.2, .slice r v.past.length c, .bool v.dead, .string v.data]
/-- A version at a place of memory, its past wherever it lies. -/
def VAt (W : World) (g o : Nat) (v : Vc.V) : Prop :=
  ∃ r c, W.cell? ⟨g, o, none⟩ = some (.int .i64 v.dot.1) ∧ W.cell? ⟨g, o + 1, none⟩ = some (.int .i64 v.dot.2) ∧ W.cell? ⟨g, o + 2, none⟩ = some (.slice r v.past.length c) ∧ W.cell? ⟨g, o + 3, none⟩ = some (.bool v.dead) ∧ W.cell? ⟨g, o + 4, none⟩ = some (.string v.data) ∧ v.past.length ≤ c ∧ Sl W r v.past
theorem VAt.after {W W' : World} {g o : Nat} {v : Vc.V} (h : VAt W g o v) (hg : g < W.heap.size) (hb : Below W.heap.size W W') : VAt W' g o v := by
  obtain ⟨r, c, h0, h1, h2, h3, h4, h5, h6⟩ := h
  refine ⟨r, c, ?_, ?_, ?_, ?_, ?_, h5, h6.after hb⟩
  all_goals rw [hb.cell (by exact hg)]
  all_goals assumption
/-- A slice of versions, wherever it lies; nothing is asked of one that has none. -/
def SV (W : World) (a : Option Addr) (vs : List Vc.V) : Prop :=
  0 < vs.length → ∃ g o, a = some ⟨g, o, none⟩ ∧ g < W.heap.size ∧ ∀ (j : Nat) (v : Vc.V), vs[j]? = some v → VAt W g (o + j * 5) v
theorem SV.after {W W' : World} {a : Option Addr} {vs : List Vc.V} (h : SV W a vs) (hb : Below W.heap.size W W') : SV W' a vs := fun h0 => by
  obtain ⟨g, o, e, hg, hc⟩ := h h0
  exact ⟨g, o, e, Nat.lt_of_lt_of_le hg hb.size, fun j v hj => (hc j v hj).after hg hb⟩
theorem SV.none (W : World) (a : Option Addr) : SV W a [] := fun h => absurd h (Nat.lt_irrefl _)
theorem SV.drewN {W : World} {a : Option Addr} {vs : List Vc.V} (h : SV W a vs) (n : Nat) : SV (W.drewN n) a vs := h
/-- Few enough to be gone through. -/
def Few (vs : List Vc.V) : Prop := vs.length ≤ 100000 ∧ ∀ v ∈ vs, v.past.length ≤ 9223372036854775807
theorem Few.at {vs : List Vc.V} (h : Few vs) {j : Nat} {v : Vc.V} (hj : vs[j]? = some v) : v.past.length ≤ 9223372036854775807 := h.2 v (List.mem_of_getElem? hj)
theorem below_alloc1 {w : World} (o : Obj) : Below w.heap.size w (w.alloc o) := (Below.refl _ _).alloc (Nat.le_refl _) o

set_option maxRecDepth 100000 in
set_option maxHeartbeats 400000 in
theorem refCovers_any (v u : Vc.V) (r q : Option Addr) (c d : Nat) (hl : v.past.length ≤ 9223372036854775807) (w : World) (s : Sl w r v.past) :
    Calls Tryz.prog 87 #[.agg (verL v r c).toArray, .agg (verL u q d).toArray] w fun e w' => e = .returned (.bool (Vc.covers v u)) ∧ Below w.heap.size w w' := by
  have HB := hide ((below_alloc1 (w := w) (.cells (verL v r c).toArray 56)).alloc (by simp) (.cells (verL u q d).toArray 56))
  have RS := (VRow.new w 56 (verL v r c)).alloc (.cells (verL u q d).toArray 56)
  have RT := VRow.newAt (W := w.alloc (.cells (verL v r c).toArray 56)) (T := 56) (n := w.heap.size + 1) (vs := verL u q d) (by simp)
  have K := hide fun W h => refHas_any r c v.past hl u.dot.1 u.dot.2 W h
  have S := hide (s.after (unhide HB))
  have a2 := RS.cell 2 _ rfl
  have b0 := RT.cell 0 _ rfl
  have b1 := RT.cell 1 _ rfl
  rw [show has v.past (u.dot.1, u.dot.2) = Vc.covers v u from rfl] at K
  generalize Vc.covers v u = X at K ⊢
  clear s RS RT
  unfold verL at *
  go_enter Tryz.func87, Tryz.ntmps87
  go_wp2_with fail
  refine (unhide K _ (unhide S)).mono ?_
  rintro e w1 ⟨rfl, hb⟩
  have HB1 := hide (below_grow (unhide HB) (Nat.le_refl _) hb)
  clear hb
  go_wp2_with fail
  go_ret
  exact ⟨rfl, unhide HB1⟩

set_option maxRecDepth 100000 in
set_option maxHeartbeats 1000000 in
theorem refCheckV_any (v : Vc.V) (r : Option Addr) (c : Nat) (hl : v.past.length ≤ 9223372036854775807) (w : World) (s : Sl w r v.past) :
    Calls Tryz.prog 67 #[.agg (verL v r c).toArray] w fun e w' => e = .returned (.int .i64 (Vc.chkV v)) ∧ Below w.heap.size w w' := by
  have HB := hide (below_alloc1 (w := w) (.cells (verL v r c).toArray 56))
  have RS := hide (VRow.new w 56 (verL v r c))
  have KD := hide fun W => refDot_any v.dot.1 v.dot.2 W
  have KC := hide fun W h => refCheck_any r c v.past hl W h
  have KH := hide fun W h => refHas_any r c v.past hl v.dot.1 v.dot.2 W h
  have S := hide (s.after (unhide HB))
  rw [show Vc.dotErr (v.dot.1, v.dot.2) = Vc.dotErr v.dot from rfl] at KD
  rw [show has v.past (v.dot.1, v.dot.2) = Vc.hasV v.past v.dot from rfl] at KH
  obtain ⟨R, hR⟩ : ∃ R, Vc.chkV v = R := ⟨_, rfl⟩
  rw [hR]
  unfold Vc.chkV at hR
  have a0 := (unhide RS).cell 0 _ rfl
  have a1 := (unhide RS).cell 1 _ rfl
  generalize Vc.dotErr v.dot = X at KD hR
  generalize Vc.check v.past = Y at KC hR
  generalize Vc.hasV v.past v.dot = Z at KH hR
  clear s
  unfold verL at *
  go_enter Tryz.func67, Tryz.ntmps67
  go_wp2_with fail
  generalize w.alloc (.cells _ 56) = w0 at HB RS S a0 a1 ⊢
  refine (unhide KD _).mono ?_
  rintro e w1 ⟨rfl, hb⟩
  replace HB := hide (below_grow (unhide HB) (Nat.le_refl _) hb)
  replace RS := hide ((unhide RS).after hb)
  replace S := hide ((unhide S).after hb)
  clear hb a0 a1
  by_cases hX : X = 0
  · subst hX
    rw [if_neg (by simp)] at hR
    have a2 := (unhide RS).cell 2 _ rfl
    go_wp2_with fail
    refine (unhide KC _ (unhide S)).mono ?_
    rintro e w2 ⟨rfl, hb⟩
    replace HB := hide (below_grow (unhide HB) (Nat.le_refl _) hb)
    replace RS := hide ((unhide RS).after hb)
    replace S := hide ((unhide S).after hb)
    clear hb a2
    by_cases hY : Y = 0
    · subst hY
      rw [if_neg (by simp)] at hR
      have a0 := (unhide RS).cell 0 _ rfl
      have a1 := (unhide RS).cell 1 _ rfl
      have a2 := (unhide RS).cell 2 _ rfl
      go_wp2_with fail
      refine (unhide KH _ (unhide S)).mono ?_
      rintro e w3 ⟨rfl, hb⟩
      replace HB := hide (below_grow (unhide HB) (Nat.le_refl _) hb)
      replace RS := hide ((unhide RS).after hb)
      clear hb a0 a1 a2 S
      have a3 := (unhide RS).cell 3 _ rfl
      have a4 := (unhide RS).cell 4 _ rfl
      cases Z with
      | true =>
        rw [if_pos rfl] at hR
        subst hR
        go_wp2_with fail
        go_ret
        exact ⟨rfl, unhide HB⟩
      | false =>
        rw [if_neg (by simp)] at hR
        obtain ⟨n, hn⟩ : ∃ n, v.data.size = n := ⟨_, rfl⟩
        rw [hn] at hR
        by_cases h48 : 48 < n
        · have hd : decide ((48 : Int) < (n : Int)) = true := decide_eq_true (by omega)
          rw [if_pos h48] at hR
          subst hR
          go_wp2_with fail
          go_ret
          exact ⟨rfl, unhide HB⟩
        · have hd : decide ((48 : Int) < (n : Int)) = false := decide_eq_false (by omega)
          rw [if_neg h48] at hR
          generalize v.dead = Q at *
          cases Q with
          | true =>
            by_cases h0 : 0 < n
            · have hd2 : decide ((0 : Int) < (n : Int)) = true := decide_eq_true (by omega)
              rw [if_pos ⟨rfl, h0⟩] at hR
              subst hR
              go_wp2_with fail
              go_ret
              exact ⟨rfl, unhide HB⟩
            · have hd2 : decide ((0 : Int) < (n : Int)) = false := decide_eq_false (by omega)
              rw [if_neg (fun h => h0 h.2)] at hR
              subst hR
              go_wp2_with fail
              go_ret
              exact ⟨rfl, unhide HB⟩
          | false =>
            rw [if_neg (fun h => by cases h.1)] at hR
            subst hR
            go_wp2_with fail
            go_ret
            exact ⟨rfl, unhide HB⟩
    · rw [if_pos hY] at hR
      subst hR
      have hYb : (Y != 0) = true := bne_iff_ne.2 hY
      go_wp2_with fail
      go_ret
      exact ⟨rfl, unhide HB⟩
  · rw [if_pos hX] at hR
    subst hR
    have hXb : (X != 0) = true := bne_iff_ne.2 hX
    have hXc : (X == 0) = false := by simpa using hX
    go_wp2_with fail
    go_ret
    exact ⟨rfl, unhide HB⟩
end Go.Proofs.YtklkacmeopfmhaaGreat
