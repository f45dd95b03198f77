/-
  What Same answers, the program's and the document's, and slices.Equal.
-/
import Derived.Test.YthecijjmgfempaaRow
import Derived.Test.YthecijjmgfempaaSame
import Derived.Test.YthecijjmgfempaaM1
namespace Go.Proofs.Ythecijjmgfempaa
open Go.RowKit

set_option maxRecDepth 100000 in
set_option maxHeartbeats 1000000 in
theorem equal_any (a1 a2 : Option Addr) (c1 c2 : Nat) (bs cs : List Vc.D) (hb : bs.length ≤ 9223372036854775807) (w : World) (h1 : Sl w a1 bs) (h2 : Sl w a2 cs) (D : Bool) (hD : D = true ↔ bs = cs) :
    Calls Try.prog 52 #[.slice a1 bs.length c1, .slice a2 cs.length c2] w fun e w' => e = .returned (.bool D) ∧ Below w.heap.size w w' := by
  have H1 := hide h1
  have H2 := hide h2
  have HD := hide hD
  clear h1 h2 hD
  by_cases hlen : bs.length = cs.length
  · have hlb : ((bs.length : Int) != (cs.length : Int)) = false := by rw [hlen]; simp
    have HLEN := hide hlen
    clear hlen
    obtain ⟨hle1, hle2⟩ : cs.length ≤ bs.length ∧ bs.length ≤ cs.length := by have := unhide HLEN; omega
    go_enter Try.func52, Try.ntmps52
    go_wp2_with fail
    go_loopw [13] (fun i wr => ∃ k q : Nat, k ≤ bs.length ∧ i = .int .i64 k ∧ (∀ j : Nat, j < k → bs[j]? = cs[j]?) ∧ wr = w.drewN q) (fun i _ => bs.length - (intOf i).toNat)
    case atStart => exact ⟨0, 0, Nat.zero_le _, rfl, fun j hj => absurd hj (Nat.not_lt_zero _), rfl⟩
    case round =>
      obtain ⟨k, q, hk, rfl, hall, rfl⟩ := hrel
      have HALL := hide hall
      clear hall
      by_cases hlt : k < bs.length
      · obtain ⟨⟨p, c⟩, hx⟩ : ∃ x, bs[k]? = some x := ⟨_, List.getElem?_eq_getElem hlt⟩
        obtain ⟨⟨p', c'⟩, hy⟩ : ∃ y, cs[k]? = some y := ⟨_, List.getElem?_eq_getElem (by omega)⟩
        obtain ⟨g1, o1, rfl, _, hc1⟩ := unhide H1 (by omega)
        obtain ⟨g2, o2, rfl, _, hc2⟩ := unhide H2 (by omega)
        have e1 : w.cell? ⟨g1, o1 + k * 2, none⟩ = some (.int .i64 p) := (hc1 k _ hx).1
        have e2 : w.cell? ⟨g1, o1 + k * 2 + 1, none⟩ = some (.int .i64 c) := (hc1 k _ hx).2
        have e3 : w.cell? ⟨g2, o2 + k * 2, none⟩ = some (.int .i64 p') := (hc2 k _ hy).1
        have e4 : w.cell? ⟨g2, o2 + k * 2 + 1, none⟩ = some (.int .i64 c') := (hc2 k _ hy).2
        clear hc1 hc2
        have hlt2 : k < cs.length := by omega
        by_cases hpe : p = p'
        · subst hpe
          by_cases hce : c = c'
          · subst hce
            have HALL2 : Hid (∀ j : Nat, j < k + 1 → bs[j]? = cs[j]?) := by
              intro j hj
              by_cases e : j = k
              · subst e; rw [hx, hy]
              · exact unhide HALL j (by omega)
            clear hx hy
            go_wp2_with fail
            go_quiet (fail)
            go_wp2_with fail
            go_roundw
            case rel => exact ⟨k + 1, _, by omega, by go_num, unhide HALL2, rfl⟩
            case measure => simp [intOf]; omega
          · obtain rfl : D = false := by
              cases D with
              | false => rfl
              | true =>
                have := (unhide HD).1 rfl
                rw [this, hy] at hx
                exact absurd (congrArg Prod.snd (Option.some.inj hx)).symm hce
            clear hx hy
            go_wp2_with fail
            go_quiet (fail)
            go_wp2_with fail
            go_ret
            exact ⟨rfl, below_drewN (below_drewN (Below.refl _ _) _) _⟩
        · obtain rfl : D = false := by
            cases D with
            | false => rfl
            | true =>
              have := (unhide HD).1 rfl
              rw [this, hy] at hx
              exact absurd (congrArg Prod.fst (Option.some.inj hx)).symm hpe
          clear hx hy
          go_wp2_with fail
          go_quiet (fail)
          go_wp2_with fail
          go_ret
          exact ⟨rfl, below_drewN (below_drewN (Below.refl _ _) _) _⟩
      · obtain rfl : D = true := by
          rw [unhide HD]
          apply List.ext_getElem?
          intro j
          rcases Nat.lt_or_ge j k with h | h
          · exact unhide HALL j h
          · rw [List.getElem?_eq_none (by omega), List.getElem?_eq_none (by omega)]
        go_wp2_with fail
        go_ret
        exact ⟨rfl, below_drewN (Below.refl _ _) _⟩
  · obtain rfl : D = false := by
      cases D with
      | false => rfl
      | true => exact absurd (congrArg List.length ((unhide HD).1 rfl)) hlen
    have hlb : ((bs.length : Int) != (cs.length : Int)) = true := by rw [bne_iff_ne]; omega
    clear hlen
    go_enter Try.func52, Try.ntmps52
    go_wp2_with fail
    go_ret
    exact ⟨rfl, Below.refl _ _⟩

set_option maxRecDepth 100000 in
set_option maxHeartbeats 400000 in
theorem same_any (a1 a2 : Option Addr) (c1 c2 : Nat) (bs cs : List Vc.D) (hb : bs.length ≤ 9223372036854775807) (w : World) (h1 : Sl w a1 bs) (h2 : Sl w a2 cs) (D : Bool) (hD : D = true ↔ bs = cs) :
    Calls Try.prog 48 #[.slice a1 bs.length c1, .slice a2 cs.length c2] w fun e w' => e = .returned (.bool D) ∧ Below w.heap.size w w' := by
  have K := hide (equal_any a1 a2 c1 c2 bs cs hb w h1 h2 D hD)
  clear h1 h2 hD
  go_enter Try.func48, Try.ntmps48
  go_wp2_with (go_at_call 52; refine (unhide K).mono ?_; rintro e w1 ⟨rfl, hb1⟩; have HB1 := hide hb1; clear hb1)
  go_ret
  exact ⟨rfl, unhide HB1⟩
end Go.Proofs.Ythecijjmgfempaa

namespace Go.Proofs.Ythecijjmgfempaa
open Go.RowKit

theorem at23 {ops : Array Oper} {d : Option Tmp} {x : Operand} {ty : TypeId} {pos : String} {af : Array Edge} {g : Option (Nat × Bool)} {rest : List Oper} {a : Act} {w : World} {Q : Exit → Act → World → Prop} (h : wpList Try.prog ops Q ({dst := d, op := .load 23 x, type := ty, pos := pos, after := af, guard := g} :: rest) a w) : wpList Try.prog ops Q ({dst := d, op := .load 23 x, type := ty, pos := pos, after := af, guard := g} :: rest) a w := h
theorem at27 {ops : Array Oper} {d : Option Tmp} {x : Operand} {ty : TypeId} {pos : String} {af : Array Edge} {g : Option (Nat × Bool)} {rest : List Oper} {a : Act} {w : World} {Q : Exit → Act → World → Prop} (h : wpList Try.prog ops Q ({dst := d, op := .load 27 x, type := ty, pos := pos, after := af, guard := g} :: rest) a w) : wpList Try.prog ops Q ({dst := d, op := .load 27 x, type := ty, pos := pos, after := af, guard := g} :: rest) a w := h
theorem take_snocR {α : Type} {l : List α} {k : Nat} {x : α} (h : l[k]? = some x) : l.take (k + 1) = l.take k ++ [x] := by rw [List.take_add_one, h]; rfl

set_option maxRecDepth 100000 in
set_option maxHeartbeats 2000000 in
theorem equalR_any (a b : Option Addr) (ca cb : Nat) (us vs : List (List Vc.D)) (hf : FewR us) (hg : FewR vs) (w : World) (ha : RL w a us) (hb : RL w b vs) (D : Bool) (hD : D = true ↔ us = vs) :
    Calls Try.prog 49 #[.slice a us.length ca, .slice b vs.length cb, .func (.func 48) #[] #[]] w fun e w' => e = .returned (.bool D) ∧ Below w.heap.size w w' := by
  have HA := hide ha
  have HB := hide hb
  have HF := hide hf
  have HD := hide hD
  have hl := hf.1
  have hl2 := hg.1
  clear ha hb hf hg hD
  by_cases hlen : us.length = vs.length
  · have hbe : ((us.length : Int) != (vs.length : Int)) = false := by simp [hlen]
    have HLEN := hide hlen
    clear hlen
    go_enter Try.func49, Try.ntmps49
    go_wp2_with fail
    go_loopw [7, 8, 9, 17] (fun _ _ _ i wr => ∃ k : Nat, k ≤ us.length ∧ i = .int .i64 k ∧ us.take k = vs.take k ∧ Below w.heap.size w wr) (fun _ _ _ i _ => us.length - (intOf i).toNat)
    case atStart => exact ⟨0, Nat.zero_le _, rfl, rfl, Below.refl _ _⟩
    case round =>
      obtain ⟨k, hk, rfl, heq, hb⟩ := hrel
      have HEQ := hide heq
      have HBr := hide hb
      have S := (unhide HA).after hb
      have T := (unhide HB).after hb
      clear heq hb
      by_cases hlt : k < us.length
      · have hlt2 : k < vs.length := by have := unhide HLEN; omega
        obtain ⟨x, hx⟩ : ∃ d, us[k]? = some d := ⟨_, List.getElem?_eq_getElem hlt⟩
        obtain ⟨y, hy⟩ : ∃ d, vs[k]? = some d := ⟨_, List.getElem?_eq_getElem hlt2⟩
        obtain ⟨g, o, rfl, hg, hcell⟩ := S (by omega)
        obtain ⟨g', o', rfl, hg', hcell'⟩ := T (by omega)
        obtain ⟨q, d, x0, h5, h6⟩ := hcell k x hx
        obtain ⟨q', d', y0, h5', h6'⟩ := hcell' k y hy
        by_cases hxy : x = y
        · have K := hide (same_any q q' d d' x y ((unhide HF).at hx) _ h6 h6' true (by simp [hxy]))
          have HEQ2 : Hid (us.take (k + 1) = vs.take (k + 1)) := hide (by rw [take_snocR hx, take_snocR hy, unhide HEQ, hxy])
          clear hcell hcell' hx hy h5 h6 h5' h6' hxy hg hg'
          go_wp2_with fail
          refine (unhide K).mono ?_
          rintro e w1 ⟨rfl, hb⟩
          have HB1 := hide (below_grow (unhide HBr) (Nat.le_refl _) hb)
          clear hb x0 y0
          go_wp2_with fail
          go_roundw
          case rel => exact ⟨k + 1, by omega, by go_num, unhide HEQ2, unhide HB1⟩
          case measure => simp [intOf]; omega
        · have K := hide (same_any q q' d d' x y ((unhide HF).at hx) _ h6 h6' false (by simp [hxy]))
          obtain rfl : D = false := by
            cases D with
            | false => rfl
            | true =>
              have e := (unhide HD).1 rfl
              rw [e, hy] at hx
              injection hx with hx
              exact absurd hx.symm hxy
          clear hcell hcell' hx hy h5 h6 h5' h6' hxy hg hg'
          go_wp2_with fail
          refine (unhide K).mono ?_
          rintro e w1 ⟨rfl, hb⟩
          have HB1 := hide (below_grow (unhide HBr) (Nat.le_refl _) hb)
          clear hb x0 y0
          go_wp2_with fail
          go_ret
          exact ⟨rfl, unhide HB1⟩
      · obtain rfl : k = us.length := by omega
        obtain rfl : D = true := (unhide HD).2 (by have h := unhide HEQ; rw [List.take_length, unhide HLEN, List.take_length] at h; exact h)
        go_wp2_with fail
        go_ret
        exact ⟨rfl, unhide HBr⟩
  · have hbe : ((us.length : Int) != (vs.length : Int)) = true := by simp; omega
    obtain rfl : D = false := by
      cases D with
      | false => rfl
      | true => exact absurd (congrArg List.length ((unhide HD).1 rfl)) hlen
    clear hlen
    go_enter Try.func49, Try.ntmps49
    go_wp2_with fail
    go_ret
    exact ⟨rfl, Below.refl _ _⟩
end Go.Proofs.Ythecijjmgfempaa
