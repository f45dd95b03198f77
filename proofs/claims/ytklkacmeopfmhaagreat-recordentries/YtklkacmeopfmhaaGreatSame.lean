/-
  What Same answers, the program's and the document's, and slices.Equal.
-/
import Derived.Test.YtklkacmeopfmhaaGreatGet
namespace Go.Proofs.YtklkacmeopfmhaaGreat
open Go.RowKit

set_option maxRecDepth 100000 in
set_option maxHeartbeats 1000000 in
theorem refSame_any (a1 a2 : Option Addr) (c1 c2 : Nat) (bs cs : List Vc.D) (hb : bs.length ≤ 9223372036854775807) (w : World) (h1 : Sl w a1 bs) (h2 : Sl w a2 cs) (D : Bool) (hD : D = true ↔ bs = cs) :
    Calls Tryz.prog 57 #[.slice a1 bs.length c1, .slice a2 cs.length c2] w fun e w' => e = .returned (.bool D) ∧ Below w.heap.size w w' := by
  have H1 := hide h1
  have H2 := hide h2
  have HD := hide hD
  clear h1 h2 hD
  by_cases hlen : bs.length = cs.length
  · have hlb : ((bs.length : Int) != (cs.length : Int)) = false := by rw [hlen]; simp
    have HLEN := hide hlen
    clear hlen
    obtain ⟨hle1, hle2⟩ : cs.length ≤ bs.length ∧ bs.length ≤ cs.length := by have := unhide HLEN; omega
    go_enter Tryz.func57, Tryz.ntmps57
    go_wp2_with fail
    go_loopw [5] (fun i wr => ∃ k q : Nat, k ≤ bs.length ∧ i = .int .i64 k ∧ (∀ j : Nat, j < k → bs[j]? = cs[j]?) ∧ wr = w.drewN q) (fun i _ => bs.length - (intOf i).toNat)
    case atStart => exact ⟨0, 0, Nat.zero_le _, rfl, fun j hj => absurd hj (Nat.not_lt_zero _), rfl⟩
    case round =>
      obtain ⟨k, q, hk, rfl, hall, rfl⟩ := hrel
      have HALL := hide hall
      clear hall
      by_cases hlt : k < bs.length
      · obtain ⟨⟨p, c⟩, hx⟩ : ∃ x, bs[k]? = some x := ⟨_, List.getElem?_eq_getElem hlt⟩
        obtain ⟨⟨p', c'⟩, hy⟩ : ∃ y, cs[k]? = some y := ⟨_, List.getElem?_eq_getElem (by omega)⟩
        obtain ⟨g1, o1, rfl, _, hc1⟩ := unhide H1 (by omega)
        obtain ⟨g2, o2, rfl, _, hc2⟩ := unhide H2 (by omega)
        have e1 : w.cell? ⟨g1, o1 + k * 2, none⟩ = some (.int .i64 p) := (hc1 k _ hx).1
        have e2 : w.cell? ⟨g1, o1 + k * 2 + 1, none⟩ = some (.int .i64 c) := (hc1 k _ hx).2
        have e3 : w.cell? ⟨g2, o2 + k * 2, none⟩ = some (.int .i64 p') := (hc2 k _ hy).1
        have e4 : w.cell? ⟨g2, o2 + k * 2 + 1, none⟩ = some (.int .i64 c') := (hc2 k _ hy).2
        clear hc1 hc2
        have hlt2 : k < cs.length := by omega
        by_cases hpe : p = p'
        · subst hpe
          by_cases hce : c = c'
          · subst hce
            have HALL2 : Hid (∀ j : Nat, j < k + 1 → bs[j]? = cs[j]?) := by
              intro j hj
              by_cases e : j = k
              · subst e; rw [hx, hy]
              · exact unhide HALL j (by omega)
            clear hx hy
            go_wp2_with fail
            go_quiet (fail)
            go_wp2_with fail
            go_roundw
            case rel => exact ⟨k + 1, _, by omega, by go_num, unhide HALL2, rfl⟩
            case measure => simp [intOf]; omega
          · obtain rfl : D = false := by
              cases D with
              | false => rfl
              | true =>
                have := (unhide HD).1 rfl
                rw [this, hy] at hx
                exact absurd (congrArg Prod.snd (Option.some.inj hx)).symm hce
            clear hx hy
            go_wp2_with fail
            go_quiet (fail)
            go_wp2_with fail
            go_ret
            exact ⟨rfl, below_drewN (below_drewN (Below.refl _ _) _) _⟩
        · obtain rfl : D = false := by
            cases D with
            | false => rfl
            | true =>
              have := (unhide HD).1 rfl
              rw [this, hy] at hx
              exact absurd (congrArg Prod.fst (Option.some.inj hx)).symm hpe
          clear hx hy
          go_wp2_with fail
          go_quiet (fail)
          go_wp2_with fail
          go_ret
          exact ⟨rfl, below_drewN (below_drewN (Below.refl _ _) _) _⟩
      · obtain rfl : D = true := by
          rw [unhide HD]
          apply List.ext_getElem?
          intro j
          rcases Nat.lt_or_ge j k with h | h
          · exact unhide HALL j h
          · rw [List.getElem?_eq_none (by omega), List.getElem?_eq_none (by omega)]
        go_wp2_with fail
        go_ret
        exact ⟨rfl, below_drewN (Below.refl _ _) _⟩
  · obtain rfl : D = false := by
      cases D with
      | false => rfl
      | true => exact absurd (congrArg List.length ((unhide HD).1 rfl)) hlen
    have hlb : ((bs.length : Int) != (cs.length : Int)) = true := by rw [bne_iff_ne]; omega
    clear hlen
    go_enter Tryz.func57, Tryz.ntmps57
    go_wp2_with fail
    go_ret
    exact ⟨rfl, Below.refl _ _⟩

end Go.Proofs.YtklkacmeopfmhaaGreat
