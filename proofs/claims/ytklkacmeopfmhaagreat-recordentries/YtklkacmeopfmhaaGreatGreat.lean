/-
  Whether leaves are too much to be asked.
-/
import Derived.Test.YtklkacmeopfmhaaGreatVers
namespace Go.Proofs.YtklkacmeopfmhaaGreat
open Go.RowKit

/-- No past that is greater than any machine's memory. -/
def Light (vs : List Vc.V) : Prop := ∀ v ∈ vs, v.past.length ≤ 8796093022208
/-- A list that is not too much. -/
def Slight (vs : List Vc.V) : Prop := vs.length ≤ 70 ∧ (Light vs → ∀ v ∈ vs, v.past.length ≤ 400)
/-- Whether leaves are too much, and what is known if they are not. -/
def GreatMade (n : Nat) (ls : Nat → List Vc.V) (w : World) (e : Ending) (w' : World) : Prop := ∃ B : Bool, e = .returned (.bool B) ∧ w' = w ∧ (B = false → ∀ j, j < n → Slight (ls j))

set_option maxRecDepth 100000 in
set_option maxHeartbeats 1000000 in
theorem great_any (G n : Nat) (hn : n ≤ 100) (A : Nat → Option Addr) (C : Nat → Nat) (ls : Nat → List Vc.V) (w : World) (hc : ∀ j, j < n → w.cell? ⟨G, j, none⟩ = some (.slice (A j) (ls j).length (C j))) (hs : ∀ j, j < n → SV w (A j) (ls j)) :
    Calls Tryz.prog 5 #[.slice (some ⟨G, 0, none⟩) n n] w (GreatMade n ls w) := by
  have HC := hide hc
  have HS := hide hs
  clear hc hs
  go_enter Tryz.func5, Tryz.ntmps5
  go_wp2_with fail
  go_loopw [3] (fun i wr => ∃ k : Nat, k ≤ n ∧ i = .int .i64 k ∧ (∀ j, j < k → Slight (ls j)) ∧ wr = w) (fun i _ => n - (intOf i).toNat)
  case atStart => exact ⟨0, Nat.zero_le _, rfl, fun j hj => absurd hj (Nat.not_lt_zero _), rfl⟩
  case round =>
    obtain ⟨k, hk, rfl, hall, rfl⟩ := hrel
    have HALL := hide hall
    clear hall
    by_cases hlt : k < n
    · have c0 := unhide HC k hlt
      have s0 := hide (unhide HS k hlt)
      generalize hA : A k = a at c0 s0
      generalize hL : ls k = l at c0 s0
      generalize hCk : C k = c at c0
      by_cases h70 : 70 < l.length
      · have hd : decide ((70 : Int) < (l.length : Int)) = true := decide_eq_true (by omega)
        clear hA hL hCk
        go_wp2_with fail
        go_ret
        exact ⟨true, rfl, rfl, fun h => by cases h⟩
      · have hd : decide ((70 : Int) < (l.length : Int)) = false := decide_eq_false (by omega)
        have HL : Hid (ls k = l) := hide hL
        have hl70 : l.length ≤ 70 := by omega
        clear hA hL hCk h70
        go_wp2_with fail
        go_loopw [4, 5] (fun x i wv => ∃ (t : Int) (m : Nat), m ≤ l.length ∧ x = .int .i64 t ∧ i = .int .i64 m ∧ wv = wr ∧ Hid (Light l → 0 ≤ t ∧ t ≤ 400 ∧ ∀ v ∈ l.take m, v.past.length ≤ 400)) (fun _ i _ => l.length - (intOf i).toNat)
        case atStart => exact ⟨0, 0, Nat.zero_le _, rfl, rfl, rfl, hide (fun _ => ⟨by omega, by omega, fun v hv => by simp at hv⟩)⟩
        case round =>
          obtain ⟨t, m, hm, rfl, rfl, hwv, HT⟩ := hrel
          subst hwv
          by_cases hml : m < l.length
          · obtain ⟨v, hx⟩ : ∃ d, l[m]? = some d := ⟨_, List.getElem?_eq_getElem hml⟩
            obtain ⟨g, o, rfl, hg, hcell⟩ := unhide s0 (by omega)
            obtain ⟨q, d, x0, x1, x2, x3, x4, h5, h6⟩ := hcell m v hx
            obtain ⟨T, hT⟩ : ∃ T, IntKind.i64.wrap (t + (v.past.length : Int)) = T := ⟨_, rfl⟩
            have HT2 : Hid (¬ 400 < T → Light l → 0 ≤ T ∧ T ≤ 400 ∧ ∀ v ∈ l.take (m + 1), v.past.length ≤ 400) := hide (fun h4 hl => by
              obtain ⟨t1, t2, t3⟩ := unhide HT hl
              have hv := hl v (List.mem_of_getElem? hx)
              rw [wrap_small (by omega) (by omega)] at hT
              refine ⟨by omega, by omega, fun u hu => ?_⟩
              rw [take_snocA hx] at hu
              rcases List.mem_append.1 hu with hu | hu
              · exact t3 u hu
              · rw [List.mem_singleton.1 hu]; omega)
            clear hcell hx h5 h6 hg x0 x1 x3
            by_cases h400 : 400 < T
            · have hd4 : decide (400 < T) = true := decide_eq_true h400
              go_wp2_with fail
              go_ret
              exact ⟨true, rfl, rfl, fun h => by cases h⟩
            · have hd4 : decide (400 < T) = false := decide_eq_false h400
              obtain ⟨z, hz⟩ : ∃ z, v.data.size = z := ⟨_, rfl⟩
              by_cases h200 : 200 < z
              · have hd2 : decide ((200 : Int) < (z : Int)) = true := decide_eq_true (by omega)
                go_wp2_with fail
                go_ret
                exact ⟨true, rfl, rfl, fun h => by cases h⟩
              · have hd2 : decide ((200 : Int) < (z : Int)) = false := decide_eq_false (by omega)
                go_wp2_with fail
                go_roundw
                case rel => exact ⟨T, m + 1, by omega, rfl, by go_num, by first | rfl | trivial, hide (unhide HT2 (by omega))⟩
                case measure => simp [intOf]; omega
          · have HALL2 : Hid (∀ j, j < k + 1 → Slight (ls j)) := hide (fun j hj => by
              by_cases e : j = k
              · subst e
                rw [unhide HL]
                refine ⟨hl70, fun hl => ?_⟩
                have h9 := (unhide HT hl).2.2
                rw [show m = l.length by omega, List.take_length] at h9
                exact h9
              · exact unhide HALL j (by omega))
            go_wp2_with fail
            go_roundw
            case rel => exact ⟨k + 1, by omega, by go_num, unhide HALL2, by first | rfl | trivial⟩
            case measure => simp [intOf]; omega
    · obtain rfl : k = n := by omega
      go_wp2_with fail
      go_ret
      exact ⟨false, rfl, rfl, fun _ => unhide HALL⟩
end Go.Proofs.YtklkacmeopfmhaaGreat
