/-
  Whether a node is too great to be asked about. Conditions: those that each theorem names.
-/
import Derived.Test.YthchcjjpplcfnaaDoorK1
import Derived.Test.YthchcjjpplcfnaaDoorOpenN
import Derived.Test.YthchcjjpplcfnaaDoorGrow
namespace Go.Proofs.YthchcjjpplcfnaaDoor
open Go.RowKit

def Great1s (a : List Vc.V) (w : World) (e : Ending) (w' : World) : Prop := ∃ B : Bool, e = .returned (.bool B) ∧ w' = w ∧ (B = false → Slight a)
theorem great1s (w : World) (G : Nat) (hG : G = w.heap.size) (ra : Option Addr) (ca : Nat) (a : List Vc.V) (ha : SV w ra a) :
    Calls Tryd.prog 12 #[.slice (some ⟨G, 0, none⟩) 1 1] (w.alloc (.cells #[.slice ra a.length ca] 22)) (Great1s a (w.alloc (.cells #[.slice ra a.length ca] 22))) := by
  subst hG
  have hr := VRow.new w 22 [.slice ra a.length ca]
  refine (great_any w.heap.size 1 (by decide) (fun _ => ra) (fun _ => ca) (fun _ => a) _ (fun j hj => ?_) (fun j hj => ?_)).mono ?_
  · obtain rfl : j = 0 := by omega
    exact hr.cell 0 _ rfl
  · exact ha.after (below_alloc' _)
  · rintro e w' ⟨B, h1, h2, h3⟩
    exact ⟨B, h1, h2, fun h => h3 h 0 (by decide)⟩
/-- What is known of a node that is not too great. -/
def Lean' (n : Nd) : Prop := n.ks.length ≤ 140 ∧ Slight n.vs ∧ ∀ k ∈ n.ks, k.1.size ≤ 200
def GreatN (n : Nd) (w : World) (e : Ending) (w' : World) : Prop := ∃ B : Bool, e = .returned (.bool B) ∧ Below w.heap.size w w' ∧ (B = false → Lean' n)
theorem Lean'.ok {n : Nd} (h : Lean' n) (hc : Ncome n) : Nok n where
  few := hc.short.few h.2.1.1
  kids := Nat.le_trans h.1 (by omega)
  digs := fun k hk => (hc.kok k hk).2
  names := fun k hk => Nat.le_trans (h.2.2 k hk) (by omega)
set_option maxRecDepth 100000 in
set_option maxHeartbeats 2000000 in
theorem greatN_any (a : Option Addr) (c : Nat) (b : Option Addr) (d : Nat) (n : Nd) (hn : Ncome n) (w : World) (h : NdAt w n a c b d) :
    Calls Tryd.prog 4 #[.agg (ndL n a c b d).toArray] w (GreatN n w) := by
  have HB0 := hide (below_alloc' (w := w) (.cells (ndL n a c b d).toArray 25))
  have HR0 := hide (VRow.new w 25 (ndL n a c b d))
  have x0 := (unhide HR0).cell 0 _ rfl
  have x1 := (unhide HR0).cell 1 _ rfl
  have KG := hide (great1s (w.alloc (.cells (ndL n a c b d).toArray 25)) (w.heap.size + 1) (by simp) a c n.vs (h.after (unhide HB0)).sv)
  have HSK := hide (h.after (unhide HB0)).sk
  have HK := hide hn.kok
  have hkl := hn.kids
  clear h hn
  unfold ndL at *
  by_cases h1 : 140 < n.ks.length
  · have hd1 : decide ((140 : Int) < (n.ks.length : Int)) = true := decide_eq_true (by omega)
    go_enter Tryd.func4, Tryd.ntmps4
    go_wp2_with fail
    go_ret
    exact ⟨true, rfl, unhide HB0, fun h => by cases h⟩
  · have hd1 : decide ((140 : Int) < (n.ks.length : Int)) = false := decide_eq_false (by omega)
    go_enter Tryd.func4, Tryd.ntmps4
    go_wp2_with fail
    refine (unhide KG).mono ?_
    rintro e w1 ⟨G, rfl, hw, hG⟩
    have HB1 : Hid (Below w.heap.size w w1) := hide (by rw [hw]; exact (unhide HB0).alloc (by simp) _)
    have HR1 : Hid (VRow w1 w.heap.size 25 [.slice a n.vs.length c, .slice b n.ks.length d]) := hide (by rw [hw]; exact (unhide HR0).alloc _)
    have HSK1 : Hid (SK w1 b n.ks) := hide (by rw [hw]; exact (unhide HSK).after (below_alloc' _))
    have HG := hide hG
    clear hw hG x0 x1 KG
    have x1 := (unhide HR1).cell 1 _ rfl
    cases G with
    | true =>
      go_wp2_with fail
      go_ret
      exact ⟨true, rfl, unhide HB1, fun h => by cases h⟩
    | false =>
      have HS := hide (unhide HG rfl)
      go_wp2_with fail
      go_loopw [3] (fun i wr => ∃ k : Nat, k ≤ n.ks.length ∧ i = .int .i64 k ∧ (∀ x ∈ n.ks.take k, x.1.size ≤ 200) ∧ wr = w1) (fun i _ => n.ks.length - (intOf i).toNat)
      case atStart => exact ⟨0, Nat.zero_le _, rfl, fun x hx => (by simp at hx), rfl⟩
      case round =>
        obtain ⟨k, hk, rfl, hall, hw⟩ := hrel
        subst hw
        have HALL := hide hall
        clear hall
        by_cases hlt : k < n.ks.length
        · obtain ⟨x, hx⟩ : ∃ x, n.ks[k]? = some x := ⟨_, List.getElem?_eq_getElem hlt⟩
          obtain ⟨g, o, rfl, hg, hc⟩ := id (unhide HSK1) (by omega)
          have y0 := range_name (hc k x hx)
          have hsz := (unhide HK x (List.mem_of_getElem? hx)).1
          have HTK : Hid (x.1.size ≤ 200 → ∀ y ∈ n.ks.take (k + 1), y.1.size ≤ 200) := hide fun h y hy => by
            rw [take_snocA hx] at hy
            rcases List.mem_append.1 hy with h1 | h1
            · exact unhide HALL y h1
            · rw [List.mem_singleton.1 h1]; exact h
          clear hg hc hx
          by_cases h2 : 200 < x.1.size
          · have hd2 : decide ((200 : Int) < (x.1.size : Int)) = true := decide_eq_true (by omega)
            go_wp2_with fail
            go_ret
            exact ⟨true, rfl, unhide HB1, fun h => by cases h⟩
          · have hd2 : decide ((200 : Int) < (x.1.size : Int)) = false := decide_eq_false (by omega)
            have HT2 := hide (unhide HTK (by omega))
            go_wp2_with fail
            go_roundw
            case rel => exact ⟨k + 1, by omega, by go_num, unhide HT2, (by first | trivial | rfl)⟩
            case measure => simp [intOf]; omega
        · obtain rfl : k = n.ks.length := by omega
          have HT2 : Hid (∀ x ∈ n.ks, x.1.size ≤ 200) := hide fun x hx => unhide HALL x (by rw [List.take_length]; exact hx)
          go_wp2_with fail
          go_ret
          exact ⟨false, rfl, unhide HB1, fun _ => ⟨by omega, unhide HS, unhide HT2⟩⟩
end Go.Proofs.YthchcjjpplcfnaaDoor
