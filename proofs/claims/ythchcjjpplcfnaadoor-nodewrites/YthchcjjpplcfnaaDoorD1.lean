/-
  Whether a node may be: the document's Check. Conditions: those that each theorem names.
-/
import Derived.Test.YthchcjjpplcfnaaDoorK1
import Derived.Test.YthchcjjpplcfnaaDoorSib
import Derived.Test.YthchcjjpplcfnaaDoorQMath
namespace Go.Proofs.YthchcjjpplcfnaaDoor
open Go.RowKit

theorem chkN_leaf {n : Nd} (h : Vc.checkLeaf n.vs ≠ 0) : chkN n = Vc.checkLeaf n.vs := if_pos h
theorem chkN_many {n : Nd} (h : Vc.checkLeaf n.vs = 0) (h2 : 128 < n.ks.length) : chkN n = 2 := by
  unfold chkN
  rw [if_neg (by simpa using h), if_pos h2]
theorem chkN_kids {n : Nd} (h : Vc.checkLeaf n.vs = 0) (h2 : ¬ 128 < n.ks.length) : chkN n = chkK ⟨#[]⟩ n.ks := by
  unfold chkN
  rw [if_neg (by simpa using h), if_neg h2]
theorem kidErr_name {p : ByteArray} {k : Kd} (h : isN k.1 = false) : kidErr p k = 1 := if_pos h
theorem kidErr_leq {p : ByteArray} {k : Kd} (h : isN k.1 = true) (h2 : leqB k.1 p = true) : kidErr p k = 8 := by
  unfold kidErr
  rw [if_neg (by rw [h]; simp), if_pos h2]
theorem kidErr_none {p : ByteArray} {k : Kd} (h : isN k.1 = true) (h2 : leqB k.1 p = false) : kidErr p k = 0 := by
  unfold kidErr
  rw [if_neg (by rw [h]; simp), if_neg (by rw [h2]; simp)]

set_option maxRecDepth 100000 in
set_option maxHeartbeats 4000000 in
theorem refCheckN_any (a : Option Addr) (c : Nat) (b : Option Addr) (d : Nat) (n : Nd) (hn : Nok n) (w : World) (h : NdAt w n a c b d) :
    Calls Tryd.prog 9 #[.agg (ndL n a c b d).toArray] w fun e w' => e = .returned (.int .i64 (chkN n)) ∧ Below w.heap.size w w' := by
  have HB0 := hide (below_alloc' (w := w) (.cells (ndL n a c b d).toArray 25))
  have HR0 := hide (VRow.new w 25 (ndL n a c b d))
  have HC := hide (refCheckLeaf_any a c n.vs hn.few (w.alloc (.cells (ndL n a c b d).toArray 25)) (h.after (unhide HB0)).sv)
  have HSK := hide h.sk
  have HN := hide hn
  have hks := hn.kids
  have x0 : (w.alloc (.cells (ndL n a c b d).toArray 25)).cell? ⟨w.heap.size, 0, none⟩ = some (.slice a n.vs.length c) := (unhide HR0).cell 0 _ rfl
  obtain ⟨R, hR⟩ : ∃ R, chkN n = R := ⟨_, rfl⟩
  have HLE := hide fun h => chkN_leaf (n := n) h
  have HMA := hide fun h h2 => chkN_many (n := n) h h2
  have HKI := hide fun h h2 => chkN_kids (n := n) h h2
  rw [hR] at HLE HMA HKI ⊢
  generalize Vc.checkLeaf n.vs = E at HC HLE HMA HKI
  have HST := hide (chkK_step n.ks)
  have HEN := hide (chkK_end n.ks)
  have HPR := hide (prevK_at n.ks)
  have HV0 : Hid (chkK ⟨#[]⟩ n.ks = chkK (prevK n.ks 0) (n.ks.drop 0)) := hide rfl
  clear h hn hR
  unfold ndL at *
  go_enter Tryd.func9, Tryd.ntmps9
  go_wp2_with fail
  refine (unhide HC).mono ?_
  rintro e w1 ⟨rfl, hb⟩
  have HB1 := hide (below_grow (unhide HB0) (Nat.le_refl _) hb)
  have HR1 := hide ((unhide HR0).after hb)
  have x1 : w1.cell? ⟨w.heap.size, 1, none⟩ = some (.slice b n.ks.length d) := (unhide HR1).cell 1 _ rfl
  clear hb x0
  by_cases hE : E = 0
  · subst hE
    by_cases h128 : 128 < n.ks.length
    · have HX := hide (unhide HMA rfl h128)
      have hd : decide ((128 : Int) < (n.ks.length : Int)) = true := decide_eq_true (by omega)
      go_wp2_with fail
      go_ret
      exact ⟨ret_int (unhide HX).symm, unhide HB1⟩
    · have HX := hide ((unhide HKI rfl h128).trans (unhide HV0))
      have hd : decide ((128 : Int) < (n.ks.length : Int)) = false := decide_eq_false (by omega)
      have hcnt : n.ks.length ≤ 128 := by omega
      clear HLE HMA HKI HV0
      go_wp2_with fail
      go_loopw [4] (fun i wr => ∃ k : Nat, k ≤ n.ks.length ∧ i = .int .i64 k ∧ R = chkK (prevK n.ks k) (n.ks.drop k) ∧ VRow wr w.heap.size 25 [.slice a n.vs.length c, .slice b n.ks.length d] ∧ Below w.heap.size w wr) (fun i _ => n.ks.length - (intOf i).toNat)
      case atStart => exact ⟨0, Nat.zero_le _, rfl, unhide HX, unhide HR1, unhide HB1⟩
      case round =>
        obtain ⟨k, hk, rfl, hv, hr, hb⟩ := hrel
        have HV := hide hv
        have HR := hide hr
        have HB := hide hb
        have x1 := hr.cell 1 _ rfl
        clear hv hr hb
        by_cases hlt : k < n.ks.length
        · obtain ⟨x, hx⟩ : ∃ x, n.ks[k]? = some x := ⟨_, List.getElem?_eq_getElem hlt⟩
          have hm := List.mem_of_getElem? hx
          obtain ⟨g, o, rfl, hg, hc⟩ := (unhide HSK).after (unhide HB) (by omega)
          have y0 := range_name (hc k x hx)
          have HCell := hide hc
          have KN := hide (Pth.refName_any x.1 (by have := (unhide HN).names x hm; omega) wr)
          rw [show Pth.Pt.isName x.1.data.toList = isN x.1 from rfl] at KN
          have HV2 : Hid (R = if kidErr (prevK n.ks k) x ≠ 0 then kidErr (prevK n.ks k) x else chkK (prevK n.ks (k + 1)) (n.ks.drop (k + 1))) := hide ((unhide HV).trans (unhide HST k x hx))
          have HPX := hide (unhide HPR k x hx)
          clear hm hc hx hg HV
          by_cases hN : isN x.1 = true
          · have HLN := hide (leq_none hN)
            have HK1 := hide fun p h => kidErr_leq (p := p) (k := x) hN h
            have HK2 := hide fun p h => kidErr_none (p := p) (k := x) hN h
            rw [hN] at KN
            clear hN
            by_cases hk0 : 0 < k
            · obtain ⟨m, hm⟩ : ∃ m, k = m + 1 := ⟨k - 1, by omega⟩
              obtain ⟨u, hu⟩ : ∃ u, n.ks[m]? = some u := ⟨_, List.getElem?_eq_getElem (by omega)⟩
              have e' : prevK n.ks k = u.1 := by rw [hm]; exact unhide HPR m u hu
              have y1 := range_name (unhide HCell m u hu)
              have hmi : (k : Int) - 1 = (m : Int) := by omega
              have hmw : IntKind.i64.wrap ((k : Int) - 1) = (m : Int) := by rw [hmi]; exact wrap_small (by omega) (by omega)
              have hml : m < n.ks.length := by omega
              have hgi : (0 : Int) < (k : Int) := by omega
              rw [e'] at HV2
              have HL : Hid (leqB x.1 u.1 = (Go.Op.bytesLess x.1.toList u.1.toList || (x.1.toList == u.1.toList))) := hide rfl
              obtain ⟨L, hL⟩ : ∃ L, (Go.Op.bytesLess x.1.toList u.1.toList || (x.1.toList == u.1.toList)) = L := ⟨_, rfl⟩
              rw [hL] at HL
              have HLL := hide hL
              clear hu hm e' hL
              cases L with
              | true =>
                have HX2 : Hid (R = 8) := hide (by
                  have h := unhide HV2
                  rw [unhide HK1 _ (unhide HL), if_pos (by decide)] at h
                  exact h)
                have hle := unhide HLL
                go_wp2_with (go_at_call 33; refine (unhide KN).mono ?_; rintro e w2 ⟨rfl, rfl⟩)
                go_quiet (fail)
                go_wp2_with fail
                go_ret
                exact ⟨ret_int (unhide HX2).symm, below_drewN (unhide HB) _⟩
              | false =>
                have HX2 : Hid (R = chkK (prevK n.ks (k + 1)) (n.ks.drop (k + 1))) := hide (by
                  have h := unhide HV2
                  rw [unhide HK2 _ (unhide HL), if_neg (by decide)] at h
                  exact h)
                have hle := unhide HLL
                go_wp2_with (go_at_call 33; refine (unhide KN).mono ?_; rintro e w2 ⟨rfl, rfl⟩)
                go_quiet (fail)
                go_wp2_with fail
                go_roundw
                case rel => exact ⟨k + 1, by omega, by go_num, unhide HX2, (unhide HR).drewN _, below_drewN (unhide HB) _⟩
                case measure => simp [intOf]; omega
            · have HX2 : Hid (R = chkK (prevK n.ks (k + 1)) (n.ks.drop (k + 1))) := hide (by
                have h := unhide HV2
                have e : prevK n.ks k = ⟨#[]⟩ := by rw [show k = 0 by omega]; rfl
                rw [e, unhide HK2 _ (unhide HLN), if_neg (by decide)] at h
                exact h)
              have hgd : decide (0 < (k : Int)) = false := decide_eq_false (by omega)
              go_wp2_with (go_at_call 33; refine (unhide KN).mono ?_; rintro e w2 ⟨rfl, rfl⟩)
              go_quiet (fail)
              go_wp2_with fail
              go_roundw
              case rel => exact ⟨k + 1, by omega, by go_num, unhide HX2, (unhide HR).drewN _, below_drewN (unhide HB) _⟩
              case measure => simp [intOf]; omega
          · have hN' : isN x.1 = false := by simpa using hN
            have HX2 : Hid (R = 1) := hide (by
              have h := unhide HV2
              rw [kidErr_name hN', if_pos (by decide)] at h
              exact h)
            rw [hN'] at KN
            clear hN hN'
            go_wp2_with (go_at_call 33; refine (unhide KN).mono ?_; rintro e w2 ⟨rfl, rfl⟩)
            go_ret
            exact ⟨ret_int (unhide HX2).symm, unhide HB⟩
        · obtain rfl : k = n.ks.length := by omega
          have HV2 := hide ((unhide HV).trans (unhide HEN _))
          go_wp2_with fail
          go_ret
          exact ⟨ret_int (unhide HV2).symm, unhide HB⟩
  · have HX := hide (unhide HLE hE)
    have hne : (E != 0) = true := bne_iff_ne.2 hE
    go_wp2_with fail
    go_ret
    exact ⟨ret_int (unhide HX).symm, unhide HB1⟩
end Go.Proofs.YthchcjjpplcfnaaDoor
