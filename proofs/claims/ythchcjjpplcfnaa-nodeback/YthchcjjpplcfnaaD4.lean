/-
  Whether two nodes are the same: the document's. Conditions: those that each theorem names.
-/
import Derived.Test.YthchcjjpplcfnaaQ2
import Derived.Test.YthchcjjpplcfnaaGrow
import Derived.Lib.QuietBelow
namespace Go.Proofs.Ythchcjjpplcfnaa
open Go.RowKit

theorem nd_eq {n m : Nd} : n = m ↔ n.vs = m.vs ∧ n.ks = m.ks := by
  obtain ⟨a, b⟩ := n
  obtain ⟨c, d⟩ := m
  simp
theorem take_next {l m : List Kd} {k : Nat} {x y : Kd} (h : l.take k = m.take k) (hx : l[k]? = some x) (hy : m[k]? = some y) (e : x = y) : l.take (k + 1) = m.take (k + 1) := by
  rw [take_snocA hx, take_snocA hy, h, e]
theorem take_ne {l m : List Kd} {k : Nat} {x y : Kd} (hx : l[k]? = some x) (hy : m[k]? = some y) (e : x ≠ y) : l ≠ m := by
  rintro rfl
  rw [hx] at hy
  injection hy with hy
  exact e hy
set_option maxRecDepth 100000 in
set_option maxHeartbeats 4000000 in
theorem refSameN_any (a : Option Addr) (c : Nat) (b : Option Addr) (d : Nat) (n : Nd) (hn : Nok n) (a2 : Option Addr) (c2 : Nat) (b2 : Option Addr) (d2 : Nat) (m : Nd) (hm : Nok m) (w : World) (h : NdAt w n a c b d) (h2 : NdAt w m a2 c2 b2 d2) (D : Bool) (hD : D = true ↔ n = m) :
    Calls Try.prog 12 #[.agg (ndL n a c b d).toArray, .agg (ndL m a2 c2 b2 d2).toArray] w fun e w' => e = .returned (.bool D) ∧ Below w.heap.size w w' := by
  have HB0 := hide ((below_alloc' (w := w) (.cells (ndL n a c b d).toArray 25)).alloc (by simp) (.cells (ndL m a2 c2 b2 d2).toArray 25))
  have HR := hide ((VRow.new w 25 (ndL n a c b d)).alloc (.cells (ndL m a2 c2 b2 d2).toArray 25))
  have HT := hide (VRow.newAt (W := w.alloc (.cells (ndL n a c b d).toArray 25)) (T := 25) (n := w.heap.size + 1) (vs := ndL m a2 c2 b2 d2) (by simp))
  have x0 := (unhide HR).cell 0 _ rfl
  have x1 := (unhide HR).cell 1 _ rfl
  have y0 := (unhide HT).cell 0 _ rfl
  have y1 := (unhide HT).cell 1 _ rfl
  obtain ⟨V, hV⟩ := bool_of (n.vs = m.vs)
  have KV := hide (refSameVs_any a a2 c c2 n.vs m.vs hn.few hm.few _ ((h.after (unhide HB0)).sv) ((h2.after (unhide HB0)).sv) V hV)
  rw [nd_eq] at hD
  have HD := hide hD
  have HV := hide hV
  have HS1 := hide h.sk
  have HS2 := hide h2.sk
  have hk1 := hn.kids
  have hk2 := hm.kids
  have HD1 := hide hn.digs
  have HD2 := hide hm.digs
  clear h h2 hD hV hn hm
  unfold ndL at *
  by_cases hl : n.ks.length = m.ks.length
  · have hlb : (((n.ks.length : Nat) : Int) != (m.ks.length : Nat)) = false := by rw [hl]; exact bne_self_eq_false _
    have HL := hide hl
    clear hl
    go_enter Try.func12, Try.ntmps12
    go_wp2_with fail
    generalize (w.alloc (.cells _ 25)).alloc (.cells _ 25) = w0 at HB0 HR HT KV x0 x1 y0 y1 ⊢
    refine (unhide KV).mono ?_
    rintro e w1 ⟨rfl, hb⟩
    have HB1 := hide (below_grow (unhide HB0) (Nat.le_refl _) hb)
    have HR1 := hide ((unhide HR).after hb)
    have HT1 := hide ((unhide HT).after hb)
    clear hb x0 x1 y0 y1 KV
    cases V with
    | false =>
      have HX : Hid (D = false) := hide (by
        cases D with
        | false => rfl
        | true => exact absurd ((unhide HV).2 ((unhide HD).1 rfl).1) (by simp))
      go_wp2_with fail
      go_ret
      exact ⟨ret_bool (unhide HX).symm, unhide HB1⟩
    | true =>
      have HV2 := hide ((unhide HV).1 rfl)
      go_wp2_with fail
      go_loopw [5] (fun i wr => ∃ k : Nat, k ≤ n.ks.length ∧ i = .int .i64 k ∧ n.ks.take k = m.ks.take k ∧ VRow wr w.heap.size 25 [.slice a n.vs.length c, .slice b n.ks.length d] ∧ VRow wr (w.heap.size + 1) 25 [.slice a2 m.vs.length c2, .slice b2 m.ks.length d2] ∧ Below w.heap.size w wr) (fun i _ => n.ks.length - (intOf i).toNat)
      case atStart => exact ⟨0, Nat.zero_le _, rfl, rfl, unhide HR1, unhide HT1, unhide HB1⟩
      case round =>
        obtain ⟨k, hk, rfl, ht, hr, hs, hb⟩ := hrel
        have HTK := hide ht
        have HRk := hide hr
        have HTk := hide hs
        have HBk := hide hb
        have x1 := hr.cell 1 _ rfl
        have y1 := hs.cell 1 _ rfl
        clear ht hr hs hb
        by_cases hlt : k < n.ks.length
        · have hlt2 : k < m.ks.length := by have := unhide HL; omega
          obtain ⟨x, hx⟩ : ∃ x, n.ks[k]? = some x := ⟨_, List.getElem?_eq_getElem hlt⟩
          obtain ⟨y, hy⟩ : ∃ y, m.ks[k]? = some y := ⟨_, List.getElem?_eq_getElem hlt2⟩
          obtain ⟨g, o, rfl, hg, hc⟩ := (unhide HS1).after (unhide HBk) (by omega)
          obtain ⟨g2, o2, rfl, hg2, hc2⟩ := (unhide HS2).after (unhide HBk) (by omega)
          have HC1 := hide (hc k x hx)
          have HC2 := hide (hc2 k y hy)
          have HX1 := hide (unhide HD1 x (List.mem_of_getElem? hx))
          have HX2 := hide (unhide HD2 y (List.mem_of_getElem? hy))
          have HEQ := hide fun e => take_next (unhide HTK) hx hy e
          have HNE := hide fun e => take_ne hx hy e
          have HSK := hide (sameK_iff x y)
          have HG := hide hg
          have HG2 := hide hg2
          clear hg hg2 hc hc2 hx hy
          obtain ⟨E, hE⟩ : ∃ E, sameK x y = E := ⟨_, rfl⟩
          have HE := hide hE
          go_wp2_with fail
          have x1q : ∀ p : Regrown, (Go.Sort.grow (redrawn wr p.d) p.os).cell? ⟨w.heap.size, 1, none⟩ = some (.slice (some ⟨g, o, none⟩) n.ks.length d) := fun p => ((below_regrown wr p.d p.os).cell (p := ⟨w.heap.size, 1, none⟩) (unhide HRk).lt).trans x1
          have y1q : ∀ p : Regrown, (Go.Sort.grow (redrawn wr p.d) p.os).cell? ⟨w.heap.size + 1, 1, none⟩ = some (.slice (some ⟨g2, o2, none⟩) m.ks.length d2) := fun p => ((below_regrown wr p.d p.os).cell (p := ⟨w.heap.size + 1, 1, none⟩) (unhide HTk).lt).trans y1
          refine wp_region_quiet_below (by kernel_rfl) (by kernel_rfl) ?_
          iterate 4 (quiet_step (fail))
          refine quiet_kid (by rfl) (.tmp 31) (by rfl) g (o + k * 33) (by rfl) x (by rintro w' ⟨p, rfl⟩; exact range_after (unhide HC1) (unhide HG) (below_regrown _ _ _)) (unhide HX1) ?_
          iterate 4 (quiet_step (fail))
          refine quiet_kid (by rfl) (.tmp 36) (by rfl) g2 (o2 + k * 33) (by rfl) y (by rintro w' ⟨p, rfl⟩; exact range_after (unhide HC2) (unhide HG2) (below_regrown _ _ _)) (unhide HX2) ?_
          refine quiet_neqK (by rfl) (.tmp 32) (.tmp 37) (by rfl) x y (by rfl) (by rfl) (unhide HX1) (unhide HX2) ?_
          rw [unhide HE]
          refine wpQuiet_nil ?_
          rintro _ ⟨⟨dq, osq⟩, rfl⟩
          have HBq := hide (below_regrown wr dq osq)
          have HRq := hide ((unhide HRk).after (unhide HBq))
          have HTq := hide ((unhide HTk).after (unhide HBq))
          have HB0q := hide (below_grow (unhide HBk) (Nat.le_refl _) (unhide HBq))
          clear x1 y1 hE
          cases E with
          | true =>
            have HTK2 := hide (unhide HEQ ((unhide HSK).1 (unhide HE)))
            go_wp2_with fail
            go_roundw
            case rel => exact ⟨k + 1, by omega, by go_num, unhide HTK2, unhide HRq, unhide HTq, unhide HB0q⟩
            case measure => simp [intOf]; omega
          | false =>
            have HX : Hid (D = false) := hide (by
              cases D with
              | false => rfl
              | true => exact absurd ((unhide HD).1 rfl).2 (unhide HNE fun e => by have h := (unhide HSK).2 e; rw [unhide HE] at h; cases h))
            go_wp2_with fail
            go_ret
            exact ⟨ret_bool (unhide HX).symm, unhide HB0q⟩
        · obtain rfl : k = n.ks.length := by omega
          have HX : Hid (D = true) := hide ((unhide HD).2 ⟨unhide HV2, by
            have h := unhide HTK
            rw [List.take_length, unhide HL, List.take_length] at h
            exact h⟩)
          go_wp2_with fail
          go_ret
          exact ⟨ret_bool (unhide HX).symm, unhide HBk⟩
  · have hlb : (((n.ks.length : Nat) : Int) != (m.ks.length : Nat)) = true := bne_iff_ne.2 (by omega)
    have HX : Hid (D = false) := hide (by
      cases D with
      | false => rfl
      | true => exact absurd (congrArg List.length ((unhide HD).1 rfl).2) hl)
    go_enter Try.func12, Try.ntmps12
    go_wp2_with fail
    go_ret
    exact ⟨ret_bool (unhide HX).symm, unhide HB0⟩
end Go.Proofs.Ythchcjjpplcfnaa
