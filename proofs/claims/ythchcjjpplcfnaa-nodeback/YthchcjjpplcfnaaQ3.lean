/-
  Whether two nodes are the same: the program's. Conditions: those that each theorem names.
-/
import Derived.Test.YthchcjjpplcfnaaD4
import Derived.Test.YthchcjjpplcfnaaVSame
namespace Go.Proofs.Ythchcjjpplcfnaa
open Go.RowKit

set_option maxRecDepth 100000 in
set_option maxHeartbeats 2000000 in
theorem equalK_any (b : Option Addr) (d : Nat) (l : List Kd) (hl1 : l.length ≤ 100000) (hd1 : Digs l) (b2 : Option Addr) (d2 : Nat) (m : List Kd) (hl2 : m.length ≤ 100000) (hd2 : Digs m) (w : World) (h : SK w b l) (h2 : SK w b2 m) (D : Bool) (hD : D = true ↔ l = m) :
    Calls Try.prog 28 #[.slice b l.length d, .slice b2 m.length d2] w fun e w' => e = .returned (.bool D) ∧ Below w.heap.size w w' := by
  have HD := hide hD
  have HS1 := hide h
  have HS2 := hide h2
  have HD1 := hide hd1
  have HD2 := hide hd2
  clear h h2 hD hd1 hd2
  by_cases hl : l.length = m.length
  · have hlb : (((l.length : Nat) : Int) != (m.length : Nat)) = false := by rw [hl]; exact bne_self_eq_false _
    have HL := hide hl
    clear hl
    go_enter Try.func28, Try.ntmps28
    go_wp2_with fail
    go_loopw [13] (fun i wr => ∃ k : Nat, k ≤ l.length ∧ i = .int .i64 k ∧ l.take k = m.take k ∧ Below w.heap.size w wr) (fun i _ => l.length - (intOf i).toNat)
    case atStart => exact ⟨0, Nat.zero_le _, rfl, rfl, Below.refl _ _⟩
    case round =>
      obtain ⟨k, hk, rfl, ht, hb⟩ := hrel
      have HTK := hide ht
      have HBk := hide hb
      clear ht hb
      by_cases hlt : k < l.length
      · have hlt2 : k < m.length := by have := unhide HL; omega
        obtain ⟨x, hx⟩ : ∃ x, l[k]? = some x := ⟨_, List.getElem?_eq_getElem hlt⟩
        obtain ⟨y, hy⟩ : ∃ y, m[k]? = some y := ⟨_, List.getElem?_eq_getElem hlt2⟩
        obtain ⟨g, o, rfl, hg, hc⟩ := (unhide HS1).after (unhide HBk) (by omega)
        obtain ⟨g2, o2, rfl, hg2, hc2⟩ := (unhide HS2).after (unhide HBk) (by omega)
        have HC1 := hide (hc k x hx)
        have HC2 := hide (hc2 k y hy)
        have HX1 := hide (unhide HD1 x (List.mem_of_getElem? hx))
        have HX2 := hide (unhide HD2 y (List.mem_of_getElem? hy))
        have HEQ := hide fun e => take_next (unhide HTK) hx hy e
        have HNE := hide fun e => take_ne hx hy e
        have HSK := hide (sameK_iff x y)
        have HG := hide hg
        have HG2 := hide hg2
        clear hg hg2 hc hc2 hx hy
        obtain ⟨E, hE⟩ : ∃ E, sameK x y = E := ⟨_, rfl⟩
        have HE := hide hE
        go_wp2_with fail
        refine wp_region_quiet_below (by kernel_rfl) (by kernel_rfl) ?_
        iterate 3 (quiet_step (fail))
        refine quiet_kid (by rfl) (.tmp 18) (by rfl) g (o + k * 33) (by rfl) x (by rintro w' ⟨p, rfl⟩; exact range_after (unhide HC1) (unhide HG) (below_regrown _ _ _)) (unhide HX1) ?_
        iterate 3 (quiet_step (fail))
        refine quiet_kid (by rfl) (.tmp 22) (by rfl) g2 (o2 + k * 33) (by rfl) y (by rintro w' ⟨p, rfl⟩; exact range_after (unhide HC2) (unhide HG2) (below_regrown _ _ _)) (unhide HX2) ?_
        refine quiet_neqK (by rfl) (.tmp 19) (.tmp 23) (by rfl) x y (by rfl) (by rfl) (unhide HX1) (unhide HX2) ?_
        rw [unhide HE]
        refine wpQuiet_nil ?_
        rintro _ ⟨⟨dq, osq⟩, rfl⟩
        have HB0q := hide (below_grow (unhide HBk) (Nat.le_refl _) (below_regrown wr dq osq))
        clear hE
        cases E with
        | true =>
          have HTK2 := hide (unhide HEQ ((unhide HSK).1 (unhide HE)))
          go_wp2_with fail
          go_roundw
          case rel => exact ⟨k + 1, by omega, by go_num, unhide HTK2, unhide HB0q⟩
          case measure => simp [intOf]; omega
        | false =>
          have HX : Hid (D = false) := hide (by
            cases D with
            | false => rfl
            | true => exact absurd ((unhide HD).1 rfl) (unhide HNE fun e => by have h := (unhide HSK).2 e; rw [unhide HE] at h; cases h))
          go_wp2_with fail
          go_ret
          exact ⟨ret_bool (unhide HX).symm, unhide HB0q⟩
      · obtain rfl : k = l.length := by omega
        have HX : Hid (D = true) := hide ((unhide HD).2 (by
          have h := unhide HTK
          rw [List.take_length, unhide HL, List.take_length] at h
          exact h))
        go_wp2_with fail
        go_ret
        exact ⟨ret_bool (unhide HX).symm, unhide HBk⟩
  · have hlb : (((l.length : Nat) : Int) != (m.length : Nat)) = true := bne_iff_ne.2 (by omega)
    have HX : Hid (D = false) := hide (by
      cases D with
      | false => rfl
      | true => exact absurd (congrArg List.length ((unhide HD).1 rfl)) hl)
    go_enter Try.func28, Try.ntmps28
    go_wp2_with fail
    go_ret
    exact ⟨ret_bool (unhide HX).symm, Below.refl _ _⟩

set_option maxRecDepth 100000 in
set_option maxHeartbeats 2000000 in
theorem sameN_any (a : Option Addr) (c : Nat) (b : Option Addr) (d : Nat) (n : Nd) (hn : Nok n) (a2 : Option Addr) (c2 : Nat) (b2 : Option Addr) (d2 : Nat) (m : Nd) (hm : Nok m) (w : World) (h : NdAt w n a c b d) (h2 : NdAt w m a2 c2 b2 d2) (D : Bool) (hD : D = true ↔ n = m) :
    Calls Try.prog 9 #[.agg (ndL n a c b d).toArray, .agg (ndL m a2 c2 b2 d2).toArray] w fun e w' => e = .returned (.bool D) ∧ Below w.heap.size w w' := by
  have HB0 := hide ((below_alloc' (w := w) (.cells (ndL n a c b d).toArray 25)).alloc (by simp) (.cells (ndL m a2 c2 b2 d2).toArray 25))
  have HR := hide ((VRow.new w 25 (ndL n a c b d)).alloc (.cells (ndL m a2 c2 b2 d2).toArray 25))
  have HT := hide (VRow.newAt (W := w.alloc (.cells (ndL n a c b d).toArray 25)) (T := 25) (n := w.heap.size + 1) (vs := ndL m a2 c2 b2 d2) (by simp))
  have x0 := (unhide HR).cell 0 _ rfl
  have y0 := (unhide HT).cell 0 _ rfl
  obtain ⟨V, hV⟩ := bool_of (n.vs = m.vs)
  obtain ⟨K, hK⟩ := bool_of (n.ks = m.ks)
  have KV := hide (sameL_any a a2 c c2 n.vs m.vs hn.few hm.few _ ((h.after (unhide HB0)).sv) ((h2.after (unhide HB0)).sv) V hV)
  have KK := hide fun W h1 h2 => equalK_any b d n.ks hn.kids hn.digs b2 d2 m.ks hm.kids hm.digs W h1 h2 K hK
  have HX : Hid (D = (V && K)) := hide (by
    rw [nd_eq] at hD
    rw [Bool.eq_iff_iff, hD, Bool.and_eq_true, hV, hK])
  have HS1 := hide (h.after (unhide HB0)).sk
  have HS2 := hide (h2.after (unhide HB0)).sk
  clear h h2 hD hV hK hn hm
  unfold ndL at *
  go_enter Try.func9, Try.ntmps9
  go_wp2_with fail
  generalize (w.alloc (.cells _ 25)).alloc (.cells _ 25) = w0 at HB0 HR HT KV HS1 HS2 x0 y0 ⊢
  refine (unhide KV).mono ?_
  rintro e w1 ⟨rfl, hb⟩
  have HB1 := hide (below_grow (unhide HB0) (Nat.le_refl _) hb)
  have x1 := ((unhide HR).after hb).cell 1 _ rfl
  have y1 := ((unhide HT).after hb).cell 1 _ rfl
  have HS11 := hide ((unhide HS1).after hb)
  have HS21 := hide ((unhide HS2).after hb)
  clear hb x0 y0 KV
  cases V with
  | false =>
    go_wp2_with fail
    go_ret
    exact ⟨ret_bool (unhide HX).symm, unhide HB1⟩
  | true =>
    go_wp2_with fail
    refine (unhide KK _ (unhide HS11) (unhide HS21)).mono ?_
    rintro e w2 ⟨rfl, hb⟩
    have HB2 := hide (below_grow (unhide HB1) (Nat.le_refl _) hb)
    clear hb
    go_wp2_with fail
    go_ret
    exact ⟨ret_bool (by rw [unhide HX, Bool.true_and]), unhide HB2⟩
end Go.Proofs.Ythchcjjpplcfnaa
