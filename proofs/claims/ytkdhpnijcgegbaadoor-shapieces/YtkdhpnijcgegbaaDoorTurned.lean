/-
  What rowOf answers: the row of words that a block comes to.
-/
import Derived.Test.YtkdhpnijcgegbaaDoorWords
namespace Go.Proofs.YtkdhpnijcgegbaaDoor
open Go.RowKit

def zero64 : List Nat := List.replicate 64 0

theorem below_drewN {B : Nat} {a w : World} (h : Below B a w) (q : Nat) : Below B a (w.drewN q) := ⟨h.os, h.tape, h.output, h.size, h.block⟩

theorem or4_bits (a b c d : Nat) (ha : a < 256) (hb : b < 256) (hc : c < 256) (hd : d < 256) :
    bits .or .u32 (bits .or .u32 (bits .or .u32 ((a : Int) * 16777216) ((b : Int) * 65536)) ((c : Int) * 256)) (d : Int) = ((((a * 256 + b) * 256 + c) * 256 + d : Nat) : Int) := by
  have e1 : (a : Int) * 16777216 = ((a * 16777216 : Nat) : Int) := by omega
  have e2 : (b : Int) * 65536 = ((b * 65536 : Nat) : Int) := by omega
  have e3 : (c : Int) * 256 = ((c * 256 : Nat) : Int) := by omega
  have h1 : a * 16777216 ||| b * 65536 < 4294967296 := Nat.or_lt_two_pow (n := 32) (by omega) (by omega)
  have h2 : a * 16777216 ||| b * 65536 ||| c * 256 < 4294967296 := Nat.or_lt_two_pow (n := 32) h1 (by omega)
  rw [e1, e2, e3, u32_or_nat _ _ (by omega) (by omega), u32_or_nat _ _ h1 (by omega), u32_or_nat _ _ h2 (by omega), Sha.or4 a b c d hb hc hd]

theorem s0_bits (x : Nat) (hx : x < 4294967296) : bits .xor .u32 (bits .xor .u32 (Sha.rotr x 7 : Int) (Sha.rotr x 18 : Int)) ((x : Int) / 8) = ((Sha.s0 x : Nat) : Int) := by
  have e : (x : Int) / 8 = ((x / 8 : Nat) : Int) := by omega
  rw [e, u32_xor_nat _ _ (Sha.rotr_lt _ _ hx) (Sha.rotr_lt _ _ hx), u32_xor_nat _ _ (Nat.xor_lt_two_pow (n := 32) (Sha.rotr_lt _ _ hx) (Sha.rotr_lt _ _ hx)) (by omega)]; rfl
theorem s1_bits (x : Nat) (hx : x < 4294967296) : bits .xor .u32 (bits .xor .u32 (Sha.rotr x 17 : Int) (Sha.rotr x 19 : Int)) ((x : Int) / 1024) = ((Sha.s1 x : Nat) : Int) := by
  have e : (x : Int) / 1024 = ((x / 1024 : Nat) : Int) := by omega
  rw [e, u32_xor_nat _ _ (Sha.rotr_lt _ _ hx) (Sha.rotr_lt _ _ hx), u32_xor_nat _ _ (Nat.xor_lt_two_pow (n := 32) (Sha.rotr_lt _ _ hx) (Sha.rotr_lt _ _ hx)) (by omega)]; rfl

theorem wide_set (bs : List UInt8) (hb : bs.length = 64) (j : Nat) (h1 : 16 ≤ j) (h2 : j < 64) :
    (Sha.wide bs (j - 16) ++ zero64.drop j).set j (Sha.next (Sha.wide bs (j - 16))) = Sha.wide bs (j + 1 - 16) ++ zero64.drop (j + 1) := by
  have hl := (Sha.ok_wide bs hb (j - 16)).1
  rw [show j + 1 - 16 = (j - 16) + 1 by omega, Sha.wide, List.set_append_right _ _ (by omega), hl, show j - (16 + (j - 16)) = 0 by omega,
    List.drop_eq_getElem_cons (show j < zero64.length by simpa [zero64] using h2), List.set_cons_zero, List.append_assoc, List.singleton_append]

theorem wide_get (bs : List UInt8) (hb : bs.length = 64) (j : Nat) (h1 : 16 ≤ j) (i : Nat) (hi : i < j) :
    (Sha.wide bs (j - 16) ++ zero64.drop j)[i]? = some ((Sha.wide bs (j - 16)).getD i 0) ∧ (Sha.wide bs (j - 16)).getD i 0 < 4294967296 := by
  have hk := Sha.ok_wide bs hb (j - 16)
  refine ⟨?_, hk.get i (by omega)⟩
  have hl : i < (Sha.wide bs (j - 16)).length := by rw [hk.1]; omega
  rw [List.getElem?_append_left hl, List.getElem?_eq_getElem hl]
  simp [List.getD, hl]

set_option maxRecDepth 100000 in
set_option maxHeartbeats 1000000 in
theorem rowOf_any (bs : List UInt8) (hb : bs.length = 64) (w : World) :
    Calls Tryd.prog 26 #[.agg (bs.map byteVal).toArray] w fun e w' => e = .returned (.agg ((Sha.wide bs 48).map u).toArray) ∧ Below w.heap.size w w' := by
  obtain ⟨vs, hvs⟩ : ∃ vs, bs.map byteVal = vs := ⟨_, rfl⟩
  rw [hvs]
  have HV := hide hvs
  clear hvs
  go_enter Tryd.func26, Tryd.ntmps26
  go_wp2_with fail
  go_loopw [10] (fun i wr => ∃ k : Nat, k ≤ 16 ∧ i = .int .i64 k ∧ VRow wr w.heap.size 31 vs ∧ VRow wr (w.heap.size + 1) 46 (zero64.map u) ∧ VRow wr (w.heap.size + 2) 46 (((Sha.firsts bs 16).take k ++ zero64.drop k).map u) ∧ Below w.heap.size w wr) (fun i _ => 16 - (intOf i).toNat)
  case atStart => exact ⟨0, Nat.zero_le _, rfl, ((VRow.newAt rfl).alloc _).alloc _, VRow.alloc (VRow.newAt (by simp)) _, VRow.newAt (by simp), (((Below.refl _ _).alloc (Nat.le_refl _) _).alloc (by simp) _).alloc (by simp; omega) _⟩
  case round =>
    obtain ⟨k, hk, rfl, hws, hz, hrow, hbl⟩ := hrel
    have HW := hide hws
    have HR := hide hrow
    have HZ := hide hz
    have HB := hide hbl
    by_cases hlt : k < 16
    · rw [← unhide HV] at hws
      have c0 := hws.byte (4 * k) (by omega)
      have c1 := hws.byte (4 * k + 1) (by omega)
      have c2 := hws.byte (4 * k + 2) (by omega)
      have c3 := hws.byte (4 * k + 3) (by omega)
      have b0 := bs[4 * k].toNat_lt
      have b1 := bs[4 * k + 1].toNat_lt
      have b2 := bs[4 * k + 2].toNat_lt
      have b3 := bs[4 * k + 3].toNat_lt
      have eW : Sha.wordAt bs k = ((bs[4 * k].toNat * 256 + bs[4 * k + 1].toNat) * 256 + bs[4 * k + 2].toNat) * 256 + bs[4 * k + 3].toNat := Sha.wordAt_four bs k (by omega)
      have HN : Hid (((Sha.firsts bs 16).take k ++ zero64.drop k).set k (Sha.wordAt bs k) = (Sha.firsts bs 16).take (k + 1) ++ zero64.drop (k + 1)) := by
        have hl : k < (Sha.firsts bs 16).length := by simpa [Sha.firsts] using hlt
        have e : (Sha.firsts bs 16)[k] = Sha.wordAt bs k := by simp [Sha.firsts]
        rw [← e]
        exact hide (Sha.mid_set _ _ k hl (by simp [zero64]; omega))
      generalize bs[4 * k].toNat = a0 at c0 b0 eW
      generalize bs[4 * k + 1].toNat = a1 at c1 b1 eW
      generalize bs[4 * k + 2].toNat = a2 at c2 b2 eW
      generalize bs[4 * k + 3].toNat = a3 at c3 b3 eW
      have hor := or4_bits a0 a1 a2 a3 b0 b1 b2 b3
      rw [← eW] at hor
      generalize Sha.wordAt bs k = X at hor HN
      clear eW
      have c4 : ∃ v, wr.cell? ⟨w.heap.size + 2, k, none⟩ = some v := ⟨_, hrow.cell k ((((Sha.firsts bs 16).take k ++ zero64.drop k).map u)[k]'(by simp [Sha.firsts, zero64]; omega)) (List.getElem?_eq_getElem _)⟩
      obtain ⟨v0, c4⟩ := c4
      have f4 := hrow.frozen k
      clear hws hz hrow hbl
      go_wp2_with fail
      go_region
      go_wp2_with fail
      go_roundw
      case rel =>
        refine ⟨k + 1, by omega, by go_num, ((unhide HW).setOther _ (by simp; omega) _).drew, ((unhide HZ).setOther _ (by simp) _).drew, ?_, ((unhide HB).setCell (p := ⟨w.heap.size + 2, k, none⟩) (by simp) _).drew⟩
        rw [← unhide HN]
        exact ((unhide HR).setWord k X).drew
      case measure => simp [intOf]; omega
    · obtain rfl : k = 16 := by omega
      have HR1 : Hid (VRow wr (w.heap.size + 2) 46 ((Sha.wide bs (16 - 16) ++ zero64.drop 16).map u)) := by
        rw [List.take_of_length_le (by simp [Sha.firsts])] at hrow
        exact hide hrow
      clear hws hz hrow hbl HR HW
      go_wp2_with fail
      go_loopw [5] (fun i wr => ∃ k : Nat, 16 ≤ k ∧ k ≤ 64 ∧ i = .int .i64 k ∧ VRow wr (w.heap.size + 1) 46 (zero64.map u) ∧ VRow wr (w.heap.size + 2) 46 ((Sha.wide bs (k - 16) ++ zero64.drop k).map u) ∧ Below w.heap.size w wr) (fun i _ => 64 - (intOf i).toNat)
      case atStart => exact ⟨16, Nat.le_refl _, by decide, rfl, unhide HZ, unhide HR1, unhide HB⟩
      case round =>
        clear HR1 HZ HB
        obtain ⟨k, hk, hk2, rfl, hz, hrow, hbl⟩ := hrel
        have HR := hide hrow
        have HZ := hide hz
        have HB := hide hbl
        by_cases hlt : k < 64
        · have HN := hide (wide_set bs hb k hk hlt)
          obtain ⟨g2, l2⟩ := wide_get bs hb k hk (k - 2) (by omega)
          obtain ⟨g15, l15⟩ := wide_get bs hb k hk (k - 15) (by omega)
          obtain ⟨g16, l16⟩ := wide_get bs hb k hk (k - 16) (by omega)
          obtain ⟨g7, l7⟩ := wide_get bs hb k hk (k - 7) (by omega)
          have c2 := hrow.word (k - 2) _ g2
          have c15 := hrow.word (k - 15) _ g15
          have c16 := hrow.word (k - 16) _ g16
          have c7 := hrow.word (k - 7) _ g7
          have eN : Sha.next (Sha.wide bs (k - 16)) = ((Sha.wide bs (k - 16)).getD (k - 16) 0 + Sha.s0 ((Sha.wide bs (k - 16)).getD (k - 15) 0) + (Sha.wide bs (k - 16)).getD (k - 7) 0 + Sha.s1 ((Sha.wide bs (k - 16)).getD (k - 2) 0)) % 4294967296 := by
            rw [Sha.next, (Sha.ok_wide bs hb (k - 16)).1, show 16 + (k - 16) = k by omega]
          have c4 : ∃ v, wr.cell? ⟨w.heap.size + 2, k, none⟩ = some v := ⟨_, hrow.cell k (((Sha.wide bs (k - 16) ++ zero64.drop k).map u)[k]'(by simp [(Sha.ok_wide bs hb (k - 16)).1, zero64]; omega)) (List.getElem?_eq_getElem _)⟩
          obtain ⟨v0, c4⟩ := c4
          have f4 := hrow.frozen k
          clear g2 g15 g16 g7
          generalize (Sha.wide bs (k - 16)).getD (k - 2) 0 = x2 at c2 eN l2
          generalize (Sha.wide bs (k - 16)).getD (k - 15) 0 = x15 at c15 eN l15
          generalize (Sha.wide bs (k - 16)).getD (k - 16) 0 = x16 at c16 eN l16
          generalize (Sha.wide bs (k - 16)).getD (k - 7) 0 = x7 at c7 eN l7
          generalize Sha.next (Sha.wide bs (k - 16)) = X at eN HN
          have hs0 := s0_bits x15 l15
          have hs1 := s1_bits x2 l2
          have hA : ((x16 : Int) + (Sha.s0 x15 : Int) + (x7 : Int) + (Sha.s1 x2 : Int)) % 4294967296 = (X : Int) := by rw [eN]; simp
          clear hz hrow hbl eN
          go_wp2_with fail
          go_quiet (fail)
          go_wp2_with (first | (go_at_call 28; refine (turned_any _ ?_ _ ?_ ?_ _).mono ?_ <;> first | assumption | decide | rintro x w1 ⟨rfl, rfl⟩))
          go_region
          go_wp2_with fail
          go_roundw
          case rel =>
            (repeat apply Exists.intro)
            refine ⟨?_, rfl⟩
            refine ⟨k + 1, by omega, by omega, by go_num, ((unhide HZ).drewN _).setOther _ (by simp) _, ?_, (below_drewN (unhide HB) _).setCell (p := ⟨w.heap.size + 2, k, none⟩) (by simp) _⟩
            rw [← unhide HN]
            exact ((unhide HR).drewN _).setWord k X
          case measure => simp [intOf]; omega
        · obtain rfl : k = 64 := by omega
          have HR2 : Hid (VRow wr (w.heap.size + 2) 46 ((Sha.wide bs 48).map u)) := by
            rw [List.drop_of_length_le (by simp [zero64]), List.append_nil] at hrow
            exact hide hrow
          have hL : (Sha.wide bs 48).length = 64 := (Sha.ok_wide bs hb 48).1
          clear hz hrow hbl HR
          go_wp2_with (first
            | (refine load_row (by rfl) 46 _ (by rfl) (w.heap.size + 2) (by rfl) 46 _ (unhide HR2) 64 64 29 Tryd.underlying46 size46 (by rw [List.length_map]; exact hL) ?_)
            | (refine store_row (by rfl) 46 _ _ (by rfl) (w.heap.size + 1) _ (by rfl) (by rfl) 46 (zero64.map u) (unhide HZ) 64 size46 (by rw [List.length_map]; exact hL) (by simp [zero64]) (one_words _) ?_; intro w2 ho2 hr2; have HO2 := hide ho2; have HR3 := hide hr2; clear ho2 hr2))
          refine bodyPost_ret (v := .agg ((Sha.wide bs 48).map u).toArray) ?_ rfl ⟨rfl, ?_⟩
          · exact results_cell_row rfl _ _ (w.heap.size + 1) 46 _ (0, 0) _ rfl (unhide HR3) Tryd.underlying46 rfl (by rw [size46]; simp [hL])
          · exact (unhide HB).trans ((unhide HO2).below (by omega))
end Go.Proofs.YtkdhpnijcgegbaaDoor
