/-
  What take does: the full block goes into the words.
-/
import Derived.Test.YtkdhpnijcgegbaaDoorTurned
import Derived.Deep.RegionWith
namespace Go.Proofs.YtkdhpnijcgegbaaDoor
open Go.RowKit

def sumCells (gain : List Nat) (op : List UInt8) (len : Nat) : List Value := gain.map u ++ (op.map byteVal ++ [.int .u64 (len : Int)])

theorem VRow.setGain {W : World} {B : Nat} {g : List Nat} {op : List UInt8} {len : Nat} (h : VRow W B 34 (sumCells g op len)) (k x : Nat) (hk : k < g.length) : VRow (W.setCell ⟨B, k, none⟩ (.int .u32 (x : Int))) B 34 (sumCells (g.set k x) op len) := by
  have := h.set k (.int .u32 (x : Int))
  rwa [sumCells, List.set_append_left _ _ (by simpa using hk), show (Value.int .u32 (x : Int)) = u x from rfl, ← List.map_set] at this

theorem Glob.only {w w' : World} {B : Nat} (h : Glob w) (ho : Only B w w') (hB : 2 < B) : Glob w' := h.below (ho.below (Nat.le_refl _)) hB

theorem key_at (i : Nat) (h : i < 64) : Sha.keys[i]? = some (Sha.keys.getD i 0) := by
  have hl : i < Sha.keys.length := h
  simp [List.getD, hl]

theorem row_at (L : List Nat) (n i : Nat) (hL : L.length = n) (h : i < n) : L[i]? = some (L.getD i 0) := by
  have hl : i < L.length := by rw [hL]; exact h
  simp [List.getD, hl]

theorem start_gain (gain r : List Nat) : List.zipWith Sha.add Sha.start (List.zipWith Sha.add gain r) = List.zipWith Sha.add (List.zipWith Sha.add Sha.start gain) r := by
  apply List.ext_getElem
  · simp [Nat.min_assoc]
  · intro i h1 h2
    simp only [List.getElem_zipWith, Sha.add]
    omega

theorem step_mod (ws : List Nat) (k : Nat) : Sha.step ws (k % 4294967296) = Sha.step ws k := by
  unfold Sha.step
  split
  · simp only [Sha.t1, Nat.add_mod_mod]
  · rfl

set_option maxRecDepth 100000 in
set_option maxHeartbeats 1000000 in
theorem take_any (B : Nat) (gain : List Nat) (hg : Sha.Ok 8 gain) (op : List UInt8) (hop : op.length = 64) (len : Nat) (w : World) (hs : VRow w B 34 (sumCells gain op len)) (hG : Glob w) :
    Calls Tryd.prog 21 #[.pointer (some ⟨B, 0, none⟩)] w fun e w' => e = .returned (.tuple #[]) ∧ VRow w' B 34 (sumCells (List.zipWith Sha.add gain (Sha.run (List.zipWith Sha.add Sha.start gain) (Sha.wide op 48) 64)) op len) ∧ Below B w w' := by
  have HS := hide hs
  have HG := hide hG
  have HM : Hid (w.rangeAt B 8 (op.map byteVal)) := hide fun j v hv => by
    have hj : j < 64 := by
      have := (List.getElem?_eq_some_iff.1 hv).1
      simpa [hop] using this
    refine hs.cell (8 + j) v ?_
    rw [sumCells, List.getElem?_append_right (by simp [hg.1]), List.getElem?_append_left (by simp [hg.1, hop]; omega)]
    simpa [hg.1] using hv
  clear hs hG
  have hL : (Sha.wide op 48).length = 64 := (Sha.ok_wide op hop 48).1
  have hOW : Sha.Ok 64 (Sha.wide op 48) := Sha.ok_wide op hop 48
  have hOG : Sha.Ok 8 (List.zipWith Sha.add Sha.start gain) := ⟨by simp [Sha.start, hg.1], fun x hx => by
    simp only [List.mem_iff_getElem, List.getElem_zipWith] at hx
    obtain ⟨j, _, rfl⟩ := hx
    exact Nat.mod_lt _ (by decide)⟩
  generalize hRW : Sha.wide op 48 = RW at hL hOW
  generalize hWS : List.zipWith Sha.add Sha.start gain = WS at hOG
  obtain ⟨FIN, hFIN⟩ : ∃ FIN, Sha.run WS RW 64 = FIN := ⟨_, rfl⟩
  have hOF : Sha.Ok 8 FIN := hFIN ▸ hOG.run RW 64
  rw [hFIN]
  have HFIN : ∀ n, n = 64 → Sha.run WS RW n = FIN := fun n hn => hn ▸ hFIN
  clear hFIN
  have HRW : ∀ n, n = 48 → Sha.wide op n = RW := fun n hn => hn ▸ hRW
  have HWS := hide hWS
  clear hRW hWS
  go_enter Tryd.func21, Tryd.ntmps21
  go_wp2_with (first
    | (refine wpList_load_mid (by rfl) 31 _ (by rfl) B 8 (by rfl) (op.map byteVal) _ (unhide HM) Tryd.underlying31 rfl (by rw [size31]; simp [hop]) ?_)
    | (go_at_call 26; refine (rowOf_any op hop _).mono ?_; rintro e w1 ⟨rfl, hb1⟩; rw [HRW 48 rfl]; have HB1 := hide hb1; clear hb1)
    | (refine store_row (by rfl) 46 _ _ (by rfl) w1.heap.size (RW.map u) (by rfl) (by rfl) 46 (zero64.map u) (VRow.newAt rfl) 64 size46 (by simp [hL]) (by simp [zero64]) (one_words _) ?_; intro w2 ho2 hr2; have HB2 := hide (((unhide HB1).alloc (unhide HB1).size _).trans (ho2.below (unhide HB1).size)); have HR2 := hide hr2; clear ho2 hr2)
    | (go_at_call 24; refine (words_any B gain hg _ _ (show VRow w2 B 34 (gain.map u ++ _) from (unhide HS).below (unhide HB2) (unhide HS).lt) ((unhide HG).below (unhide HB2) (unhide HG).lt2)).mono ?_; rintro e w3 ⟨rfl, hb3⟩; rw [unhide HWS]; have HB3 := hide hb3; clear hb3)
    | (refine store_row (by rfl) 30 _ _ (by rfl) w3.heap.size (WS.map u) (by rfl) (by rfl) 30 (Sha.zero8.map u) (VRow.newAt rfl) 8 size30 (by simp [hOG.1]) rfl (one_words _) ?_; intro w4 ho4 hr4; have HO4 := hide ho4; have HR4 := hide hr4; clear ho4 hr4))
  have h23 := (unhide HB3).size
  have h12 := (unhide HR2).lt
  have h01 := (unhide HB1).size
  have HW4 : Hid (VRow w4 w1.heap.size 46 (RW.map u)) := ((((unhide HR2).below (unhide HB3) (unhide HR2).lt).alloc _).only (unhide HO4) (by omega))
  have HB4 : Hid (Below w.heap.size w w4) := (((unhide HB2).trans ((unhide HB3).mono (unhide HB2).size)).alloc (by omega) _).trans ((unhide HO4).below (by omega))
  clear HB1 HB2 HB3 HR2 HO4 HM
  go_loopw [13] (fun i wr => ∃ k : Nat, k ≤ 64 ∧ i = .int .i64 k ∧ VRow wr w3.heap.size 30 ((Sha.run WS RW k).map u) ∧ VRow wr w1.heap.size 46 (RW.map u) ∧ Below w.heap.size w wr) (fun i _ => 64 - (intOf i).toNat)
  case atStart => exact ⟨0, Nat.zero_le _, rfl, unhide HR4, unhide HW4, unhide HB4⟩
  case round =>
    clear HR4 HW4 HB4
    obtain ⟨k, hk, rfl, hws, hrow, hbl⟩ := hrel
    have HW := hide hws
    have HR := hide hrow
    have HB := hide hbl
    by_cases hlt : k < 64
    · have c1 := ((unhide HG).below hbl (unhide HG).lt2).added k _ (key_at k hlt)
      have c2 := hrow.word k _ (row_at RW 64 k hL hlt)
      have HN : Hid (Sha.step (Sha.run WS RW k) ((Sha.keys.getD k 0 + RW.getD k 0) % 4294967296) = Sha.run WS RW (k + 1)) := by rw [step_mod]; exact hide rfl
      have hA : IntKind.u32.wrap ((Sha.keys.getD k 0 : Int) + (RW.getD k 0 : Int)) = (((Sha.keys.getD k 0 + RW.getD k 0) % 4294967296 : Nat) : Int) := by rw [IntKind.wrap_u32]; simp
      generalize Sha.keys.getD k 0 = K at c1 hA HN
      generalize RW.getD k 0 = X at c2 hA HN
      generalize (K + X) % 4294967296 = KX at hA HN
      have HOK := hide (hOG.run RW k)
      generalize Sha.run WS RW k = Y at HW HN HOK
      clear hws hrow hbl
      go_wp2_with fail
      go_region_with (go_at_call 27; refine (turn_list w3.heap.size KX Y (unhide HOK) _ (VRow.drew (unhide HW))).mono ?_; rintro e w5 ⟨rfl, hr5, ho5⟩)
      all_goals
        go_wp2_with fail
        go_roundw
        case rel =>
          refine ⟨k + 1, by omega, by go_num, ?_, (unhide HR).drew.only ho5 (by omega), (unhide HB).drew.trans (ho5.below (by omega))⟩
          rw [← unhide HN]
          exact hr5
        case measure => simp [intOf]; omega
    · obtain rfl : k = 64 := by omega
      have HW2 : Hid (VRow wr w3.heap.size 30 (FIN.map u)) := by rw [HFIN 64 rfl] at hws; exact hide hws
      clear hws hrow hbl HW HR HFIN HRW
      have HS1 := hide ((unhide HS).below (unhide HB) (unhide HS).lt)
      have hBs := (unhide HS).lt
      go_wp2_with fail
      go_loopw [25] (fun i wr => ∃ k : Nat, k ≤ 8 ∧ i = .int .i64 k ∧ VRow wr w3.heap.size 30 (FIN.map u) ∧ VRow wr B 34 (sumCells ((List.zipWith Sha.add gain FIN).take k ++ gain.drop k) op len) ∧ Below B w wr) (fun i _ => 8 - (intOf i).toNat)
      case atStart => exact ⟨0, Nat.zero_le _, rfl, unhide HW2, unhide HS1, (unhide HB).mono (by omega)⟩
      case round =>
        clear HW2 HS1 HB
        obtain ⟨k, hk, rfl, hws, hrow, hbl⟩ := hrel
        have HW := hide hws
        have HR := hide hrow
        have HB := hide hbl
        by_cases hlt : k < 8
        · have hl : k < (List.zipWith Sha.add gain FIN).length := by simp [hg.1, hOF.1]; exact hlt
          have hgk : k < gain.length := by rw [hg.1]; exact hlt
          have c1 := hws.word k _ (row_at FIN 8 k hOF.1 hlt)
          have c2 : wr.cell? ⟨B, k, none⟩ = some (.int .u32 (gain.getD k 0 : Int)) := hrow.cell k _ (by
            rw [sumCells, List.getElem?_append_left (by simp [hg.1, hOF.1]; omega), List.getElem?_map, Sha.mid_get _ _ _ (by omega), row_at gain 8 k hg.1 hlt]; rfl)
          have f2 := hrow.frozen k
          have e : (List.zipWith Sha.add gain FIN)[k] = Sha.add (gain.getD k 0) (FIN.getD k 0) := by
            have h1 := row_at gain 8 k hg.1 hlt
            have h2 := row_at FIN 8 k hOF.1 hlt
            rw [List.getElem?_eq_some_iff] at h1 h2
            obtain ⟨_, h1⟩ := h1
            obtain ⟨_, h2⟩ := h2
            rw [List.getElem_zipWith, h1, h2]
          have HN : Hid (((List.zipWith Sha.add gain FIN).take k ++ gain.drop k).set k (Sha.add (gain.getD k 0) (FIN.getD k 0)) = (List.zipWith Sha.add gain FIN).take (k + 1) ++ gain.drop (k + 1)) := by
            rw [← e]
            exact hide (Sha.mid_set _ _ k hl hgk)
          have hA : IntKind.u32.wrap ((gain.getD k 0 : Int) + (FIN.getD k 0 : Int)) = ((Sha.add (gain.getD k 0) (FIN.getD k 0) : Nat) : Int) := by rw [IntKind.wrap_u32]; simp [Sha.add]
          have HL : Hid (k < ((List.zipWith Sha.add gain FIN).take k ++ gain.drop k).length) := hide (by simp [hg.1, hOF.1]; omega)
          generalize Sha.add (gain.getD k 0) (FIN.getD k 0) = A at hA HN
          generalize gain.getD k 0 = X at c2 hA
          generalize FIN.getD k 0 = Y at c1 hA
          clear hws hrow hbl e hl hgk
          go_wp2_with fail
          go_region
          go_wp2_with fail
          go_roundw
          case rel =>
            refine ⟨k + 1, by omega, by go_num, ((unhide HW).setOther _ (by simp; omega) _).drew, ?_, ((unhide HB).setCell (p := ⟨B, k, none⟩) (Nat.le_refl _) _).drew⟩
            rw [← unhide HN]
            exact ((unhide HR).setGain k A (unhide HL)).drew
          case measure => simp [intOf]; omega
        · obtain rfl : k = 8 := by omega
          rw [Sha.mid_all _ _ 8 (by simp [hg.1, hOF.1]) (by rw [hg.1]; exact Nat.le_refl _)] at HR
          clear hws hrow hbl
          go_wp2_with fail
          go_end0
          exact ⟨rfl, unhide HR, unhide HB⟩
end Go.Proofs.YtkdhpnijcgegbaaDoor
