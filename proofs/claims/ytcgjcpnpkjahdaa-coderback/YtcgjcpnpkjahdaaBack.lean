/-
  The walk of the law that says that what is put is taken again.
-/
import Derived.Test.YtcgjcpnpkjahdaaNil
namespace Go.Proofs.Ytcgjcpnpkjahdaa
open Go.RowKit

/-- The program's alone, in memory of the call's own. -/
structure Uno (X : World → Addr → St → (Nat → Prop) → Prop) (w : World) (p : Addr) (a : St) (own : Nat → Prop) (W : World) : Prop where
  wr : X W p a own
  lt : ∀ g, own g → g < W.heap.size
  fresh : ∀ g, own g → w.heap.size ≤ g
  below : Below w.heap.size w W
section
variable {X : World → Addr → St → (Nat → Prop) → Prop} {w : World} {p : Addr} {a : St} {own : Nat → Prop} {W W' : World}
theorem Uno.after (K : Kept X) (h : Uno X w p a own W) (hb : Below W.heap.size W W') : Uno X w p a own W' :=
  ⟨K.keep h.wr hb.size fun g hg => hb.block g (h.lt g hg), fun g hg => Nat.lt_of_lt_of_le (h.lt g hg) hb.size, h.fresh, below_grow h.below (Nat.le_refl _) hb⟩
theorem Uno.turn (K : Kept X) {a' : St} {v : Value} {e : Ending} (h : Uno X w p a own W) (hm : Turned X own p W a' v e W') : e = .returned v ∧ ∃ own', Uno X w p a' own' W' := by
  obtain ⟨own', h1, h2, h3, h4⟩ := hm
  exact ⟨h1, own', h2, K.lt h2, own_beside h.below (Nat.le_refl _) h.fresh h3, below_beside h.below (Nat.le_refl _) h.fresh h4⟩
end
theorem enc0 {x : Pc} (h : x.kind = 0) : enc x = Cnt.putL x.n := if_pos h
theorem enc1 {x : Pc} (h : x.kind = 1) : enc x = Cnt.putL x.s.size ++ x.s.data.toList := by unfold enc; rw [if_neg (by omega), if_pos h]
theorem enc2 {x : Pc} (h : x.kind = 2) : enc x = flagB (x.n == 1) := by unfold enc; rw [if_neg (by omega), if_neg (by omega), if_pos h]
theorem enc3 {x : Pc} (h : x.kind = 3) : enc x = x.d := by unfold enc; rw [if_neg (by omega), if_neg (by omega), if_neg (by omega), if_pos h]
theorem enc4 {x : Pc} (h0 : x.kind ≠ 0) (h1 : x.kind ≠ 1) (h2 : x.kind ≠ 2) (h3 : x.kind ≠ 3) : enc x = [] := by unfold enc; rw [if_neg h0, if_neg h1, if_neg h2, if_neg h3]
theorem encs_len (l : List Pc) (k : Nat) : (encs (l.drop k)).length ≤ (encs l).length := by
  have h : encs l = encs (l.take k) ++ encs (l.drop k) := by
    unfold encs
    rw [← List.flatten_append, ← List.map_append, List.take_append_drop]
  rw [h, List.length_append]
  omega

set_option maxRecDepth 100000 in
set_option maxHeartbeats 4000000 in
theorem back_any {Wr Rd} (P : Prg Wr Rd) (ad : Option Addr) (cap : Nat) (l : List Pc) (hl : l.length ≤ 9223372036854775807) (hall : ∀ x ∈ l, Pok x) (w : World) (h : PL w ad l) :
    Calls Try.prog 5 #[.slice ad l.length cap] w fun e w' => e = .returned (.bool true) ∧ Below w.heap.size w w' := by
  have PP := hide P
  have HK := hide P.wk
  have HKR := hide P.rk
  have HA := hide hall
  have HP := hide h
  have KG := hide (great_any ad cap l hl w h)
  obtain ⟨own0, hw0, ho0⟩ := P.wzero w
  have HD0 : Hid (Uno Wr w ⟨w.heap.size, 0, none⟩ ([], 0) own0 (w.alloc (.cells zeroW 29))) := hide ⟨hw0, P.wlt hw0, ho0, below_alloc' _⟩
  clear P h hall hw0 ho0
  go_enter Try.func5, Try.ntmps5
  go_wp2_with fail
  refine (unhide KG).mono ?_
  rintro e w0 ⟨G, rfl, hw, hG⟩
  have hw' := hw.symm
  subst hw'
  cases G with
  | true =>
    go_wp2_with fail
    refine (awake_any (unhide PP) _).mono ?_
    rintro e w1 ⟨rfl, hb⟩
    have HB := hide hb
    clear hb
    go_wp2_with fail
    go_ret
    exact ⟨rfl, unhide HB⟩
  | false =>
    have h60 := hG rfl
    have H60 := hide h60
    clear hG
    go_wp2_with fail
    go_loopw [4] (fun i wr => ∃ (k : Nat) (own : Nat → Prop), k ≤ l.length ∧ i = .int .i64 k ∧ Hid (Uno Wr w ⟨w.heap.size, 0, none⟩ (wAll ([], 0) (l.take k)) own wr)) (fun i _ => l.length - (intOf i).toNat)
    case atStart => exact ⟨0, own0, Nat.zero_le _, rfl, HD0⟩
    case round =>
      clear HD0
      obtain ⟨k, own, hk, rfl, HH⟩ := hrel
      have HF := hide (wAll_few (unhide HA) (unhide H60) k)
      by_cases hlt : k < l.length
      · obtain ⟨x, hx⟩ : ∃ x, l[k]? = some x := ⟨_, List.getElem?_eq_getElem hlt⟩
        have hok := unhide HA x (List.mem_of_getElem? hx)
        obtain ⟨g, o, rfl, hg, hc⟩ := (unhide HP).after (unhide HH).below (by omega)
        have HC := hide (hc k x hx)
        have HXL := hide (pcL_len hok)
        have HOK := hide hok
        have HS := hide (wAll_snoc ([], 0) l k x hx)
        generalize wAll ([], 0) (l.take k) = st at HH HF HS
        clear hok hg hc hx
        go_wp2_with (refine wpList_load_mid (by rfl) 36 (.tmp 25) (by rfl) g (o + k * 35) (by rfl) (pcL x) _ (unhide HC) Try.underlying36 rfl (by rw [size35, unhide HXL]) ?_)
        refine (put_any (unhide PP) ⟨w.heap.size, 0, none⟩ st own x (unhide HOK) (unhide HF) wr (unhide HH).wr).mono ?_
        intro e w2 hm
        obtain ⟨rfl, own2, hd2⟩ := (unhide HH).turn (unhide HK) hm
        rw [← unhide HS] at hd2
        have HD2 := hide hd2
        clear hm hd2 HC HH
        go_wp2_with fail
        go_roundw
        case rel => exact ⟨k + 1, own2, by omega, by go_num, HD2⟩
        case measure => simp [intOf]; omega
      · obtain rfl : k = l.length := by omega
        have HZ : Hid ((wAll ([], 0) (l.take l.length)).2 = 0 → (∀ x ∈ l, Okp x) ∧ wAll ([], 0) (l.take l.length) = (encs l, 0)) := hide (fun h => by
          rw [List.take_length] at h ⊢
          have := wAll_zero l ([], 0) h
          exact ⟨this.2.1, this.2.2⟩)
        generalize wAll ([], 0) (l.take l.length) = st at HH HF HZ
        go_wp2_with fail
        refine ((unhide PP).wDone (unhide HH).wr (unhide HF)).mono ?_
        rintro e w1 ⟨rfl, hb⟩
        have HD1 := hide (below_grow (unhide HH).below (Nat.le_refl _) hb)
        clear hb HH
        obtain ⟨b, e⟩ := st
        dsimp only at HF HZ ⊢
        by_cases he : e = 0
        · subst he
          obtain ⟨hop, hst⟩ := unhide HZ rfl
          injection hst with hst _
          subst hst
          have HOP := hide hop
          have KN := hide ((unhide PP).new (str (encs l)) w1 (by rw [str_size]; exact unhide HF))
          rw [str_data] at KN
          rw [show told (encs l, 0) = encs l from rfl]
          generalize str (encs l) = S at KN ⊢
          clear hop HZ
          go_wp2_with fail
          refine (unhide KN).mono ?_
          rintro e w2 ⟨p, own, rfl, hr, ho, hb⟩
          have HR0 : Hid (Uno Rd w p (encs (l.drop 0), 0) own w2) := hide ⟨hr, (unhide HKR).lt hr, fun g hg => Nat.le_trans (unhide HD1).size (ho g hg), below_grow (unhide HD1) (Nat.le_refl _) hb⟩
          clear hr ho hb
          go_wp2_with fail
          go_loopw [8] (fun i wr => ∃ (k : Nat) (own : Nat → Prop), k ≤ l.length ∧ i = .int .i64 k ∧ Hid (Uno Rd w p (encs (l.drop k), 0) own wr)) (fun i _ => l.length - (intOf i).toNat)
          case atStart => exact ⟨0, own, Nat.zero_le _, rfl, HR0⟩
          case round =>
            clear HR0
            obtain ⟨k, own, hk, rfl, HH⟩ := hrel
            by_cases hlt : k < l.length
            · obtain ⟨x, hx⟩ : ∃ x, l[k]? = some x := ⟨_, List.getElem?_eq_getElem hlt⟩
              have hok := unhide HA x (List.mem_of_getElem? hx)
              have HOX := hide (unhide HOP x (List.mem_of_getElem? hx))
              obtain ⟨g, o, rfl, hg, hc⟩ := (unhide HP).after (unhide HH).below (by omega)
              have HC := hide (hc k x hx)
              have HXL := hide (pcL_len hok)
              have HOK := hide hok
              have HEL := hide (Nat.le_trans (encs_len l k) (unhide HF))
              rw [encs_drop l k x hx] at HH HEL
              obtain ⟨r, hr⟩ : ∃ r, encs (l.drop (k + 1)) = r := ⟨_, rfl⟩
              rw [hr] at HH HEL
              have HRR := hide hr
              clear hok hg hc hx hr
              by_cases h0 : x.kind = 0
              · rw [enc0 h0] at HH HEL
                go_wp2_with (first | (refine wpList_load_mid (by rfl) 36 (.tmp 52) (by rfl) g (o + k * 35) (by rfl) (pcL x) _ (unhide HC) Try.underlying36 rfl (by rw [size35, unhide HXL]) ?_) | (refine store_row (by rfl) 36 (.tmp 9) (.tmp 53) (by rfl) wr.heap.size (pcL x) (by rfl) (by rfl) 36 zeroP (VRow.newAt rfl) 35 size35 (unhide HXL) rfl (pcL_one x) ?_; intro w1 ho1 hr1; have HB1 := hide ((below_alloc' (w := wr) (.cells zeroP.toArray 36)).trans (ho1.below (Nat.le_refl _))); have HR1 := hide hr1; have HD1 := hide ((unhide HH).after (unhide HKR) (unhide HB1)); have HNX : Hid (¬ own wr.heap.size) := hide (fun hg => Nat.lt_irrefl _ ((unhide HH).lt _ hg)); have c0 := (unhide HR1).cell 0 _ rfl; rw [h0] at c0; clear ho1 hr1))
                have HDX := hide ((unhide HD1).after (unhide HKR) (below_drew (Below.refl _ _)))
                have KC := hide ((unhide PP).rNumber (unhide HDX).wr (unhide HEL) 1073741824 ⟨by omega, by omega⟩)
                rw [back_number ((unhide HOX).1 h0).1 ((unhide HOX).1 h0).2 1073741824 ((unhide HOX).1 h0).2 r] at KC
                have SB : Hid (∀ W, VRow W wr.heap.size 36 (pcL x) → W.cell? ⟨wr.heap.size, 1, none⟩ = some (.int .i64 x.n)) := hide (fun W VV => (VV.cell 1 _ rfl))
                have HT : Hid (∀ (v : Value) e w', Turned Rd own p w1.drew (r, 0) v e w' → e = .returned v ∧ VRow w' wr.heap.size 36 (pcL x) ∧ ∃ own', Uno Rd w p (r, 0) own' w') := hide (fun v e w' hm => ⟨((unhide HDX).turn (unhide HKR) hm).1, Duo.turn_row (show VRow w1.drew _ _ _ from unhide HR1) (unhide HNX) hm, ((unhide HDX).turn (unhide HKR) hm).2⟩)
                go_region_held3 (fun w' => w'.cell? ⟨wr.heap.size, 1, none⟩ = some (.int .i64 x.n))
                  (first | exact unhide SB _ (unhide HR1) | exact unhide SB _ (by assumption))
                  (first | (go_at_call 18; refine (unhide KC).mono ?_; intro e w2 hm; obtain ⟨rfl, hv2, own2, hu2⟩ := unhide HT _ _ _ hm; clear hm))
                have H2 := hide hu2
                clear hu2 hv2 HDX KC SB HT HD1 HR1 HB1 HC HH
                rw [← unhide HRR] at H2
                go_wp2_with fail
                go_roundw
                case rel => exact ⟨k + 1, own2, by omega, by go_num, H2⟩
                case measure => simp [intOf]; omega
              · by_cases h1 : x.kind = 1
                · rw [enc1 h1] at HH HEL
                  go_wp2_with (first | (refine wpList_load_mid (by rfl) 36 (.tmp 52) (by rfl) g (o + k * 35) (by rfl) (pcL x) _ (unhide HC) Try.underlying36 rfl (by rw [size35, unhide HXL]) ?_) | (refine store_row (by rfl) 36 (.tmp 9) (.tmp 53) (by rfl) wr.heap.size (pcL x) (by rfl) (by rfl) 36 zeroP (VRow.newAt rfl) 35 size35 (unhide HXL) rfl (pcL_one x) ?_; intro w1 ho1 hr1; have HB1 := hide ((below_alloc' (w := wr) (.cells zeroP.toArray 36)).trans (ho1.below (Nat.le_refl _))); have HR1 := hide hr1; have HD1 := hide ((unhide HH).after (unhide HKR) (unhide HB1)); have HNX : Hid (¬ own wr.heap.size) := hide (fun hg => Nat.lt_irrefl _ ((unhide HH).lt _ hg)); have c0 := (unhide HR1).cell 0 _ rfl; rw [h1] at c0; clear ho1 hr1))
                  have HDX := hide ((unhide HD1).after (unhide HKR) (below_drew (Below.refl _ _)))
                  have KC := hide ((unhide PP).rText (unhide HDX).wr (unhide HEL) 65536 ⟨by omega, by omega⟩)
                  rw [back_text ((unhide HOX).2 h1) r] at KC
                  rw [str_of] at KC
                  have SB : Hid (∀ W, VRow W wr.heap.size 36 (pcL x) → W.cell? ⟨wr.heap.size, 2, none⟩ = some (.string x.s)) := hide (fun W VV => (VV.cell 2 _ rfl))
                  have HT : Hid (∀ (v : Value) e w', Turned Rd own p w1.drew (r, 0) v e w' → e = .returned v ∧ VRow w' wr.heap.size 36 (pcL x) ∧ ∃ own', Uno Rd w p (r, 0) own' w') := hide (fun v e w' hm => ⟨((unhide HDX).turn (unhide HKR) hm).1, Duo.turn_row (show VRow w1.drew _ _ _ from unhide HR1) (unhide HNX) hm, ((unhide HDX).turn (unhide HKR) hm).2⟩)
                  go_region_held3 (fun w' => w'.cell? ⟨wr.heap.size, 2, none⟩ = some (.string x.s))
                    (first | exact unhide SB _ (unhide HR1) | exact unhide SB _ (by assumption))
                    (first | (go_at_call 20; refine (unhide KC).mono ?_; intro e w2 hm; obtain ⟨rfl, hv2, own2, hu2⟩ := unhide HT _ _ _ hm; clear hm))
                  have H2 := hide hu2
                  clear hu2 hv2 HDX KC SB HT HD1 HR1 HB1 HC HH
                  rw [← unhide HRR] at H2
                  go_wp2_with fail
                  go_roundw
                  case rel => exact ⟨k + 1, own2, by omega, by go_num, H2⟩
                  case measure => simp [intOf]; omega
                · by_cases h2 : x.kind = 2
                  · rw [enc2 h2] at HH HEL
                    go_wp2_with (first | (refine wpList_load_mid (by rfl) 36 (.tmp 52) (by rfl) g (o + k * 35) (by rfl) (pcL x) _ (unhide HC) Try.underlying36 rfl (by rw [size35, unhide HXL]) ?_) | (refine store_row (by rfl) 36 (.tmp 9) (.tmp 53) (by rfl) wr.heap.size (pcL x) (by rfl) (by rfl) 36 zeroP (VRow.newAt rfl) 35 size35 (unhide HXL) rfl (pcL_one x) ?_; intro w1 ho1 hr1; have HB1 := hide ((below_alloc' (w := wr) (.cells zeroP.toArray 36)).trans (ho1.below (Nat.le_refl _))); have HR1 := hide hr1; have HD1 := hide ((unhide HH).after (unhide HKR) (unhide HB1)); have HNX : Hid (¬ own wr.heap.size) := hide (fun hg => Nat.lt_irrefl _ ((unhide HH).lt _ hg)); have c0 := (unhide HR1).cell 0 _ rfl; rw [h2] at c0; clear ho1 hr1))
                    have HDX := hide ((unhide HD1).after (unhide HKR) (below_drew (Below.refl _ _)))
                    have KC := hide ((unhide PP).rFlag (unhide HDX).wr (unhide HEL))
                    rw [back_flag (x.n == 1) r] at KC
                    have SB : Hid (∀ W, VRow W wr.heap.size 36 (pcL x) → W.cell? ⟨wr.heap.size, 1, none⟩ = some (.int .i64 x.n)) := hide (fun W VV => (VV.cell 1 _ rfl))
                    have HT : Hid (∀ (v : Value) e w', Turned Rd own p w1.drew (r, 0) v e w' → e = .returned v ∧ VRow w' wr.heap.size 36 (pcL x) ∧ ∃ own', Uno Rd w p (r, 0) own' w') := hide (fun v e w' hm => ⟨((unhide HDX).turn (unhide HKR) hm).1, Duo.turn_row (show VRow w1.drew _ _ _ from unhide HR1) (unhide HNX) hm, ((unhide HDX).turn (unhide HKR) hm).2⟩)
                    go_region_held3 (fun w' => w'.cell? ⟨wr.heap.size, 1, none⟩ = some (.int .i64 x.n))
                      (first | exact unhide SB _ (unhide HR1) | exact unhide SB _ (by assumption))
                      (first | (go_at_call 22; refine (unhide KC).mono ?_; intro e w2 hm; obtain ⟨rfl, hv2, own2, hu2⟩ := unhide HT _ _ _ hm; clear hm))
                    have H2 := hide hu2
                    clear hu2 hv2 HDX KC SB HT HD1 HR1 HB1 HC HH
                    rw [← unhide HRR] at H2
                    go_wp2_with fail
                    go_roundw
                    case rel => exact ⟨k + 1, own2, by omega, by go_num, H2⟩
                    case measure => simp [intOf]; omega
                  · by_cases h3 : x.kind = 3
                    · rw [enc3 h3] at HH HEL
                      go_wp2_with (first | (refine wpList_load_mid (by rfl) 36 (.tmp 52) (by rfl) g (o + k * 35) (by rfl) (pcL x) _ (unhide HC) Try.underlying36 rfl (by rw [size35, unhide HXL]) ?_) | (refine store_row (by rfl) 36 (.tmp 9) (.tmp 53) (by rfl) wr.heap.size (pcL x) (by rfl) (by rfl) 36 zeroP (VRow.newAt rfl) 35 size35 (unhide HXL) rfl (pcL_one x) ?_; intro w1 ho1 hr1; have HB1 := hide ((below_alloc' (w := wr) (.cells zeroP.toArray 36)).trans (ho1.below (Nat.le_refl _))); have HR1 := hide hr1; have HD1 := hide ((unhide HH).after (unhide HKR) (unhide HB1)); have HNX : Hid (¬ own wr.heap.size) := hide (fun hg => Nat.lt_irrefl _ ((unhide HH).lt _ hg)); have c0 := (unhide HR1).cell 0 _ rfl; rw [h3] at c0; clear ho1 hr1))
                      have HDX := hide ((unhide HD1).after (unhide HKR) (below_drew (Below.refl _ _)))
                      have KC := hide ((unhide PP).rDigest (unhide HDX).wr (unhide HEL))
                      rw [back_digest (unhide HOK).2.2.2 r] at KC
                      have hsm := same33 x.d (unhide HOK).2.2.2
                      have hu33 := Try.underlying34
                      have hi33 : (Try.prog.info? 34).map (·.size) = some (x.d.map byteVal).length := by rw [size33, List.length_map]; exact congrArg some (unhide HOK).2.2.2.symm
                      have SB : Hid (∀ W, VRow W wr.heap.size 36 (pcL x) → W.rangeAt wr.heap.size 3 (x.d.map byteVal)) := hide (fun W VV => (by have h9 := range_d (x := x) VV.range; rw [Nat.zero_add] at h9; exact h9))
                      have HT : Hid (∀ (v : Value) e w', Turned Rd own p w1.drew (r, 0) v e w' → e = .returned v ∧ VRow w' wr.heap.size 36 (pcL x) ∧ ∃ own', Uno Rd w p (r, 0) own' w') := hide (fun v e w' hm => ⟨((unhide HDX).turn (unhide HKR) hm).1, Duo.turn_row (show VRow w1.drew _ _ _ from unhide HR1) (unhide HNX) hm, ((unhide HDX).turn (unhide HKR) hm).2⟩)
                      go_region_held3 (fun w' => w'.rangeAt wr.heap.size 3 (x.d.map byteVal))
                        (first | exact unhide SB _ (unhide HR1) | exact unhide SB _ (by assumption))
                        (first | (go_at_call 24; refine (unhide KC).mono ?_; intro e w2 hm; obtain ⟨rfl, hv2, own2, hu2⟩ := unhide HT _ _ _ hm; clear hm))
                      have H2 := hide hu2
                      clear hu2 hv2 HDX KC SB HT HD1 HR1 HB1 HC HH
                      rw [← unhide HRR] at H2
                      go_wp2_with fail
                      go_roundw
                      case rel => exact ⟨k + 1, own2, by omega, by go_num, H2⟩
                      case measure => simp [intOf]; omega
                    · rw [enc4 h0 h1 h2 h3, List.nil_append] at HH
                      by_cases h4 : x.kind = 4
                      · go_wp2_with (first | (refine wpList_load_mid (by rfl) 36 (.tmp 52) (by rfl) g (o + k * 35) (by rfl) (pcL x) _ (unhide HC) Try.underlying36 rfl (by rw [size35, unhide HXL]) ?_) | (refine store_row (by rfl) 36 (.tmp 9) (.tmp 53) (by rfl) wr.heap.size (pcL x) (by rfl) (by rfl) 36 zeroP (VRow.newAt rfl) 35 size35 (unhide HXL) rfl (pcL_one x) ?_; intro w1 ho1 hr1; have HB1 := hide ((below_alloc' (w := wr) (.cells zeroP.toArray 36)).trans (ho1.below (Nat.le_refl _))); have HR1 := hide hr1; have HD1 := hide ((unhide HH).after (unhide HKR) (unhide HB1)); have HNX : Hid (¬ own wr.heap.size) := hide (fun hg => Nat.lt_irrefl _ ((unhide HH).lt _ hg)); have c0 := (unhide HR1).cell 0 _ rfl; rw [h4] at c0; clear ho1 hr1))
                        rw [← unhide HRR] at HD1
                        go_roundw
                        case rel => exact ⟨k + 1, own, by omega, by go_num, HD1⟩
                        case measure => simp [intOf]; omega
                      · go_wp2_with (first | (refine wpList_load_mid (by rfl) 36 (.tmp 52) (by rfl) g (o + k * 35) (by rfl) (pcL x) _ (unhide HC) Try.underlying36 rfl (by rw [size35, unhide HXL]) ?_) | (refine store_row (by rfl) 36 (.tmp 9) (.tmp 53) (by rfl) wr.heap.size (pcL x) (by rfl) (by rfl) 36 zeroP (VRow.newAt rfl) 35 size35 (unhide HXL) rfl (pcL_one x) ?_; intro w1 ho1 hr1; have HB1 := hide ((below_alloc' (w := wr) (.cells zeroP.toArray 36)).trans (ho1.below (Nat.le_refl _))); have HR1 := hide hr1; have HD1 := hide ((unhide HH).after (unhide HKR) (unhide HB1)); have HNX : Hid (¬ own wr.heap.size) := hide (fun hg => Nat.lt_irrefl _ ((unhide HH).lt _ hg)); have c0 := (unhide HR1).cell 0 _ rfl; skip; clear ho1 hr1))
                        rw [← unhide HRR] at HD1
                        go_roundw
                        case rel => exact ⟨k + 1, own, by omega, by go_num, HD1⟩
                        case measure => simp [intOf]; omega
            · obtain rfl : k = l.length := by omega
              rw [List.drop_length] at HH
              go_wp2_with fail
              refine ((unhide PP).rDone (unhide HH).wr).mono ?_
              rintro e w3 ⟨rfl, hb⟩
              have H3 := hide ((unhide HH).after (unhide HKR) hb)
              clear hb HH
              rw [show rDone (encs [], 0) = 0 from rfl]
              go_wp2_with fail
              refine ((unhide PP).rLeft (unhide H3).wr).mono ?_
              rintro e w4 ⟨rfl, hb⟩
              have H4 := hide (below_grow (unhide H3).below (Nat.le_refl _) hb)
              clear hb H3
              rw [show (((encs [], (0 : Int)) : St).1.length : Int) = 0 from rfl]
              go_wp2_with fail
              refine (awake_any (unhide PP) _).mono ?_
              rintro e w5 ⟨rfl, hb⟩
              have HB := hide (below_grow (unhide H4) (Nat.le_refl _) hb)
              clear hb
              go_wp2_with fail
              go_ret
              exact ⟨rfl, unhide HB⟩
        · rw [show told (b, e) = [] from if_pos he]
          rw [show str [] = ⟨#[]⟩ from rfl]
          have hne : (e != 0) = true := by simp [he]
          clear HZ
          go_wp2_with fail
          refine (awake_any (unhide PP) _).mono ?_
          rintro e w5 ⟨rfl, hb⟩
          have HB := hide (below_grow (unhide HD1) (Nat.le_refl _) hb)
          clear hb
          go_wp2_with fail
          go_ret
          exact ⟨rfl, unhide HB⟩
end Go.Proofs.Ytcgjcpnpkjahdaa
