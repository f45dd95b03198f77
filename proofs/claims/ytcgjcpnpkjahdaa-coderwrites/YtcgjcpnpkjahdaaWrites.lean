/-
  The walk of the law that says which bytes pieces come to.
-/
import Derived.Test.YtcgjcpnpkjahdaaPut1
namespace Go.Proofs.Ytcgjcpnpkjahdaa
open Go.RowKit

/-- The program's and the document's, side by side, in memory of the call's own. -/
structure Duo (X : World → Addr → St → (Nat → Prop) → Prop) (w : World) (p : Addr) (q T : Nat) (a b : St) (own : Nat → Prop) (W : World) : Prop where
  wr : X W p a own
  lt : ∀ g, own g → g < W.heap.size
  fresh : ∀ g, own g → w.heap.size ≤ g
  doc : Doc W q T b
  hq : w.heap.size ≤ q
  nq : ¬ own q
  below : Below w.heap.size w W
section
variable {X : World → Addr → St → (Nat → Prop) → Prop} {w : World} {p : Addr} {q T : Nat} {a b : St} {own : Nat → Prop} {W W' : World}
/-- What X keeps. -/
structure Kept (X : World → Addr → St → (Nat → Prop) → Prop) : Prop where
  lt : ∀ {w p st own}, X w p st own → ∀ g, own g → g < w.heap.size
  keep : ∀ {w w' p st own}, X w p st own → w.heap.size ≤ w'.heap.size → (∀ g, own g → w'.heap[g]? = w.heap[g]?) → X w' p st own
theorem Prg.wk {Wr Rd} (P : Prg Wr Rd) : Kept Wr := ⟨P.wlt, P.wkeep⟩
theorem Prg.rk {Wr Rd} (P : Prg Wr Rd) : Kept Rd := ⟨P.rlt, P.rkeep⟩
theorem Duo.after (K : Kept X) (h : Duo X w p q T a b own W) (hb : Below W.heap.size W W') : Duo X w p q T a b own W' :=
  ⟨K.keep h.wr hb.size fun g hg => hb.block g (h.lt g hg), fun g hg => Nat.lt_of_lt_of_le (h.lt g hg) hb.size, h.fresh, h.doc.after hb, h.hq, h.nq, below_grow h.below (Nat.le_refl _) hb⟩
theorem Duo.turn (K : Kept X) {a' : St} {v : Value} {e : Ending} (h : Duo X w p q T a b own W) (hm : Turned X own p W a' v e W') : e = .returned v ∧ ∃ own', Duo X w p q T a' b own' W' := by
  obtain ⟨own', h1, h2, h3, h4⟩ := hm
  refine ⟨h1, own', h2, K.lt h2, own_beside h.below (Nat.le_refl _) h.fresh h3, VRow.beside h.doc h4 h.nq, h.hq, fun hq => ?_, below_beside h.below (Nat.le_refl _) h.fresh h4⟩
  rcases h3 q hq with h5 | h5
  · exact h.nq h5
  · have := h.doc.lt; omega
theorem Duo.docs (K : Kept X) {b' : St} {v : Value} {e : Ending} (h : Duo X w p q T a b own W) (hm : DocMade q T W b' v e W') : e = .returned v ∧ Duo X w p q T a b' own W' :=
  ⟨hm.1, K.keep h.wr hm.2.2.size fun g hg => hm.2.2.block g (h.lt g hg) (fun (e : g = q) => h.nq (by subst e; exact hg)), fun g hg => Nat.lt_of_lt_of_le (h.lt g hg) hm.2.2.size, h.fresh, hm.2.1, h.hq, h.nq, below_beside h.below (Nat.le_refl _) (fun g (e : g = q) => by subst e; exact h.hq) hm.2.2⟩
/-- A block of the call's own that neither has. -/
theorem Duo.turn_row {V : Nat} {vs : List Value} {B : Nat} {a' : St} {v : Value} {e : Ending} (hB : VRow W B V vs) (hn : ¬ own B) (hm : Turned X own p W a' v e W') : VRow W' B V vs := by
  obtain ⟨own', h1, h2, h3, h4⟩ := hm
  exact VRow.beside hB h4 hn
end
theorem wAll_len : ∀ (l : List Pc) (st : St), (∀ x ∈ l, Pok x) → (wAll st l).1.length ≤ st.1.length + l.length * 65541
  | [], st, _ => by simp [wAll]
  | x :: l, st, h => by
    have h1 := wPiece_len (x := x) (h x (by simp)).2.2.2 st
    have h2 := wAll_len l (wPiece st x) fun y hy => h y (List.mem_cons_of_mem _ hy)
    show (wAll (wPiece st x) l).1.length ≤ _
    rw [List.length_cons]
    omega
theorem wAll_few {l : List Pc} (h : ∀ x ∈ l, Pok x) (h60 : l.length ≤ 60) (k : Nat) : (wAll ([], 0) (l.take k)).1.length ≤ 50000000 := by
  have h1 := wAll_len (l.take k) ([], 0) fun x hx => h x (List.mem_of_mem_take hx)
  rw [List.length_take] at h1
  have h2 : min k l.length * 65541 ≤ 60 * 65541 := Nat.mul_le_mul_right _ (by omega)
  simp only [List.length_nil] at h1
  omega
abbrev zeroP : List Value := .int .i64 0 :: .int .i64 0 :: .string ⟨#[]⟩ :: zero32.map byteVal

set_option maxRecDepth 100000 in
set_option maxHeartbeats 4000000 in
theorem writes_any {Wr Rd} (P : Prg Wr Rd) (ad : Option Addr) (cap : Nat) (l : List Pc) (hl : l.length ≤ 9223372036854775807) (hall : ∀ x ∈ l, Pok x) (w : World) (h : PL w ad l) :
    Calls Try.prog 3 #[.slice ad l.length cap] w fun e w' => e = .returned (.bool true) ∧ Below w.heap.size w w' := by
  have PP := hide P
  have HK := hide P.wk
  have HA := hide hall
  have HP := hide h
  have KG := hide (great_any ad cap l hl w h)
  obtain ⟨own0, hw0, ho0⟩ := P.wzero w
  have HD0 : Hid (Duo Wr w ⟨w.heap.size, 0, none⟩ (w.heap.size + 1) 32 ([], 0) ([], 0) own0 ((w.alloc (.cells zeroW 29)).alloc (.cells #[.string ⟨#[]⟩, .int .i64 0] 32))) := hide (by
    have h1 := P.wlt hw0
    have hb := below_alloc' (w := w.alloc (.cells zeroW 29)) (.cells #[.string ⟨#[]⟩, .int .i64 0] 32)
    refine ⟨P.wafter hw0 hb, fun g hg => Nat.lt_of_lt_of_le (h1 g hg) hb.size, ho0, VRow.newAt (vs := [.string ⟨#[]⟩, .int .i64 0]) (by simp), Nat.le_succ _, fun hg => ?_, below_grow (below_alloc' _) (Nat.le_refl _) hb⟩
    have := h1 _ hg
    simp at this)
  clear P h hall hw0 ho0
  go_enter Try.func3, Try.ntmps3
  go_wp2_with fail
  refine (unhide KG).mono ?_
  rintro e w0 ⟨G, rfl, hw, hG⟩
  have hw' := hw.symm
  subst hw'
  cases G with
  | true =>
    go_wp2_with fail
    refine (awake_any (unhide PP) _).mono ?_
    rintro e w1 ⟨rfl, hb⟩
    have HB := hide hb
    clear hb
    go_wp2_with fail
    go_ret
    exact ⟨rfl, unhide HB⟩
  | false =>
    have h60 := hG rfl
    have H60 := hide h60
    clear hG
    go_wp2_with fail
    go_loopw [5] (fun i wr => ∃ (k : Nat) (own : Nat → Prop), k ≤ l.length ∧ i = .int .i64 k ∧ Hid (Duo Wr w ⟨w.heap.size, 0, none⟩ (w.heap.size + 1) 32 (wAll ([], 0) (l.take k)) (wAll ([], 0) (l.take k)) own wr)) (fun i _ => l.length - (intOf i).toNat)
    case atStart => exact ⟨0, own0, Nat.zero_le _, rfl, HD0⟩
    case round =>
      clear HD0
      obtain ⟨k, own, hk, rfl, HH⟩ := hrel
      have HF := hide (wAll_few (unhide HA) (unhide H60) k)
      by_cases hlt : k < l.length
      · obtain ⟨x, hx⟩ : ∃ x, l[k]? = some x := ⟨_, List.getElem?_eq_getElem hlt⟩
        have hok := unhide HA x (List.mem_of_getElem? hx)
        obtain ⟨g, o, rfl, hg, hc⟩ := (unhide HP).after (unhide HH).below (by omega)
        have HC := hide (hc k x hx)
        have HXL := hide (pcL_len hok)
        have HOK := hide hok
        have HS := hide (wAll_snoc ([], 0) l k x hx)
        generalize wAll ([], 0) (l.take k) = st at HH HF HS
        obtain ⟨st', hst'⟩ : ∃ s, wAll ([], 0) (l.take (k + 1)) = s := ⟨_, rfl⟩
        rw [hst'] at HS
        have HST := hide hst'
        clear hst'
        clear hok hg hc hx
        go_wp2_with (first
          | (refine wpList_load_mid (by rfl) 36 (.tmp 26) (by rfl) g (o + k * 35) (by rfl) (pcL x) _ (unhide HC) Try.underlying36 rfl (by rw [size35, unhide HXL]) ?_)
          | (refine store_row (by rfl) 36 (.tmp 6) (.tmp 27) (by rfl) wr.heap.size (pcL x) (by rfl) (by rfl) 36 zeroP (VRow.newAt rfl) 35 size35 (unhide HXL) rfl (pcL_one x) ?_; intro w1 ho1 hr1; have HB1 := hide ((below_alloc' (w := wr) (.cells zeroP.toArray 36)).trans (ho1.below (Nat.le_refl _))); have HR1 := hide hr1; have HD1 := hide ((unhide HH).after (unhide HK) (unhide HB1)); have HNX : Hid (¬ own wr.heap.size) := hide (fun hg => Nat.lt_irrefl _ ((unhide HH).lt _ hg)); clear ho1 hr1)
          | (refine wpList_load_mid (by rfl) 36 (.tmp 6) (by rfl) wr.heap.size 0 (by rfl) (pcL x) _ (unhide HR1).range Try.underlying36 rfl (by rw [size35, unhide HXL]) ?_))
        refine (put_any (unhide PP) ⟨w.heap.size, 0, none⟩ st own x (unhide HOK) (unhide HF) w1 (unhide HD1).wr).mono ?_
        intro e w2 hm
        have HR2 := hide (Duo.turn_row (unhide HR1) (unhide HNX) hm)
        obtain ⟨rfl, own2, hd2⟩ := (unhide HD1).turn (unhide HK) hm
        have HD2 := hide hd2
        have c0 := (unhide HR2).cell 0 _ rfl
        have c1 := (unhide HR2).cell 1 _ rfl
        have c2 := (unhide HR2).cell 2 _ rfl
        have HRD := hide (range_d (x := x) (unhide HR2).range)
        clear hm hd2 HD1 HR1 HB1 HC HH
        rw [Nat.zero_add] at HRD
        by_cases h0 : x.kind = 0
        · rw [wPiece0 h0] at HS HD2
          rw [h0] at c0
          go_wp2_with fail
          refine (refNumberW_any _ st x.n (Nat.le_trans (unhide HF) (by decide)) w2 (unhide HD2).doc).mono ?_
          intro e w3 hm
          obtain ⟨rfl, hd3⟩ := (unhide HD2).docs (unhide HK) hm
          rw [← unhide HS] at hd3
          have HD3 := hide hd3
          clear hm hd3 HD2
          go_wp2_with fail
          go_roundw
          case rel => exact ⟨k + 1, own2, by omega, by go_num, by rw [unhide HST]; exact HD3⟩
          case measure => simp [intOf]; omega
        · by_cases h1 : x.kind = 1
          · rw [wPiece1 h1] at HS HD2
            rw [h1] at c0
            go_wp2_with fail
            refine (refTextW_any _ st x.s (unhide HOK).2.2.1 (Nat.le_trans (unhide HF) (by decide)) w2 (unhide HD2).doc).mono ?_
            intro e w3 hm
            obtain ⟨rfl, hd3⟩ := (unhide HD2).docs (unhide HK) hm
            rw [← unhide HS] at hd3
            have HD3 := hide hd3
            clear hm hd3 HD2
            go_wp2_with fail
            go_roundw
            case rel => exact ⟨k + 1, own2, by omega, by go_num, by rw [unhide HST]; exact HD3⟩
            case measure => simp [intOf]; omega
          · by_cases h2 : x.kind = 2
            · rw [wPiece2 h2] at HS HD2
              rw [h2] at c0
              go_wp2_with fail
              refine (refFlagW_any _ st (x.n == 1) (Nat.le_trans (unhide HF) (by decide)) w2 (unhide HD2).doc).mono ?_
              intro e w3 hm
              obtain ⟨rfl, hd3⟩ := (unhide HD2).docs (unhide HK) hm
              rw [← unhide HS] at hd3
              have HD3 := hide hd3
              clear hm hd3 HD2
              go_wp2_with fail
              go_roundw
              case rel => exact ⟨k + 1, own2, by omega, by go_num, by rw [unhide HST]; exact HD3⟩
              case measure => simp [intOf]; omega
            · by_cases h3 : x.kind = 3
              · rw [wPiece3 h3] at HS HD2
                rw [h3] at c0
                go_wp2_with (refine wpList_load_mid (by rfl) 34 (.tmp 55) (by rfl) wr.heap.size 3 (by rfl) (x.d.map byteVal) _ (unhide HRD) Try.underlying34 rfl (by rw [size33, List.length_map]; exact congrArg some (unhide HOK).2.2.2.symm) ?_)
                refine (refDigestW_any _ st x.d (unhide HOK).2.2.2 (Nat.le_trans (unhide HF) (by decide)) w2 (unhide HD2).doc).mono ?_
                intro e w3 hm
                obtain ⟨rfl, hd3⟩ := (unhide HD2).docs (unhide HK) hm
                rw [← unhide HS] at hd3
                have HD3 := hide hd3
                clear hm hd3 HD2
                go_wp2_with fail
                go_roundw
                case rel => exact ⟨k + 1, own2, by omega, by go_num, by rw [unhide HST]; exact HD3⟩
                case measure => simp [intOf]; omega
              · by_cases h4 : x.kind = 4
                · rw [wPiece4 h4] at HS HD2
                  rw [h4] at c0
                  have hand := and15 x.n
                  go_wp2_with fail
                  refine (refFailW_any _ st (low4 x.n) w2 (unhide HD2).doc).mono ?_
                  intro e w3 hm
                  obtain ⟨rfl, hd3⟩ := (unhide HD2).docs (unhide HK) hm
                  rw [← unhide HS] at hd3
                  have HD3 := hide hd3
                  clear hm hd3 HD2
                  go_wp2_with fail
                  go_roundw
                  case rel => exact ⟨k + 1, own2, by omega, by go_num, by rw [unhide HST]; exact HD3⟩
                  case measure => simp [intOf]; omega
                · rw [wPiece5 h0 h1 h2 h3 h4] at HS HD2
                  rw [← unhide HS] at HD2
                  go_wp2_with fail
                  go_roundw
                  case rel => exact ⟨k + 1, own2, by omega, by go_num, by rw [unhide HST]; exact HD2⟩
                  case measure => simp [intOf]; omega
      · obtain rfl : k = l.length := by omega
        generalize wAll ([], 0) (l.take l.length) = st at HH HF
        go_wp2_with fail
        refine ((unhide PP).wDone (unhide HH).wr (unhide HF)).mono ?_
        rintro e w1 ⟨rfl, hb⟩
        have HD1 := hide ((unhide HH).after (unhide HK) hb)
        clear hb HH
        go_wp2_with fail
        refine (refDoneW_any _ st w1 (unhide HD1).doc).mono ?_
        rintro e w2 ⟨rfl, hb⟩
        have HB2 := hide (below_grow (unhide HD1).below (Nat.le_refl _) hb)
        clear hb HD1
        go_wp2_with fail
        refine (awake_any (unhide PP) _).mono ?_
        rintro e w3 ⟨rfl, hb⟩
        have HB := hide (below_grow (unhide HB2) (Nat.le_refl _) hb)
        clear hb
        go_wp2_with fail
        go_ret
        exact ⟨rfl, unhide HB⟩
end Go.Proofs.Ytcgjcpnpkjahdaa
