/-
  Whether two lists of texts are the same, and what Parts answers: a path's names.
-/
import Derived.Test.YtdibhedofbnbfaaRefCheck
namespace Go.Proofs.Ytdibhedofbnbfaa
open Go.RowKit

theorem data_inj (a b : ByteArray) (h : a.data.toList = b.data.toList) : a = b := ByteArray.ext (Array.toList_inj.1 h)
theorem lists_inj : ∀ bs cs : List ByteArray, lists bs = lists cs → bs = cs
  | [], [], _ => rfl
  | [], _ :: _, h => by cases h
  | _ :: _, [], h => by cases h
  | b :: bs, c :: cs, h => by
    have h' : b.data.toList :: lists bs = c.data.toList :: lists cs := h
    rw [List.cons.injEq] at h'
    rw [data_inj b c h'.1, lists_inj bs cs h'.2]

theorem toList_eq (a b : ByteArray) : (a.toList == b.toList) = decide (a = b) := by
  rw [Bool.eq_iff_iff, beq_iff_eq, decide_eq_true_eq, Lib.toList_data, Lib.toList_data]
  exact ⟨data_inj a b, fun h => by rw [h]⟩

set_option maxRecDepth 100000 in
set_option maxHeartbeats 1000000 in
theorem same_any (a1 a2 : Option Addr) (c1 c2 : Nat) (bs cs : List ByteArray) (hb : bs.length ≤ 100000) (w : World) (h1 : Sl w a1 bs) (h2 : Sl w a2 cs) (D : Bool) (hD : D = true ↔ lists bs = lists cs) :
    Calls Try.prog 15 #[.slice a1 bs.length c1, .slice a2 cs.length c2] w fun e w' => e = .returned (.bool D) ∧ ∃ n, w' = w.drewN n := by
  have H1 := hide h1
  have H2 := hide h2
  have HD := hide hD
  clear h1 h2 hD
  by_cases hlen : bs.length = cs.length
  · have hlb : ((bs.length : Int) != (cs.length : Int)) = false := by rw [hlen]; simp
    have hlen' : cs.length = bs.length := hlen.symm
    have HLEN := hide hlen
    clear hlen hlen'
    have hle : cs.length ≤ bs.length ∧ bs.length ≤ cs.length := by have := unhide HLEN; omega
    obtain ⟨hle1, hle2⟩ := hle
    go_enter Try.func15, Try.ntmps15
    go_wp2_with fail
    go_loopw [5] (fun i wr => ∃ k q : Nat, k ≤ bs.length ∧ i = .int .i64 k ∧ (∀ j : Nat, j < k → bs[j]? = cs[j]?) ∧ wr = w.drewN q) (fun i _ => bs.length - (intOf i).toNat)
    case atStart => exact ⟨0, 0, Nat.zero_le _, rfl, fun j hj => absurd hj (Nat.not_lt_zero _), rfl⟩
    case round =>
      obtain ⟨k, q, hk, rfl, hall, rfl⟩ := hrel
      have HALL := hide hall
      clear hall
      by_cases hlt : k < bs.length
      · obtain ⟨x, hx⟩ : ∃ x, bs[k]? = some x := ⟨_, List.getElem?_eq_getElem hlt⟩
        obtain ⟨y, hy⟩ : ∃ y, cs[k]? = some y := ⟨_, List.getElem?_eq_getElem (by omega)⟩
        obtain ⟨g1, o1, rfl, _, hc1⟩ := unhide H1 (by omega)
        obtain ⟨g2, o2, rfl, _, hc2⟩ := unhide H2 (by omega)
        have e1 : w.cell? ⟨g1, o1 + k, none⟩ = some (.string x) := hc1 k x hx
        have e2 : w.cell? ⟨g2, o2 + k, none⟩ = some (.string y) := hc2 k y hy
        have ht := toList_eq x y
        by_cases hxy : x = y
        · have HALL2 : Hid (∀ j : Nat, j < k + 1 → bs[j]? = cs[j]?) := by
            intro j hj
            by_cases e : j = k
            · subst e; rw [hx, hy, hxy]
            · exact unhide HALL j (by omega)
          have ht' : (x.toList == y.toList) = true := by rw [ht]; exact decide_eq_true hxy
          clear ht hxy hc1 hc2 hx hy
          go_wp2_with fail
          go_quiet (fail)
          go_wp2_with fail
          go_roundw
          case rel => exact ⟨k + 1, _, by omega, by go_num, unhide HALL2, rfl⟩
          case measure => simp [intOf]; omega
        · obtain rfl : D = false := by
            cases D with
            | false => rfl
            | true =>
              have := lists_inj _ _ ((unhide HD).1 rfl)
              rw [this, hy] at hx
              exact absurd (Option.some.inj hx).symm hxy
          have ht' : (x.toList == y.toList) = false := by rw [ht]; exact decide_eq_false hxy
          clear ht hxy hc1 hc2 hx hy
          go_wp2_with fail
          go_quiet (fail)
          go_wp2_with fail
          go_ret
          exact ⟨rfl, _, World.drewN_drewN _ _ _⟩
      · obtain rfl : D = true := by
          rw [unhide HD]
          have : bs = cs := by
            apply List.ext_getElem?
            intro j
            rcases Nat.lt_or_ge j k with h | h
            · exact unhide HALL j h
            · rw [List.getElem?_eq_none (by omega), List.getElem?_eq_none (by omega)]
          rw [this]
        go_wp2_with fail
        go_ret
        exact ⟨rfl, q, rfl⟩
  · obtain rfl : D = false := by
      cases D with
      | false => rfl
      | true => exact absurd (congrArg List.length (lists_inj _ _ ((unhide HD).1 rfl))) hlen
    have hlb : ((bs.length : Int) != (cs.length : Int)) = true := by rw [bne_iff_ne]; omega
    clear hlen
    go_enter Try.func15, Try.ntmps15
    go_wp2_with fail
    go_ret
    exact ⟨rfl, 0, rfl⟩

theorem row4_cells {W : World} {g : Nat} {PS : List Pt.Bs} (h : VRow W g 38 (row4 PS)) (bs : List ByteArray) (hb : lists bs = PS) (j : Nat) (hj : j < bs.length) : W.cell? ⟨g, 0 + j, none⟩ = some (.string (bs.getD j ByteArray.empty)) := by
  rw [Nat.zero_add]
  have e : PS[j]? = some (bs.getD j ByteArray.empty).data.toList := by
    rw [← hb, lists, List.getElem?_map, List.getElem?_eq_getElem hj]
    simp [List.getD, hj]
  rw [h.cell j _ (row4_get PS j _ e), str_data]

def ofList (l : Pt.Bs) : ByteArray := ⟨l.toArray⟩
theorem lists_ofList (ps : List Pt.Bs) : lists (ps.map ofList) = ps := by
  unfold lists ofList
  rw [List.map_map]
  simp [Function.comp_def]

theorem slice_four (n : Nat) (hn : n ≤ 4) (g : Nat) (w : World) :
    Sem.run Try.prog (Instr.sliceAt 38 (.pointer (some ⟨g, 0, none⟩)) none (some (.int .i64 (n : Int))) none) w = .ok (.slice (some ⟨g, 0, none⟩) n 4) w := by
  have hal : Try.prog.arrayLen 38 = 4 := by kernel_rfl
  have hel : Try.prog.elem 38 = 9 := by kernel_rfl
  have h := run_sliceAt_array_h (P := Try.prog) w 38 ⟨g, 0, none⟩ (by kernel_rfl) .i64 (n : Int) (by omega) (by rw [hal]; omega)
  rw [h, hel, hal, Try.sizeOf9]
  simp [Result.andThen, slicedAt, Addr.add]

theorem own_sl {W : World} {base : Nat} {v : Value} {bs : List ByteArray} (h : W.ownsRow base 9 1 v bs.length (bs.map Value.string)) : ∃ a cap, v = .slice a bs.length cap ∧ bs.length ≤ cap ∧ Sl W a bs := by
  by_cases h0 : 0 < bs.length
  · obtain ⟨g, cap, e, hb⟩ := Buf.owned h h0
    exact ⟨_, cap, e, hb.fits, hb.sl⟩
  · obtain ⟨_, ⟨e, hn⟩ | ⟨g, cap, cur, e, _, _, h1, _⟩⟩ := h
    · exact ⟨none, 0, by rw [e, hn], by omega, fun h => absurd h h0⟩
    · exact ⟨_, cap, e, h1, fun h => absurd h h0⟩

set_option maxRecDepth 100000 in
set_option maxHeartbeats 1000000 in
theorem parts_any (s : ByteArray) (hs : s.size ≤ 100000) (w : World) :
    Calls Try.prog 16 #[.string s] w fun e w' => ∃ a cap bs, e = .returned (.slice a bs.length cap) ∧ lists bs = Pt.parts s.data.toList ∧ bs.length ≤ cap ∧ Sl w' a bs ∧ Below w.heap.size w w' := by
  have HC := hide (split_any s hs)
  have hP4 := Pt.parts_le s.data.toList
  obtain ⟨PS, hPS⟩ : ∃ PS, Pt.parts s.data.toList = PS := ⟨_, rfl⟩
  rw [hPS] at HC hP4 ⊢
  have HL := hide (row4_len PS hP4)
  have H1 := hide (row4_one PS)
  obtain ⟨bs, hbs, hbl⟩ : ∃ bs : List ByteArray, lists bs = PS ∧ bs.length = PS.length := ⟨PS.map ofList, lists_ofList PS, by simp⟩
  have HBS := hide hbs
  rw [← hbl] at HC
  have hb4 : bs.length ≤ 4 := by omega
  clear hPS hs hbs hbl hP4
  have hsl := slice_four bs.length hb4
  go_enter Try.func16, Try.ntmps16
  go_wp2_with (first
    | (go_at_call 28; refine (unhide HC _).mono ?_; rintro e w1 ⟨rfl, hb1⟩; have HB1 := hide hb1; clear hb1)
    | (refine store_row (by rfl) 38 _ _ (by rfl) w1.heap.size (row4 PS) (by rfl) (by rfl) 38 (row4 []) (VRow.newAt rfl) 4 size38 (unhide HL) rfl (unhide H1) ?_; intro w2 ho2 hr2; have HB2 := hide (((unhide HB1).alloc (unhide HB1).size _).trans (ho2.below (unhide HB1).size)); have HR2 := hide hr2; clear ho2 hr2))
  refine (Try.slices_Clone_string w1.heap.size 0 bs.length 4 bs w2 (Nat.le_refl _) (by omega) (row4_cells (unhide HR2) bs (unhide HBS))).mono ?_
  rintro e w3 ⟨v, rfl, hown, _, hb3⟩
  rw [List.take_length] at hown
  obtain ⟨a, cap, rfl, hcap, hsl3⟩ := own_sl hown
  have HS3 := hide hsl3
  have HB3 := hide (below_grow (unhide HB2) (Nat.le_refl _) hb3)
  clear hown hb3 hsl3 hsl
  go_wp2_with fail
  go_ret
  exact ⟨a, cap, bs, rfl, unhide HBS, hcap, unhide HS3, unhide HB3⟩
end Go.Proofs.Ytdibhedofbnbfaa
