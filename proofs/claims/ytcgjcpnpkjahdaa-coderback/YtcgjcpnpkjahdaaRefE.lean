/-
  What the document's reader does with a digest.
-/
import Derived.Test.YtcgjcpnpkjahdaaRefR
namespace Go.Proofs.Ytcgjcpnpkjahdaa
open Go.RowKit

theorem results_row25 (tmps : Array Value) (w : World) (g : Nat) (vs : List Value) (hp : tmps.getD 2 undef = .pointer (some ⟨g, 0, none⟩)) (hr : VRow w g 34 vs) (hn : vs.length = 32) :
    (results Try.f25 tmps).run Try.prog w = .ok (.agg vs.toArray) w := by
  have hp' : tmps[2]?.getD undef = .pointer (some ⟨g, 0, none⟩) := by simpa using hp
  have hl := run_loadVar_row (P := Try.prog) w g 34 34 vs.toArray (0, 0) _ hr Try.underlying34 rfl (by rw [size33]; simp [hn])
  simp [results, hp', asAddr, hl]

theorem Beside.only {own : Nat → Prop} {B : Nat} {w a w' : World} (h : Beside own w a) (ho : Only B a w') (hB : w.heap.size ≤ B) : Beside own w w' :=
  ⟨ho.os.trans h.os, ho.tape.trans h.tape, ho.output.trans h.output, by rw [ho.size]; exact h.size, fun k hk hk2 => (ho.block k (by omega)).trans (h.block k hk hk2)⟩
theorem Beside.under {own : Nat → Prop} {n : Nat} {w a w' : World} (h : Beside own w a) (hb : Below n a w') (hn : w.heap.size ≤ n) : Beside own w w' :=
  ⟨hb.os.trans h.os, hb.tape.trans h.tape, hb.output.trans h.output, Nat.le_trans h.size hb.size, fun k hk hk2 => (hb.block k (by omega)).trans (h.block k hk hk2)⟩
theorem at_str {b : List UInt8} {k : Nat} (h : k < (str b).size) : b[k]? = some (str b)[k] := by
  have h1 := at_data (str b) k h
  rw [str_data] at h1
  rw [str_size] at h
  rw [List.getElem?_eq_getElem h] at h1 ⊢
  rw [← h1]
  rfl
theorem Doc.only {W W' : World} {q T B : Nat} {st : St} (h : Doc W q T st) (ho : Only B W W') (hne : q ≠ B) : Doc W' q T st := VRow.only h ho hne

set_option maxRecDepth 100000 in
set_option maxHeartbeats 1000000 in
theorem refDigestR_bad (q : Nat) (b : List UInt8) (e : Int) (he : e ≠ 0) (w : World) (h : Doc w q 48 (b, e)) :
    Calls Try.prog 25 #[.pointer (some ⟨q, 0, none⟩)] w (DocMade q 48 w (b, e) (.agg (zero32.map byteVal).toArray)) := by
  have hbd := run_build33
  have hq := h.lt
  have HD := hide h
  have hne : (e != 0) = true := by simp [he]
  have hne2 : (e == 0) = false := by simp [he]
  clear h
  go_enter Try.func25, Try.ntmps25
  go_wp2_with (first
    | (refine store_row (by rfl) 34 _ _ (by rfl) (w.heap.size + 1) (zero32.map byteVal) (by rfl) (by rfl) 34 (zero32.map byteVal) (VRow.newAt (by simp)) 32 size33 rfl rfl (one_bytes _) ?_; intro w1 ho1 hr1; have HR1 := hide hr1; have HZ1 := hide (((VRow.new w 34 (zero32.map byteVal)).alloc _).only ho1 (by omega)); have HB1 := hide ((((Below.refl w.heap.size w).alloc (Nat.le_refl _) _).alloc (by simp) _).trans (ho1.below (by omega))); have HD1 := hide ((unhide HD).after (unhide HB1)); have c0 := (unhide HD1).c0; have c1 := (unhide HD1).c1; have f0 := (unhide HD1).f0; have f1 := (unhide HD1).f1; dsimp only at c0 c1; clear ho1 hr1)
    | (refine load_row (by rfl) 34 (.tmp 3) (by rfl) (w.heap.size + 1) (by rfl) 34 (zero32.map byteVal) (unhide HR1) 32 32 5 Try.underlying34 size33 (by rfl) ?_)
    | (refine store_row (by rfl) 34 (.tmp 2) (.tmp 27) (by rfl) w.heap.size (zero32.map byteVal) (by rfl) (by rfl) 34 (zero32.map byteVal) (unhide HZ1) 32 size33 rfl rfl (one_bytes _) ?_; intro w2 ho2 hr2; have HR2 := hide hr2; have HO2 := hide ho2; clear ho2 hr2))
  refine bodyPost_ret (v := .agg (zero32.map byteVal).toArray) ?_ rfl ⟨rfl, ?_, ?_⟩
  · exact results_row25 _ _ w.heap.size _ rfl (unhide HR2) rfl
  · exact (unhide HD1).only (unhide HO2) (by omega)
  · exact beside_of ((unhide HB1).trans ((unhide HO2).below (Nat.le_refl _)))

set_option maxRecDepth 100000 in
set_option maxHeartbeats 1000000 in
theorem refDigestR_short (q : Nat) (b : List UInt8) (hb : b.length < 32) (w : World) (h : Doc w q 48 (b, 0)) :
    Calls Try.prog 25 #[.pointer (some ⟨q, 0, none⟩)] w (DocMade q 48 w (b, 5) (.agg (zero32.map byteVal).toArray)) := by
  have hbd := run_build33
  have hq := h.lt
  have HD := hide h
  have hz : ((str b).size : Int) < 32 := by rw [str_size]; omega
  clear h
  go_enter Try.func25, Try.ntmps25
  go_wp2_with (first
    | (refine store_row (by rfl) 34 _ _ (by rfl) (w.heap.size + 1) (zero32.map byteVal) (by rfl) (by rfl) 34 (zero32.map byteVal) (VRow.newAt (by simp)) 32 size33 rfl rfl (one_bytes _) ?_; intro w1 ho1 hr1; have HR1 := hide hr1; have HZ1 := hide (((VRow.new w 34 (zero32.map byteVal)).alloc _).only ho1 (by omega)); have HB1 := hide ((((Below.refl w.heap.size w).alloc (Nat.le_refl _) _).alloc (by simp) _).trans (ho1.below (by omega))); have HD1 := hide ((unhide HD).after (unhide HB1)); have c0 := (unhide HD1).c0; have c1 := (unhide HD1).c1; have f0 := (unhide HD1).f0; have f1 := (unhide HD1).f1; dsimp only at c0 c1; clear ho1 hr1)
    | (refine load_row (by rfl) 34 (.tmp 3) (by rfl) (w.heap.size + 1) (by rfl) 34 (zero32.map byteVal) ((unhide HR1).setNe (by omega) 1 (.int .i64 5)) 32 32 5 Try.underlying34 size33 (by rfl) ?_)
    | (refine store_row (by rfl) 34 (.tmp 2) (.tmp 27) (by rfl) w.heap.size (zero32.map byteVal) (by rfl) (by rfl) 34 (zero32.map byteVal) ((unhide HZ1).setNe (by omega) 1 (.int .i64 5)) 32 size33 rfl rfl (one_bytes _) ?_; intro w2 ho2 hr2; have HR2 := hide hr2; have HO2 := hide ho2; clear ho2 hr2))
  refine bodyPost_ret (v := .agg (zero32.map byteVal).toArray) ?_ rfl ⟨rfl, ?_, ?_⟩
  · exact results_row25 _ _ w.heap.size _ rfl (unhide HR2) rfl
  · exact ((unhide HD1).set1 5).only (unhide HO2) (by omega)
  · exact ((beside_of (unhide HB1)).trans (beside_set q 1 _ _)).only (unhide HO2) (Nat.le_refl _)

set_option maxRecDepth 100000 in
set_option maxHeartbeats 1000000 in
theorem refDigestR_good (q : Nat) (b : List UInt8) (hb : 32 ≤ b.length) (hs : b.length ≤ 100000000) (w : World) (h : Doc w q 48 (b, 0)) :
    Calls Try.prog 25 #[.pointer (some ⟨q, 0, none⟩)] w (DocMade q 48 w (b.drop 32, 0) (.agg ((b.take 32).map byteVal).toArray)) := by
  have hbd := run_build33
  have hq := h.lt
  have HD := hide h
  have hz : ¬ ((str b).size : Int) < 32 := by rw [str_size]; omega
  have hz2 : 32 ≤ (str b).size := by rw [str_size]; omega
  have hsz := str_size b
  have HX : Hid ((str b).extract 32 (str b).size = str (b.drop 32)) := hide (ext_tail b 32)
  clear h
  go_enter Try.func25, Try.ntmps25
  go_wp2_with (first
    | (refine store_row (by rfl) 34 _ _ (by rfl) (w.heap.size + 1) (zero32.map byteVal) (by rfl) (by rfl) 34 (zero32.map byteVal) (VRow.newAt (by simp)) 32 size33 rfl rfl (one_bytes _) ?_; intro w1 ho1 hr1; have HR1 := hide hr1; have HZ1 := hide (((VRow.new w 34 (zero32.map byteVal)).alloc _).only ho1 (by omega)); have HB1 := hide ((((Below.refl w.heap.size w).alloc (Nat.le_refl _) _).alloc (by simp) _).trans (ho1.below (by omega))); have HD1 := hide ((unhide HD).after (unhide HB1)); have c0 := (unhide HD1).c0; have c1 := (unhide HD1).c1; have f0 := (unhide HD1).f0; have f1 := (unhide HD1).f1; dsimp only at c0 c1; clear ho1 hr1))
  have HL : Hid ((b.take 32).length = 32) := hide (by rw [List.length_take]; omega)
  clear c0 c1 f0 f1
  go_loopw [4] (fun i wr => ∃ k : Nat, k ≤ 32 ∧ i = .int .i64 k ∧ Hid (VRow wr w.heap.size 34 (zero32.map byteVal) ∧ VRow wr (w.heap.size + 1) 34 (((b.take 32).take k ++ zero32.drop k).map byteVal) ∧ Doc wr q 48 (b, 0) ∧ Below w.heap.size w wr)) (fun i _ => 32 - (intOf i).toNat)
  case atStart => exact ⟨0, Nat.zero_le _, rfl, hide ⟨unhide HZ1, unhide HR1, unhide HD1, unhide HB1⟩⟩
  case round =>
    obtain ⟨k, hk, rfl, HH⟩ := hrel
    have c0 := (unhide HH).2.2.1.c0
    have f0 := (unhide HH).2.2.1.f0
    dsimp only at c0
    by_cases hlt : k < 32
    · have hks : k < (str b).size := by omega
      have hy := at_str hks
      have x0 := (unhide HH).2.1.cell k (.int .u8 0) (by rw [List.getElem?_map, mid_get _ _ _ (by rw [unhide HL]; omega), zero32, List.getElem?_replicate, if_pos hlt]; rfl)
      have g0 := (unhide HH).2.1.frozen k
      have HN : Hid (((((b.take 32).take k ++ zero32.drop k).map byteVal).set k (.int .u8 ((str b)[k].toNat : Int))) = ((b.take 32).take (k + 1) ++ zero32.drop (k + 1)).map byteVal) := hide (by
        rw [show Value.int .u8 ((str b)[k].toNat : Int) = byteVal (str b)[k] from rfl, ← List.map_set, mid_setQ _ _ k (str b)[k] (by rw [List.getElem?_take_of_lt hlt]; exact hy) (by simp [zero32]; exact hlt)])
      clear hy
      go_wp2_with fail
      go_roundw
      case rel =>
        refine ⟨k + 1, by omega, by go_num, hide ⟨(unhide HH).1.setNe (by omega) _ _, ?_, VRow.setNe (unhide HH).2.2.1 (by omega) _ _, (unhide HH).2.2.2.setCell (p := ⟨w.heap.size + 1, k, none⟩) (by show w.heap.size ≤ w.heap.size + 1; omega) _⟩⟩
        rw [← unhide HN]
        exact (unhide HH).2.1.set k _
      case measure => simp [intOf]; omega
    · obtain rfl : k = 32 := by omega
      have hfull : (b.take 32).take 32 ++ zero32.drop 32 = b.take 32 := by rw [List.take_of_length_le (by rw [unhide HL]; exact Nat.le_refl _), show zero32.drop 32 = [] from rfl, List.append_nil]
      have HR := (unhide HH).2.1
      rw [hfull] at HR
      have HRh := hide HR
      clear HR hfull
      go_wp2_with (first
        | (refine load_row (by rfl) 34 (.tmp 3) (by rfl) (w.heap.size + 1) (by rfl) 34 ((b.take 32).map byteVal) ((unhide HRh).setNe (by omega) _ _) 32 32 5 Try.underlying34 size33 (by rw [List.length_map]; exact unhide HL) ?_)
        | (refine store_row (by rfl) 34 (.tmp 2) (.tmp 48) (by rfl) w.heap.size ((b.take 32).map byteVal) (by rfl) (by rfl) 34 (zero32.map byteVal) ((unhide HH).1.setNe (by omega) _ _) 32 size33 (by rw [List.length_map]; exact unhide HL) rfl (one_bytes _) ?_; intro w2 ho2 hr2; have HR2 := hide hr2; have HO2 := hide ho2; clear ho2 hr2))
      refine bodyPost_ret (v := .agg ((b.take 32).map byteVal).toArray) ?_ rfl ⟨rfl, ?_, ?_⟩
      · exact results_row25 _ _ w.heap.size _ rfl (unhide HR2) (by rw [List.length_map]; exact unhide HL)
      · have h1 := (unhide HH).2.2.1.set0 (b.drop 32)
        rw [← unhide HX] at h1
        exact h1.only (unhide HO2) (by omega)
      · exact ((beside_of (unhide HH).2.2.2).trans (beside_set q 0 _ _)).only (unhide HO2) (Nat.le_refl _)

theorem refDigestR_any (q : Nat) (st : St) (hs : st.1.length ≤ 100000000) (w : World) (h : Doc w q 48 st) :
    Calls Try.prog 25 #[.pointer (some ⟨q, 0, none⟩)] w (DocMade q 48 w (rDigest st).2 (.agg ((rDigest st).1.map byteVal).toArray)) := by
  obtain ⟨b, e⟩ := st
  by_cases he : e = 0
  · subst he
    by_cases hb : b.length < 32
    · rw [show rDigest (b, 0) = (zero32, (b, 5)) from by simp [rDigest, hb]]
      exact refDigestR_short q b hb w h
    · rw [show rDigest (b, 0) = (b.take 32, (b.drop 32, 0)) from by simp [rDigest, hb]]
      exact refDigestR_good q b (by omega) hs w h
  · rw [show rDigest (b, e) = (zero32, (b, e)) from if_pos he]
    exact refDigestR_bad q b e he w h
end Go.Proofs.Ytcgjcpnpkjahdaa
