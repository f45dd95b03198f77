/-
  The program's writer and reader answer as the laws want it. Conditions: those that the structure Prg names.
-/
import Derived.Test.YtcgjcpnpkjahdaaP4
import Derived.Test.YtcgjcpnpkjahdaaP6
namespace Go.Proofs.Ytcgjcpnpkjahdaa
open Go.RowKit

theorem takeD_any {w : World} {q : Nat} {st : St} (h : RdAt w q st) (hs : st.1.length ≤ 50000000) :
    Calls Try.prog 49 #[.pointer (some ⟨q, 0, none⟩), .func (.func 50) #[] #[]] w (DigMade q w (rDigest st).2 (rDigest st).1) := by
  obtain ⟨b, e⟩ := st
  rw [rDigest_ahead]
  dsimp only at hs ⊢
  by_cases he : e = 0
  · subst he
    by_cases hx : (aheadD b).2.2 = 0
    · rw [show got (b, 0) (aheadD b).2.2 zero32 (aheadD b).1 = (aheadD b).1 from by simp [got, hx], show cut (b, 0) (aheadD b).2.1 (aheadD b).2.2 = (b.drop (aheadD b).2.1, 0) from by simp [cut, hx]]
      refine takeD_good (aheadD_ok b hx) hs (aheadD_len b) h fun W => ?_
      have := digestAhead_any b W
      rw [hx] at this
      exact this
    · rw [show got (b, 0) (aheadD b).2.2 zero32 (aheadD b).1 = zero32 from by simp [got, hx], show cut (b, 0) (aheadD b).2.1 (aheadD b).2.2 = (b, (aheadD b).2.2) from by simp [cut, hx]]
      exact takeD_wrong hx (aheadD_len b) h fun W => digestAhead_any b W
  · rw [show got (b, e) (aheadD b).2.2 zero32 (aheadD b).1 = zero32 from if_pos he, show cut (b, e) (aheadD b).2.1 (aheadD b).2.2 = (b, e) from if_pos he]
    exact takeD_bad he h

set_option maxRecDepth 100000 in
set_option maxHeartbeats 400000 in
theorem rdigest_any {w : World} {p : Addr} {st : St} {own : Nat → Prop} (h : Rd w p st own) (hs : st.1.length ≤ 50000000) :
    Calls Try.prog 24 #[.pointer (some p)] w (Turned Rd own p w (rDigest st).2 (.agg ((rDigest st).1.map byteVal).toArray)) := by
  obtain ⟨q, rfl, h1, ho⟩ := h
  have hq := h1.lt
  have HK := hide (takeD_any (h1.alloc (.cells (zero32.map byteVal).toArray 34)) hs)
  have hl : (rDigest st).1.length = 32 := by
    rw [rDigest_ahead]
    show (got st _ zero32 _).length = 32
    unfold got
    split
    · rfl
    · split
      · rfl
      · exact aheadD_len _
  have HL := hide (show ((rDigest st).1.map byteVal).length = 32 from by rw [List.length_map]; exact hl)
  generalize (rDigest st).1 = d at HK HL ⊢
  generalize (rDigest st).2 = S at HK ⊢
  have HZ := hide (VRow.new w 34 (zero32.map byteVal))
  have HB := hide (below_alloc' (w := w) (.cells (zero32.map byteVal).toArray 34))
  have HO := hide ho
  clear h1 hl hs ho
  go_enter Try.func24, Try.ntmps24
  go_wp2_with (first
    | (go_at_call 49; refine (unhide HK).mono ?_; rintro y w1 ⟨rfl, hr, hb⟩; have HR := hide hr; have HBS := hide hb; have HZ1 := hide ((unhide HZ).beside hb (by omega)); clear hr hb)
    | (refine store_row (by rfl) 34 (.tmp 2) (.tmp 4) (by rfl) w.heap.size (d.map byteVal) (by rfl) (by rfl) 34 (zero32.map byteVal) (unhide HZ1) 32 size33 (unhide HL) rfl (one_bytes _) ?_; intro w2 ho2 hr2; have HR2 := hide hr2; have HO2 := hide ho2; clear ho2 hr2))
  refine bodyPost_ret (v := .agg (d.map byteVal).toArray) ?_ rfl ⟨own, rfl, ⟨q, rfl, (unhide HR).only (unhide HO2) (by omega), unhide HO⟩, fun g hg => .inl hg, ?_⟩
  · exact results_row24 _ _ w.heap.size _ rfl (unhide HR2) (unhide HL)
  · have h5 := ((beside_of (own := (· = q)) (unhide HB)).trans (unhide HBS)).only (unhide HO2) (Nat.le_refl _)
    exact ⟨h5.os, h5.tape, h5.output, h5.size, fun k hk hk2 => h5.block k hk fun e => hk2 ((unhide HO k).2 e)⟩

set_option maxRecDepth 100000 in
set_option maxHeartbeats 400000 in
theorem takeD_nil (w : World) : Calls Try.prog 49 #[.pointer none, .func (.func 50) #[] #[]] w (Told w (.agg (zero32.map byteVal).toArray)) := by
  have KE := hide rerr_nil
  go_enter Try.func49, Try.ntmps49
  go_wp2_with (first
    | (go_at_call 28; refine (unhide KE _).mono ?_; rintro y w1 ⟨rfl, hw⟩; have HS := hide (start_of hw); clear hw)
    | (refine load_row (by rfl) 34 (.tmp 5) (by rfl) (w.heap.size + 1) (by rfl) 34 (zero32.map byteVal) (unhide HS).z1 32 32 5 Try.underlying34 size33 (by rfl) ?_)
    | (refine store_row (by rfl) 34 (.tmp 4) (.tmp 12) (by rfl) w.heap.size (zero32.map byteVal) (by rfl) (by rfl) 34 (zero32.map byteVal) (unhide HS).z0 32 size33 rfl rfl (one_bytes _) ?_; intro w2 ho2 hr2; have HR2 := hide hr2; have HO2 := hide ho2; clear ho2 hr2))
  refine bodyPost_ret (v := .agg (zero32.map byteVal).toArray) ?_ rfl ⟨rfl, below_only (unhide HS).below (unhide HO2) (Nat.le_refl _)⟩
  exact results_row49 _ _ w.heap.size _ rfl (unhide HR2) rfl
set_option maxRecDepth 100000 in
set_option maxHeartbeats 400000 in
theorem rdigest_nil (w : World) : Calls Try.prog 24 #[.pointer none] w (Told w (.agg (zero32.map byteVal).toArray)) := by
  have HK := hide (takeD_nil (w.alloc (.cells (zero32.map byteVal).toArray 34)))
  have HZ := hide (VRow.new w 34 (zero32.map byteVal))
  have HB := hide (below_alloc' (w := w) (.cells (zero32.map byteVal).toArray 34))
  go_enter Try.func24, Try.ntmps24
  go_wp2_with (first
    | (go_at_call 49; refine (unhide HK).mono ?_; rintro y w1 ⟨rfl, hb⟩; have HB1 := hide (below_grow (unhide HB) (Nat.le_refl _) hb); have HZ1 := hide ((unhide HZ).after hb); clear hb)
    | (refine store_row (by rfl) 34 (.tmp 2) (.tmp 4) (by rfl) w.heap.size (zero32.map byteVal) (by rfl) (by rfl) 34 (zero32.map byteVal) (unhide HZ1) 32 size33 rfl rfl (one_bytes _) ?_; intro w2 ho2 hr2; have HR2 := hide hr2; have HO2 := hide ho2; clear ho2 hr2))
  refine bodyPost_ret (v := .agg (zero32.map byteVal).toArray) ?_ rfl ⟨rfl, below_only (unhide HB1) (unhide HO2) (Nat.le_refl _)⟩
  exact results_row24 _ _ w.heap.size _ rfl (unhide HR2) rfl

theorem told_of {w w' : World} {e : Ending} {v : Value} (h : e = .returned v ∧ w' = w) : Told w v e w' := by
  obtain ⟨rfl, rfl⟩ := h
  exact ⟨rfl, Below.refl _ _⟩
theorem prg : Prg Wr Rd where
  wlt := wr_lt
  wkeep := wr_keep
  rlt := rd_lt
  rkeep := rd_keep
  wzero := wr_zero
  wNumber := fun h hl n _ => wnumber_any h hl n
  wText := fun h hl s _ => wtext_any h hl s
  wFlag := fun h hl is => wflag_any h hl is
  wDigest := fun h hl d hd => wdigest_any h hl d hd
  wFail := fun h e _ => wfail_any h e
  wDone := fun h _ => wdone_any h
  new := fun s w _ => rnew_any s w
  rNumber := fun h hs most _ => rnumber_any h hs most
  rText := fun h hs most _ => rtext_any h hs most
  rFlag := fun h hs => rflag_any h hs
  rDigest := fun h hs => rdigest_any h hs
  rFail := fun h e _ => rfail_any h e
  rErr := fun ⟨_, e, h, _⟩ => by subst e; exact (rerr_at h).mono fun _ _ => told_of
  rLeft := fun ⟨_, e, h, _⟩ => by subst e; exact (rleft_at h).mono fun _ _ => told_of
  rDone := fun ⟨_, e, h, _⟩ => by subst e; exact (rdone_at h).mono fun _ _ => told_of
  nwNumber := fun n w _ => wnumber_nil n w
  nwText := fun s w _ => wtext_nil s w
  nwFlag := wflag_nil
  nwDigest := wdigest_nil
  nwFail := fun e w _ => wfail_nil e w
  nwDone := wdone_nil
  nrNumber := fun n w _ => rnumber_nil n w
  nrText := fun n w _ => rtext_nil n w
  nrFlag := rflag_nil
  nrDigest := rdigest_nil
  nrFail := fun e w _ => rfail_nil e w
  nrErr := fun w => (rerr_nil w).mono fun _ _ => told_of
  nrLeft := fun w => (rleft_nil w).mono fun _ _ => told_of
  nrDone := rdone_nil
end Go.Proofs.Ytcgjcpnpkjahdaa
