/-
  A node without what is deleted: the program's Seen. Conditions: those that each theorem names.
-/
import Derived.Test.YthchcjjpplcfnaaN6
import Derived.Test.YthchcjjpplcfnaaLiv
import Derived.Deep.RegionWith
namespace Go.Proofs.Ythchcjjpplcfnaa
open Go.RowKit

set_option maxRecDepth 100000 in
/-- Kids appended to a row of the call's own, wherever they lie. -/
theorem append_kidsA {w : World} {ops : Array Oper} {rest : List Oper} {o : Oper} {a : Act} {Q : Exit → Act → World → Prop} (hgd : o.guard = none) (s x : Operand)
    (ho : o.op = .call { callee := .builtin .append, args := #[s, x], argTypes := #[23, 23] }) (base : Nat) (v : Value) (l : List Kd) (hs : a.eval s = v) (hown : w.ownsRow base 41 33 v l.length (flatK l))
    (ad : Addr) (c : Nat) (xs : List Kd) (hdx : Digs xs) (hx : a.eval x = .slice (some ad) xs.length c) (hsl : SK w (some ad) xs) (hn : l.length + xs.length ≤ 200000) (hbase : base ≤ w.heap.size)
    (h : ∀ v' w', w'.ownsRow base 41 33 v' (l ++ xs).length (flatK (l ++ xs)) → Below base w w' → wpList Try.prog ops Q rest (a.put o.dst v') w') : wpList Try.prog ops Q (o :: rest) a w := by
  obtain ⟨i0, hi, hz0, hz1, hz2⟩ := info_parts infoK
  refine wpList_append_own_at w hgd s x 23 ho base 41 i0 _ 33 48 Try.underlying23 hi hz0 hz1 hz2 rfl (by decide) v l.length (flatK l) hs hown ad xs.length c (flatK xs) hx (flatK_len hdx) (fun j u hu => ?_) (flatK_one xs) (by unfold maxLen; omega) (by omega) hbase ?_
  · have h0 : 0 < xs.length := by
      have h1 := (List.getElem?_eq_some_iff.1 hu).1
      rw [flatK_len hdx] at h1
      omega
    obtain ⟨g, off, e, _, hc⟩ := hsl h0
    injection e with e
    subst e
    rw [show (⟨g, off, none⟩ : Addr).add j = ⟨g, off + j, none⟩ by unfold Addr.add; split <;> simp_all]
    exact flatK_cells hdx off hc j u hu
  · intro v' w' g1 g2 _ _
    refine h v' w' ?_ (grown_below hown g2 hbase)
    rw [List.length_append, flatK_append]
    exact g1
def KMade (w : World) (l : List Kd) (e : Ending) (w' : World) : Prop := ∃ r cap, e = .returned (.slice r l.length cap) ∧ l.length ≤ cap ∧ SK w' r l ∧ FreshK w.heap.size r l ∧ Below w.heap.size w w'
set_option maxRecDepth 100000 in
set_option maxHeartbeats 400000 in
theorem cloneK_any (a : Option Addr) (cap : Nat) (l : List Kd) (hl : l.length ≤ 100000) (hd : Digs l) (w : World) (h : SK w a l) : Calls Try.prog 30 #[.slice a l.length cap] w (KMade w l) := by
  have HS := hide h
  have HL := hide hl
  have HD := hide hd
  have q25 : ∀ (w : World) (a : Option Addr) (n c n' c' : Nat), (binOp .eql 23 (.slice a n c) (.slice none n' c')).run Try.prog w = .ok (.bool a.isNone) w := fun w a n c n' c' => Lib.run_eql_slice_nil w _ _ a n c n' c' Try.underlying23
  clear h hl hd
  cases a with
  | none =>
    have hxs : l = [] := by
      cases l with
      | nil => rfl
      | cons d l => obtain ⟨g, o, e, _⟩ := unhide HS (by simp); cases e
    subst hxs
    go_enter Try.func30, Try.ntmps30
    go_wp2_with fail
    go_ret
    exact ⟨none, 0, rfl, Nat.le_refl _, SK.none _ _, FreshK.nil _ _, Below.refl _ _⟩
  | some ad =>
    have HB := hide (below_alloc' (w := w) (.cells #[] 41))
    have HO := hide (World.ownsRow_lit (base := w.heap.size) (e := 41) (size := 33) w #[] 0 (Nat.le_refl _) (by unfold maxLen; omega) rfl)
    go_enter Try.func30, Try.ntmps30
    go_wp2_with (at_builtin; refine append_kidsA (by rfl) _ _ (by rfl) w.heap.size _ [] (by rfl) (unhide HO) _ _ l (unhide HD) (by rfl) ((unhide HS).after (unhide HB)) (by have := unhide HL; simp; omega) (by simp) ?_; intro v' w2 hown' hb2; have HB2 := hide ((unhide HB).trans hb2); have HO2 := hide hown'; clear hb2 hown')
    rw [List.nil_append] at HO2
    obtain ⟨r, cap', rfl, hcap, hsl, hfr⟩ := own_sk (unhide HD) (unhide HO2)
    have HSL := hide hsl
    have HCAP := hide hcap
    have HFR := hide hfr
    clear hsl hcap hfr
    go_wp2_with fail
    go_ret
    exact ⟨r, cap', rfl, unhide HCAP, unhide HSL, unhide HFR, unhide HB2⟩

/-- A node without what is deleted. -/
def seenN (n : Nd) : Nd := ⟨Vc.live n.vs, n.ks⟩
theorem live_len (l : List Vc.V) : (Vc.live l).length ≤ l.length := List.length_filter_le _ _
theorem results_nodeS (tmps : Array Value) (w : World) (g : Nat) (vs : List Value) (hp : tmps.getD 2 undef = .pointer (some ⟨g, 0, none⟩)) (hr : VRow w g 25 vs) (hn : vs.length = 2) :
    (results Try.f10 tmps).run Try.prog w = .ok (.agg vs.toArray) w := by
  have hp' : tmps[2]?.getD undef = .pointer (some ⟨g, 0, none⟩) := by simpa using hp
  have hl := run_loadVar_row (P := Try.prog) w g 25 25 vs.toArray (0, 0) _ hr Try.underlying25 rfl (by rw [sizeNd]; simp [hn])
  simp [results, hp', asAddr, hl]
def NMade (w : World) (n : Nd) (e : Ending) (w' : World) : Prop := ∃ a c b d, e = .returned (.agg (ndL n a c b d).toArray) ∧ NdAt w' n a c b d ∧ Below w.heap.size w w'
set_option maxRecDepth 100000 in
set_option maxHeartbeats 2000000 in
theorem seen_any (a : Option Addr) (c : Nat) (b : Option Addr) (d : Nat) (n : Nd) (hn : Nok n) (hp : ∀ v ∈ n.vs, v.past.length ≤ 100000) (w : World) (h : NdAt w n a c b d) : Calls Try.prog 10 #[.agg (ndL n a c b d).toArray] w (NMade w (seenN n)) := by
  have HB0 := hide ((below_alloc' (w := w) (.cells (ndL n a c b d).toArray 25)).alloc (by simp) (.cells zeroN.toArray 25))
  have HR := hide ((VRow.new w 25 (ndL n a c b d)).alloc (.cells zeroN.toArray 25))
  have HT := hide (VRow.newAt (W := w.alloc (.cells (ndL n a c b d).toArray 25)) (T := 25) (n := w.heap.size + 1) (vs := zeroN) (by simp))
  have n0 := (unhide HR).cell 0 _ rfl
  have n1 := (unhide HR).cell 1 _ rfl
  have HLT := hide (unhide HR).lt
  have HSV := hide (h.after (unhide HB0)).sv
  have HSK := hide (h.after (unhide HB0)).sk
  have KL := hide fun W (h1 : SV W a n.vs) => live_any (fun g => W.heap.size ≤ g) a c n.vs hn.few.1 hp W (fun _ h => h) h1
  have KC := hide fun W (h1 : SK W b n.ks) => cloneK_any b d n.ks hn.kids hn.digs W h1
  obtain ⟨M, hM⟩ : ∃ M, seenN n = M := ⟨_, rfl⟩
  have HM := hide hM
  rw [hM]
  clear h hn hp hM
  unfold ndL zeroN at *
  go_enter Try.func10, Try.ntmps10
  go_wp2_with fail
  generalize (w.alloc (.cells _ 25)).alloc (.cells _ 25) = W0 at HB0 HR HT n0 n1 HLT HSV HSK ⊢
  go_region_with (first
      | (go_at_call 29; refine (unhide KL _ (by first | exact unhide HSV | exact (unhide HSV).after (below_drew (Below.refl _ _)) | exact (unhide HSV).after (below_drewN (Below.refl _ _) _))).mono ?_; rintro e w1 ⟨r1, cap1, rfl, hc1, hs1, hp1, hb1⟩; have hb01 : Below W0.heap.size W0 w1 := (by first | exact hb1 | exact below_grow (below_drew (Below.refl _ _)) (Nat.le_refl _) hb1 | exact below_grow (below_drewN (Below.refl _ _) _) (Nat.le_refl _) hb1); have m0 := ((unhide HR).after hb01).cell 0 _ rfl; have m1 := ((unhide HR).after hb01).cell 1 _ rfl)
      | (go_at_call 30; refine (unhide KC _ (by first | exact (unhide HSK).after hb01 | exact (unhide HSK).after (below_drew hb01) | exact (unhide HSK).after (below_drewN hb01 _))).mono ?_; rintro e w2 ⟨r2, cap2, rfl, hc2, hs2, hf2, hb2⟩; have hb12 : Below w1.heap.size w1 w2 := (by first | exact hb2 | exact below_grow (below_drew (Below.refl _ _)) (Nat.le_refl _) hb2 | exact below_grow (below_drewN (Below.refl _ _) _) (Nat.le_refl _) hb2); have hb02 := below_grow hb01 (Nat.le_refl _) hb12; have hv2 := (unhide HT).after hb02; have t0 := hv2.cell 0 _ rfl; have t1 := hv2.cell 1 _ rfl; have f0 := hv2.frozen 0; have f1 := hv2.frozen 1))
  all_goals
    have ho : Only (w.heap.size + 1) w2 ((w2.setCell ⟨w.heap.size + 1, 0, none⟩ (.slice r1 (Vc.live n.vs).length cap1)).setCell ⟨w.heap.size + 1, 1, none⟩ (.slice r2 n.ks.length cap2)) := (only_set _ _ _ _).trans (only_set _ _ _ _)
    have hvf : VRow ((w2.setCell ⟨w.heap.size + 1, 0, none⟩ (.slice r1 (Vc.live n.vs).length cap1)).setCell ⟨w.heap.size + 1, 1, none⟩ (.slice r2 n.ks.length cap2)) (w.heap.size + 1) 25 (ndL (seenN n) r1 cap1 r2 cap2) := (hv2.set 0 (.slice r1 (Vc.live n.vs).length cap1)).set 1 (.slice r2 n.ks.length cap2)
    have hlt2 : w.heap.size + 1 < W0.heap.size := (unhide HT).lt
    have hsv : SV ((w2.setCell ⟨w.heap.size + 1, 0, none⟩ (.slice r1 (Vc.live n.vs).length cap1)).setCell ⟨w.heap.size + 1, 1, none⟩ (.slice r2 n.ks.length cap2)) r1 (Vc.live n.vs) := (hs1.after hb12).beside (hp1.after hs1 hb12) ho.beside (fun h => by have h' : W0.heap.size ≤ w.heap.size + 1 := h; omega)
    have hsk : SK ((w2.setCell ⟨w.heap.size + 1, 0, none⟩ (.slice r1 (Vc.live n.vs).length cap1)).setCell ⟨w.heap.size + 1, 1, none⟩ (.slice r2 n.ks.length cap2)) r2 n.ks := hs2.only ho (fun ad e h0 => by have h1 := hf2 ad e h0; have h2 : w1.heap.size ≤ ad.block := h1; have := hb01.size; omega)
    have HMADE : Hid (NMade w (seenN n) (.returned (.agg (ndL (seenN n) r1 cap1 r2 cap2).toArray)) ((w2.setCell ⟨w.heap.size + 1, 0, none⟩ (.slice r1 (Vc.live n.vs).length cap1)).setCell ⟨w.heap.size + 1, 1, none⟩ (.slice r2 n.ks.length cap2))) := hide ⟨r1, cap1, r2, cap2, rfl, ⟨hc1, hc2, hsv, hsk⟩, (below_grow (unhide HB0) (Nat.le_refl _) hb02).trans (ho.below (Nat.le_succ _))⟩
    have HVF := hide hvf
    clear ho hvf hlt2 hsv hsk hv2 hs1 hs2 hp1 hf2 hb1 hb01 hb12 hb02 t0 t1 f0 f1 m0 m1 n0 n1
    go_wp2_with fail
    refine bodyPost_ret (v := .agg (ndL (seenN n) r1 cap1 r2 cap2).toArray) ?_ rfl ?_
    · exact results_nodeS _ _ (w.heap.size + 1) _ rfl (unhide HVF) rfl
    · rw [← unhide HM]
      exact unhide HMADE
end Go.Proofs.Ythchcjjpplcfnaa
