/-
  What the document's Join, Meet and With answer, and the program's With.
-/
import Derived.Test.YtbgpdiinkkgieaaOf
import Derived.Test.YtbgpdiinkkgieaaGet
namespace Go.Proofs.Ytbgpdiinkkgieaa
open Go.RowKit

/-- What a call that makes a list leaves. -/
def Made (w : World) (ds : List Vc.D) (e : Ending) (w' : World) : Prop := ∃ r cap, e = .returned (.slice r ds.length cap) ∧ ds.length ≤ cap ∧ Sl w' r ds ∧ Below w.heap.size w w'

theorem bef (w : World) (B : Nat) (h : B = w.heap.size) : B ≤ w.heap.size := by omega

set_option maxRecDepth 100000 in
set_option maxHeartbeats 1000000 in
theorem refJoin_fresh (a b : Option Addr) (ca cb : Nat) (xs ys : List Vc.D) (hx : xs.length ≤ 9223372036854775807) (hy : ys.length ≤ 9223372036854775807) (w : World) (sa : Sl w a xs) (sb : Sl w b ys) :
    Calls Try.prog 27 #[.slice a xs.length ca, .slice b ys.length cb] w fun e w' => ∃ r cap, e = .returned (.slice r (Vc.joins xs ys).length cap) ∧ (Vc.joins xs ys).length ≤ cap ∧ Sl w' r (Vc.joins xs ys) ∧ Below w.heap.size w w' ∧ Fresh w.heap.size r (Vc.joins xs ys) := by
  have HSA := hide sa
  have HSB := hide sb
  have KA := hide fun q W (h : Sl W a xs) => refGet_any a ca xs hx q W h
  have KB := hide fun q W (h : Sl W b ys) => refGet_any b cb ys hy q W h
  have CA := hide fun W (h : Sl W a xs) => refCheck_any a ca xs hx W h
  have CB := hide fun W (h : Sl W b ys) => refCheck_any b cb ys hy W h
  obtain ⟨f, hf⟩ : ∃ f : Nat → Int, f = fun p : Nat => max (Vc.get xs (p : Int)) (Vc.get ys (p : Int)) := ⟨_, rfl⟩
  have HF : Hid (∀ k : Nat, f k = max (Vc.get xs (k : Int)) (Vc.get ys (k : Int))) := hide (fun k => by rw [hf])
  obtain ⟨cs, hcs⟩ : ∃ cs, cnt f 64 = cs := ⟨_, rfl⟩
  have HL : Hid (cs.length = 64) := hide (by rw [← hcs]; exact cnt_len f 64)
  have HG : Hid (∀ i, i < 64 → cs[i]? = some (.int .i64 (f i))) := hide (by rw [← hcs]; exact fun i hi => cnt_get f 64 i hi)
  have K37 : Hid (Vc.check xs = 0 ∧ Vc.check ys = 0 → ∀ W, Calls Try.prog 37 #[.agg cs.toArray] W fun e w' => ∃ r cap, e = .returned (.slice r (Vc.joins xs ys).length cap) ∧ (Vc.joins xs ys).length ≤ cap ∧ Sl w' r (Vc.joins xs ys) ∧ Below W.heap.size W w' ∧ Fresh W.heap.size r (Vc.joins xs ys)) := hide (fun h W => by
    have k := of_fresh f 64 rfl W
    rw [hcs, show Vc.ofN f 64 = Vc.joins xs ys by rw [hf]; exact Vc.ref_join xs ys h] at k
    exact k)
  have HZ : Hid (¬ (Vc.check xs = 0 ∧ Vc.check ys = 0) → Vc.joins xs ys = []) := hide (fun h => by unfold Vc.joins; rw [if_neg h])
  obtain ⟨Z, hZ⟩ : ∃ Z, Vc.joins xs ys = Z := ⟨_, rfl⟩
  rw [hZ] at K37 HZ ⊢
  clear hZ hcs hf sa sb hx hy
  go_enter Try.func27, Try.ntmps27
  go_wp2_with (refine store_row (by rfl) 63 _ _ (by rfl) w.heap.size zero64 (by rfl) (by rfl) 63 zero64 (VRow.newAt rfl) 64 size63 rfl rfl zero_one ?_; intro w1 ho1 hr1; have HB1 := hide (((Below.refl w.heap.size w).alloc (Nat.le_refl _) _).trans (ho1.below (Nat.le_refl _))); have HR1 := hide hr1; clear ho1 hr1)
  go_loopw [6] (fun i wr => ∃ k : Nat, k ≤ 64 ∧ i = .int .i64 k ∧ VRow wr w.heap.size 63 (cs.take k ++ zero64.drop k) ∧ Below w.heap.size w wr) (fun i _ => 64 - (intOf i).toNat)
  case atStart => exact ⟨0, Nat.zero_le _, rfl, unhide HR1, unhide HB1⟩
  case round =>
    obtain ⟨k, hk, rfl, hrow, hb⟩ := hrel
    have HB := hide hb
    have HR := hide hrow
    clear hb hrow HB1 HR1
    by_cases hlt : k < 64
    · have KA1 := hide (unhide KA (k : Int) wr ((unhide HSA).after (unhide HB)))
      have KB1 := hide (unhide KB (k : Int))
      have hF := unhide HF k
      generalize Vc.get xs (k : Int) = A at KA1 hF
      generalize Vc.get ys (k : Int) = B at KB1 hF
      obtain ⟨m, hm⟩ : ∃ m, (if A < B then B else A) = m := ⟨_, rfl⟩
      have HN : Hid ((cs.take k ++ zero64.drop k).set k (.int .i64 m) = cs.take (k + 1) ++ zero64.drop (k + 1)) := hide (mid_set cs zero64 k _ (by rw [unhide HG k hlt, hF, show max A B = m by rw [← hm]; split <;> omega]) (by simpa [zero64] using hlt))
      have hwl := (unhide HR).lt
      have HC : Hid (∃ v, (cs.take k ++ zero64.drop k)[k]? = some v) := hide ⟨_, List.getElem?_eq_getElem (by have := unhide HL; simp [zero64]; omega)⟩
      clear hF
      go_wp2_with fail
      refine (unhide KA1).mono ?_
      rintro e w2 ⟨rfl, hb2⟩
      have HB2 := hide (below_grow (unhide HB) (Nat.le_refl _) hb2)
      have HR2 := hide ((unhide HR).below hb2 hwl)
      clear hb2
      go_wp2_with fail
      refine (unhide KB1 _ ((unhide HSB).after (unhide HB2))).mono ?_
      rintro e w3 ⟨rfl, hb3⟩
      have HB3 := hide (below_grow (unhide HB2) (Nat.le_refl _) hb3)
      have HR3 := hide ((unhide HR2).below hb3 (unhide HR2).lt)
      clear hb3
      obtain ⟨v0, c0⟩ : ∃ v, w3.cell? ⟨w.heap.size, k, none⟩ = some v := by obtain ⟨v, hv⟩ := unhide HC; exact ⟨v, (unhide HR3).cell k v hv⟩
      have f0 := (unhide HR3).frozen k
      go_wp2_with fail
      go_roundw
      case rel =>
        refine ⟨k + 1, by omega, by go_num, ?_, (unhide HB3).setCell (p := ⟨w.heap.size, k, none⟩) (by simp) _⟩
        rw [← unhide HN]
        exact (unhide HR3).set k _
      case measure => simp [intOf]; omega
    · obtain rfl : k = 64 := by omega
      have HR1 : Hid (VRow wr w.heap.size 63 cs) := by
        have h := unhide HR
        rw [mid_all cs zero64 64 (by have := unhide HL; omega) (by simp [zero64])] at h
        exact hide h
      clear HR
      by_cases hz : Vc.check xs = 0
      · by_cases hz2 : Vc.check ys = 0
        · have K := hide (unhide K37 ⟨hz, hz2⟩)
          rw [hz] at CA
          rw [hz2] at CB
          clear hz hz2 K37 HZ
          go_wp2_with fail
          refine (unhide CA _ ((unhide HSA).after (unhide HB))).mono ?_
          rintro e w2 ⟨rfl, hb2⟩
          have HB2 := hide (below_grow (unhide HB) (Nat.le_refl _) hb2)
          have HR2 := hide ((unhide HR1).below hb2 (unhide HR1).lt)
          clear hb2
          go_wp2_with fail
          refine (unhide CB _ ((unhide HSB).after (unhide HB2))).mono ?_
          rintro e w3 ⟨rfl, hb3⟩
          have HB3 := hide (below_grow (unhide HB2) (Nat.le_refl _) hb3)
          have HR3 := hide ((unhide HR2).below hb3 (unhide HR2).lt)
          clear hb3
          go_wp2_with (refine load_row (by rfl) 63 _ (by rfl) w.heap.size (by rfl) 63 cs (unhide HR3) 64 64 3 Try.underlying63 size63 (unhide HL) ?_)
          refine (unhide K _).mono ?_
          rintro e w4 ⟨r, cap, rfl, hcap, hsl, hb4, hfr⟩
          have HFR : Hid (Fresh w.heap.size r Z) := hide (fun ad e h0 => Nat.le_trans (unhide HB3).size (hfr ad e h0))
          have HB4 := hide (below_grow (unhide HB3) (Nat.le_refl _) hb4)
          have HS4 := hide hsl
          have HC4 := hide hcap
          clear hb4 hsl hcap hfr
          go_wp2_with fail
          go_ret
          exact ⟨r, cap, rfl, unhide HC4, unhide HS4, unhide HB4, unhide HFR⟩
        · obtain rfl := unhide HZ (fun h => hz2 h.2)
          have hzb : (Vc.check ys != 0) = true := bne_iff_ne.2 hz2
          generalize Vc.check ys = C at *
          rw [hz] at CA
          clear hz hz2 K37 HZ
          go_wp2_with fail
          refine (unhide CA _ ((unhide HSA).after (unhide HB))).mono ?_
          rintro e w2 ⟨rfl, hb2⟩
          have HB2 := hide (below_grow (unhide HB) (Nat.le_refl _) hb2)
          clear hb2
          go_wp2_with fail
          refine (unhide CB _ ((unhide HSB).after (unhide HB2))).mono ?_
          rintro e w3 ⟨rfl, hb3⟩
          have HB3 := hide (below_grow (unhide HB2) (Nat.le_refl _) hb3)
          clear hb3
          go_wp2_with fail
          go_ret
          exact ⟨none, 0, rfl, Nat.le_refl _, Sl.none _ _, unhide HB3, fun _ e => by cases e⟩
      · obtain rfl := unhide HZ (fun h => hz h.1)
        have hzb : (Vc.check xs != 0) = true := bne_iff_ne.2 hz
        generalize Vc.check xs = C at *
        clear hz K37 HZ
        go_wp2_with fail
        refine (unhide CA _ ((unhide HSA).after (unhide HB))).mono ?_
        rintro e w2 ⟨rfl, hb2⟩
        have HB2 := hide (below_grow (unhide HB) (Nat.le_refl _) hb2)
        clear hb2
        go_wp2_with fail
        go_ret
        exact ⟨none, 0, rfl, Nat.le_refl _, Sl.none _ _, unhide HB2, fun _ e => by cases e⟩

theorem refJoin_any (a b : Option Addr) (ca cb : Nat) (xs ys : List Vc.D) (hx : xs.length ≤ 9223372036854775807) (hy : ys.length ≤ 9223372036854775807) (w : World) (sa : Sl w a xs) (sb : Sl w b ys) :
    Calls Try.prog 27 #[.slice a xs.length ca, .slice b ys.length cb] w fun e w' => ∃ r cap, e = .returned (.slice r (Vc.joins xs ys).length cap) ∧ (Vc.joins xs ys).length ≤ cap ∧ Sl w' r (Vc.joins xs ys) ∧ Below w.heap.size w w' :=
  (refJoin_fresh a b ca cb xs ys hx hy w sa sb).mono fun _ _ ⟨r, c, h1, h2, h3, h4, _⟩ => ⟨r, c, h1, h2, h3, h4⟩
theorem one_sl1 (w : World) (p c : Int) : Sl (w.alloc (.cells #[.int .i64 p, .int .i64 c] 24)) (some ⟨w.heap.size, 0, none⟩) [(p, c)] := fun _ => by
  have hr := VRow.new w 24 [.int .i64 p, .int .i64 c]
  refine ⟨w.heap.size, 0, rfl, lt_new _ _, fun j d hj => ?_⟩
  have hj2 : j = 0 := by have := (List.getElem?_eq_some_iff.1 hj).1; simp at this; omega
  subst hj2
  simp at hj
  subst hj
  exact ⟨hr.cell 0 _ rfl, hr.cell 1 _ rfl⟩

end Go.Proofs.Ytbgpdiinkkgieaa
