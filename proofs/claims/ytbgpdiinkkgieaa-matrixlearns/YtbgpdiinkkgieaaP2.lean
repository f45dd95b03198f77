/-
  The program's matrix: check, Learn.
-/
import Derived.Test.YtbgpdiinkkgieaaP1
import Derived.Deep.RegionHeld3
namespace Go.Proofs.Ytbgpdiinkkgieaa
open Go.RowKit

theorem beside_after {own : Nat → Prop} {w w1 w2 : World} (h : Below w.heap.size w w1) (hb : Beside own w1 w2) : Beside own w w2 :=
  ⟨hb.os.trans h.os, hb.tape.trans h.tape, hb.output.trans h.output, Nat.le_trans h.size hb.size, fun k hk hk2 => (hb.block k (Nat.lt_of_lt_of_le hk h.size) hk2).trans (h.block k hk)⟩

/-- The peers of a vector rise: its last one is the greatest. -/
theorem up_last : ∀ {v : List Vc.D} {q : Int}, Vc.Up q v → ∀ z, v[v.length - 1]? = some z → ∀ d ∈ v, d.1 ≤ z.1
  | [], _, _, _, _, _, hd => by cases hd
  | [x], _, _, z, hz, d, hd => by
    simp at hz
    rw [List.mem_singleton.1 hd, hz]
    exact Int.le_refl _
  | x :: y :: l, _, h, z, hz, d, hd => by
    have hz2 : (y :: l)[(y :: l).length - 1]? = some z := by simpa using hz
    have ih := up_last h.2.2 z hz2
    rcases List.mem_cons.1 hd with rfl | hd
    · have h1 := ih y (List.mem_cons_self ..)
      have h2 := h.2.2.2.1
      omega
    · exact ih d hd
theorem any_last {n : Nat} {v : List Vc.D} {q : Int} (h : Vc.Up q v) {z : Vc.D} (hz : v[v.length - 1]? = some z) : (v.any fun d => decide ((n : Int) ≤ d.1)) = !inR n z.1 := by
  have h0 : 0 ≤ z.1 := (Vc.mem_ok h (List.mem_of_getElem? hz)).1
  by_cases hn : (n : Int) ≤ z.1
  · rw [show inR n z.1 = false by simp [inR]; omega]
    exact List.any_eq_true.2 ⟨z, List.mem_of_getElem? hz, decide_eq_true hn⟩
  · rw [show inR n z.1 = true from inR_iff.2 ⟨h0, by omega⟩]
    refine List.any_eq_false.2 fun d hd => ?_
    have := up_last h z hz d hd
    simp
    omega

set_option maxRecDepth 100000 in
set_option maxHeartbeats 1000000 in
theorem checkM_any {w : World} {p : Addr} {rows : List (List Vc.D)} {own : Nat → Prop} (h : MatR w p rows own) (peer : Int) (r : Option Addr) (c : Nat) (v : List Vc.D) (hv : v.length ≤ 9223372036854775807) (hs : Sl w r v) :
    Calls Try.prog 24 #[.pointer (some p), .int .i64 peer, .slice r v.length c] w fun e w' => e = .returned (.int .i64 (mayE rows.length peer v)) ∧ Below w.heap.size w w' := by
  have K1 := hide (hasM_any h peer)
  have KC := hide (check_any r c v hv w hs)
  have HM := hide h
  have HS := hide hs
  obtain ⟨R, hR⟩ : ∃ R, mayE rows.length peer v = R := ⟨_, rfl⟩
  rw [hR]
  unfold mayE at hR
  clear h hs
  by_cases h1 : inR rows.length peer = true
  · rw [h1] at K1
    rw [if_neg (by have := inR_iff.1 h1; omega)] at hR
    clear h1
    by_cases h2 : Vc.check v = 0
    · rw [if_neg (by simpa using h2)] at hR
      rw [h2] at KC
      have hu := (Vc.check_zero v).1 h2
      clear h2
      cases v with
      | nil =>
        simp at hR
        subst hR
        simp only [List.length_nil] at KC ⊢
        go_enter Try.func24, Try.ntmps24
        go_wp2_with fail
        refine (unhide K1).mono ?_
        rintro e w1 ⟨rfl, rfl⟩
        go_wp2_with fail
        refine (unhide KC).mono ?_
        rintro e w2 ⟨rfl, hb⟩
        have HB := hide hb
        clear hb KC K1
        go_wp2_with fail
        go_ret
        exact ⟨rfl, unhide HB⟩
      | cons d0 l0 =>
        obtain ⟨m, hm⟩ : ∃ m, (d0 :: l0).length = m + 1 := ⟨l0.length, rfl⟩
        obtain ⟨⟨zp, zc⟩, hz⟩ : ∃ z, (d0 :: l0)[(d0 :: l0).length - 1]? = some z := ⟨_, List.getElem?_eq_getElem (by rw [hm]; omega)⟩
        rw [any_last hu hz] at hR
        rw [hm, Nat.add_sub_cancel] at hz
        obtain ⟨g, o, rfl, hg, hcell⟩ := unhide HS (by rw [hm]; omega)
        have HX : Hid (∀ W, Below w.heap.size w W → W.cell? ⟨g, o + m * 2, none⟩ = some (.int .i64 zp)) := hide (fun W hW => (hW.cell (p := ⟨g, o + m * 2, none⟩) hg).trans (hcell m _ hz).1)
        have HR := hide hR
        have K2 := hide fun W (hW : Below w.heap.size w W) => show Calls Try.prog 31 #[.pointer (some p), .int .i64 zp] W _ from by
          obtain ⟨b, g', cap, ps, h⟩ := unhide HM
          exact hasM_any ⟨b, g', cap, ps, h.keep hW.size fun x hx => hW.block x (h.lt x hx)⟩ zp
        dsimp only at HR
        generalize inR rows.length zp = B at HR K2
        rw [hm] at KC hv ⊢
        have hmw : IntKind.i64.wrap (((m + 1 : Nat) : Int) - 1) = (m : Int) := by
          rw [show ((m + 1 : Nat) : Int) - 1 = (m : Int) by omega]
          exact wrap_small (by omega) (by omega)
        have hdp : decide ((0 : Int) < ((m + 1 : Nat) : Int)) = true := decide_eq_true (by omega)
        have hml : m < m + 1 := Nat.lt_succ_self m
        have hmz : (m : Int) < ((m + 1 : Nat) : Int) := by omega
        obtain ⟨n, hn⟩ : ∃ n, m + 1 = n := ⟨_, rfl⟩
        rw [hn] at KC hv hmw hdp hml hmz ⊢
        clear hR hu hcell hg hz hm HS hn
        cases B with
        | true =>
          obtain rfl : R = 0 := (unhide HR).symm
          go_enter Try.func24, Try.ntmps24
          go_wp2_with fail
          refine (unhide K1).mono ?_
          rintro e w1 ⟨rfl, rfl⟩
          go_wp2_with fail
          refine (unhide KC).mono ?_
          rintro e w2 ⟨rfl, hb⟩
          have x0 := unhide HX w2 hb
          have K3 := hide (unhide K2 w2 hb)
          have HB := hide hb
          clear hb KC K1 HX K2
          go_wp2_with fail
          refine (unhide K3).mono ?_
          rintro e w3 ⟨rfl, rfl⟩
          go_wp2_with fail
          go_ret
          exact ⟨rfl, unhide HB⟩
        | false =>
          obtain rfl : R = 11 := (unhide HR).symm
          go_enter Try.func24, Try.ntmps24
          go_wp2_with fail
          refine (unhide K1).mono ?_
          rintro e w1 ⟨rfl, rfl⟩
          go_wp2_with fail
          refine (unhide KC).mono ?_
          rintro e w2 ⟨rfl, hb⟩
          have x0 := unhide HX w2 hb
          have K3 := hide (unhide K2 w2 hb)
          have HB := hide hb
          clear hb KC K1 HX K2
          go_wp2_with fail
          refine (unhide K3).mono ?_
          rintro e w3 ⟨rfl, rfl⟩
          go_wp2_with fail
          go_ret
          exact ⟨rfl, unhide HB⟩
    · rw [if_pos h2] at hR
      rw [hR] at KC h2
      have hXb : (R != 0) = true := bne_iff_ne.2 h2
      clear h2 hR
      go_enter Try.func24, Try.ntmps24
      go_wp2_with fail
      refine (unhide K1).mono ?_
      rintro e w1 ⟨rfl, rfl⟩
      go_wp2_with fail
      refine (unhide KC).mono ?_
      rintro e w2 ⟨rfl, hb⟩
      have HB := hide hb
      clear hb KC K1
      go_wp2_with fail
      go_ret
      exact ⟨rfl, unhide HB⟩
  · have h1' : inR rows.length peer = false := by simpa using h1
    rw [h1'] at K1
    have hno : peer < 0 ∨ (rows.length : Int) ≤ peer := (Int.lt_or_le peer 0).imp id fun hh => Int.not_lt.1 fun hx => h1 (inR_iff.2 ⟨hh, hx⟩)
    rw [if_pos hno] at hR
    subst hR
    clear h1 h1' KC hno
    go_enter Try.func24, Try.ntmps24
    go_wp2_with fail
    refine (unhide K1).mono ?_
    rintro e w1 ⟨rfl, rfl⟩
    clear K1
    go_wp2_with fail
    go_ret
    exact ⟨rfl, Below.refl _ _⟩

set_option maxRecDepth 100000 in
theorem nCheck_any (peer : Int) (r : Option Addr) (n c : Nat) (w : World) : Calls Try.prog 24 #[.pointer none, .int .i64 peer, .slice r n c] w fun e w' => e = .returned (.int .i64 13) ∧ w' = w := by
  go_enter Try.func24, Try.ntmps24
  go_wp2_with fail
  go_ret
  exact ⟨rfl, rfl⟩

set_option maxRecDepth 100000 in
theorem nLearn_any (peer : Int) (r : Option Addr) (n c : Nat) (w : World) : Calls Try.prog 12 #[.pointer none, .int .i64 peer, .slice r n c] w fun e w' => e = .returned (.int .i64 13) ∧ Below w.heap.size w w' := by
  go_enter Try.func12, Try.ntmps12
  go_wp2_with fail
  refine (nCheck_any _ _ _ _ _).mono ?_
  rintro e w1 ⟨rfl, rfl⟩
  go_wp2_with fail
  go_ret
  exact ⟨rfl, Below.refl _ _⟩

set_option maxRecDepth 100000 in
set_option maxHeartbeats 2000000 in
theorem learn_any {w : World} {p : Addr} {rows : List (List Vc.D)} {own : Nat → Prop} (h : MatR w p rows own) (peer : Int) (r : Option Addr) (c : Nat) (v : List Vc.D) (hv : v.length ≤ 9223372036854775807) (hc : v.length ≤ c) (hs : Sl w r v) :
    Calls Try.prog 12 #[.pointer (some p), .int .i64 peer, .slice r v.length c] w fun e w' => ∃ own', e = .returned (.int .i64 (learnL rows peer v).2) ∧ MatR w' p (learnL rows peer v).1 own' ∧ (∀ g, own' g → own g ∨ w.heap.size ≤ g) ∧ Beside own w w' := by
  have K1 := hide (checkM_any h peer r c v hv hs)
  have HM := hide h
  have HS := hide hs
  obtain ⟨X, hX⟩ : ∃ X, learnL rows peer v = X := ⟨_, rfl⟩
  rw [hX]
  unfold learnL at hX
  clear h hs
  by_cases hm : mayE rows.length peer v = 0
  · rw [if_neg (by simpa using hm)] at hX
    obtain ⟨h0, h1, hu⟩ := mayE_ok hm
    rw [hm] at K1
    obtain ⟨i, rfl⟩ : ∃ i : Nat, peer = i := ⟨peer.toNat, by omega⟩
    rw [Int.toNat_natCast] at hX
    have hin : i < rows.length := by omega
    have hiz : (i : Int) < (rows.length : Int) := by omega
    have HX := hide hX
    have HV := hide hu
    clear hX hm hu h0 h1
    go_enter Try.func12, Try.ntmps12
    go_wp2_with fail
    refine (unhide K1).mono ?_
    rintro e w1 ⟨rfl, hb⟩
    have HB := hide hb
    obtain ⟨b, g, cap, ps, hM⟩ := unhide HM
    obtain rfl := hM.at0
    have HM1 := hide (hM.keep hb.size fun k hk => hb.block k (hM.lt k hk))
    have x0 := (unhide HM1).head
    obtain ⟨r1, c1, x1, hc1, hs1, hl1⟩ := (unhide HM1).cell hin
    have KJ := hide fun W (hW : Below w1.heap.size w1 W) => join_fresh r1 r c1 c (rows[i]?.getD []) v (by omega) (by omega) hc1 hc W (hs1.after hW) ((unhide HS).after (below_grow (unhide HB) (Nat.le_refl _) hW))
    have HJU := hide (joins_up (rows[i]?.getD []) v)
    generalize Vc.joins (rows[i]?.getD []) v = J at KJ HX HJU
    generalize rows[i]?.getD [] = D at KJ x1
    clear hb hM hc1 hs1 hl1 K1
    have HC : Hid (∀ W, Below w1.heap.size w1 W → W.cell? ⟨b, 0, none⟩ = some (.slice (some ⟨g, 0, none⟩) rows.length cap) ∧ W.cell? ⟨g, i, none⟩ = some (.slice r1 D.length c1) ∧ W.frozen? ⟨g, i, none⟩ = false) := hide (fun W hW => ⟨(hW.cell (p := ⟨b, 0, none⟩) ((unhide HM1).lt b (unhide HM1).ob)).trans x0, (hW.cell (p := ⟨g, i, none⟩) (unhide HM1).row.lt).trans x1, ((unhide HM1).row.after hW).frozen i⟩)
    go_wp2_with fail
    go_region_with (go_at_call 25; refine (unhide KJ _ (by first | exact Below.refl _ _ | exact below_drew (Below.refl _ _) | exact below_drewN (Below.refl _ _) _)).mono ?_; rintro e w2 ⟨r2, c2, rfl, hc2, hs2, hb2, hf2⟩; obtain ⟨z0, z1, z2⟩ := unhide HC w2 (by first | exact hb2 | exact below_grow (below_drewN (Below.refl _ _) _) (Nat.le_refl _) hb2))
    all_goals
      have hb3 : Below w1.heap.size w1 w2 := below_grow (below_drew (Below.refl _ _)) (Nat.le_refl _) hb2
      have HE := hide ((unhide HM1).store (i := i) hb3 (unhide HJU) hc2 hs2 hf2)
      clear hb2 hb3 hc2 hs2 hf2 z0 z1 z2 HC KJ
      go_wp2_with fail
      go_ret
      rw [← unhide HX]
      exact ⟨_, rfl, ⟨b, g, cap, _, (unhide HE).1⟩, fun k hk => hk.imp id fun h => Nat.le_trans (unhide HB).size h.1, beside_after (unhide HB) (unhide HE).2⟩
  · rw [if_pos hm] at hX
    obtain ⟨E, hE⟩ : ∃ E, mayE rows.length peer v = E := ⟨_, rfl⟩
    rw [hE] at hX hm K1
    subst hX
    have hEb : (E != 0) = true := bne_iff_ne.2 hm
    clear hm hE
    go_enter Try.func12, Try.ntmps12
    go_wp2_with fail
    refine (unhide K1).mono ?_
    rintro e w1 ⟨rfl, hb⟩
    have HB := hide hb
    clear hb K1
    go_wp2_with fail
    go_ret
    obtain ⟨b, g, cap, ps, hM⟩ := unhide HM
    exact ⟨own, rfl, ⟨b, g, cap, ps, hM.keep (unhide HB).size fun k hk => (unhide HB).block k (hM.lt k hk)⟩, fun g hg => .inl hg, beside_of (unhide HB)⟩
end Go.Proofs.Ytbgpdiinkkgieaa
