/-
  What Gaps answers, the document's.
-/
import Derived.Test.YtpcfblpenealbaaGapsS
namespace Go.Proofs.Ytpcfblpenealbaa
open Go.RowKit

theorem top_step {E : List Vc.D} {p : Int} {i : Nat} {d : Vc.D} (hr : Vc.Ris Vc.d0 E) (hd : E[i]? = some d) (hp : d.1 = p) : Vc.Top (E.take (i + 1)) p d.2 := by
  rw [take_snoc hd]
  refine ⟨fun x hx e => ?_, .inr ?_⟩
  · rcases List.mem_append.1 hx with hx | hx
    · have := (Vc.ris_mid (by rw [← take_mid hd]; exact hr)).1 x hx
      unfold Vc.Ah at this
      omega
    · rw [List.mem_singleton.1 hx]; exact Int.le_refl _
  · exact List.mem_append_right _ (by rw [← hp]; exact List.mem_singleton.2 rfl)
theorem top_skip {E : List Vc.D} {p t : Int} {i : Nat} {d : Vc.D} (h : Vc.Top (E.take i) p t) (hd : E[i]? = some d) (hp : d.1 ≠ p) : Vc.Top (E.take (i + 1)) p t := by
  rw [take_snoc hd]
  refine ⟨fun x hx e => ?_, ?_⟩
  · rcases List.mem_append.1 hx with hx | hx
    · exact h.most x hx e
    · rw [List.mem_singleton.1 hx] at e; exact absurd e hp
  · rcases h.is with e | e
    · exact .inl e
    · exact .inr (List.mem_append_left _ e)

/-- How far the document's way has come: all ahead of a place, or as many as are asked. -/
def Way (B E : List Vc.D) (m : Nat) (cur : Vc.D) (out : List Vc.D) : Prop := (Vc.GapsTo B E cur out ∧ out.length ≤ m) ∨ ((∃ c, Vc.GapsTo B E c out) ∧ out.length = m)
theorem Way.len {B E : List Vc.D} {m : Nat} {cur : Vc.D} {out : List Vc.D} (h : Way B E m cur out) : out.length ≤ m := by
  rcases h with h | h
  · exact h.2
  · exact Nat.le_of_eq h.2

set_option maxRecDepth 100000 in
set_option maxHeartbeats 4000000 in
theorem refGapsS_any (r1 r2 : Option Addr) (c1 c2 : Nat) (B E : List Vc.D) (hB : B.length ≤ 100000) (hE : E.length ≤ 100000) (most : Int) (hmost : most ≤ 1000) (w : World) (s1 : Sl w r1 B) (s2 : Sl w r2 E) :
    Calls Try.prog 19 #[.agg #[.slice r1 B.length c1, .slice r2 E.length c2], .int .i64 most] w (GapsMade B E most w) := by
  obtain ⟨i0, hi, hz0, hz1, hz2⟩ := info_parts info26
  have HB0 := hide (below_alloc' (w := w) (.cells #[.slice r1 B.length c1, .slice r2 E.length c2] 24))
  have RS := hide (VRow.new w 24 [.slice r1 B.length c1, .slice r2 E.length c2])
  have S1 := hide (s1.after (unhide HB0))
  have S2 := hide (s2.after (unhide HB0))
  have KC := hide fun W h h' => refSetCheck_any r1 r2 c1 c2 B E hB hE W h h'
  have rs0 := (unhide RS).cell 0 _ rfl
  have rs1 := (unhide RS).cell 1 _ rfl
  clear s1 s2
  by_cases hz : Vc.checkS B E = 0
  · have hs := (Vc.checkS_zero B E).1 hz
    have HS := hide hs
    have HZ := hide hz
    have KG := hide fun q W h => refGet_any r1 c1 B hB q W h
    have HGT : Hid (∀ q, Vc.get B q = Vc.look B q) := hide (fun q => Vc.get_vec hs.base q)
    have HLB : Hid (∀ q, 0 ≤ Vc.look B q ∧ Vc.look B q ≤ 1048576) := hide (fun q => Vc.look_bd q hs.base)
    rw [hz] at KC
    clear hs hz
    go_enter Try.func19, Try.ntmps19
    go_wp2_with fail
    generalize w.alloc (.cells #[.slice r1 B.length c1, .slice r2 E.length c2] 24) = w0 at HB0 RS S1 S2 rs0 rs1 ⊢
    refine (unhide KC _ (unhide S1) (unhide S2)).mono ?_
    rintro e w1 ⟨rfl, hb⟩
    replace HB0 := hide (below_grow (unhide HB0) (Nat.le_refl _) hb)
    replace RS := hide ((unhide RS).after hb)
    replace S1 := hide ((unhide S1).after hb)
    replace S2 := hide ((unhide S2).after hb)
    clear hb rs0 rs1
    go_wp2_with fail
    go_loopw [5, 6] (fun s i wr => ∃ (p : Nat) (out : List Vc.D), p ≤ 64 ∧ i = .int .i64 p ∧ Way B E most.toNat ((p : Int), 1) out ∧ wr.ownsRow w1.heap.size 26 2 s out.length (flat out) ∧ Below w1.heap.size w1 wr) (fun _ i _ => 64 - (intOf i).toNat)
    case atStart => exact ⟨0, [], Nat.zero_le _, rfl, .inl ⟨Vc.ref_zero (unhide HS), Nat.zero_le _⟩, World.ownsRow_nil _ _ _ _, Below.refl _ _⟩
    case round =>
      obtain ⟨p, out, hp, rfl, hway, hown, hb⟩ := hrel
      have HWY := hide hway
      have HO := hide hown
      have HB := hide hb
      have hlen := hway.len
      clear hway hown hb
      by_cases hlt : p < 64
      · go_wp2_with fail
        go_loopw [7, 8] (fun x i wv => ∃ (t : Int) (j q : Nat), j ≤ E.length ∧ x = .int .i64 t ∧ i = .int .i64 j ∧ Vc.Top (E.take j) (p : Int) t ∧ wv = wr.drewN q) (fun _ i _ => E.length - (intOf i).toNat)
        case atStart => exact ⟨0, 0, 0, Nat.zero_le _, rfl, rfl, ⟨fun x hx => (by cases hx), .inl rfl⟩, rfl⟩
        case round =>
          obtain ⟨t, j, q, hj, rfl, rfl, htop, rfl⟩ := hrel
          have HTP := hide htop
          have RSr := hide ((unhide RS).after (unhide HB))
          have S2r := hide ((unhide S2).after (unhide HB))
          have j0 := (unhide RSr).cell 0 _ rfl
          have j1 := (unhide RSr).cell 1 _ rfl
          clear htop
          by_cases hjl : j < E.length
          · obtain ⟨⟨pp, cc⟩, hd⟩ : ∃ d, E[j]? = some d := ⟨_, List.getElem?_eq_getElem hjl⟩
            obtain ⟨g, o, rfl, hg, hcell⟩ := unhide S2r (by omega)
            have d0 : wr.cell? ⟨g, o + j * 2, none⟩ = some (.int .i64 pp) := (hcell j _ hd).1
            have d1 : wr.cell? ⟨g, o + j * 2 + 1, none⟩ = some (.int .i64 cc) := (hcell j _ hd).2
            by_cases hpp : pp = (p : Int)
            · have HT2 := hide (top_step (unhide HS).ris hd hpp)
              have hpb : (pp == (p : Int)) = true := beq_iff_eq.2 hpp
              clear hd hg hcell hpp
              go_wp2_with fail
              go_roundw
              case rel => exact ⟨cc, j + 1, q, by omega, rfl, by go_num, unhide HT2, rfl⟩
              case measure => simp [intOf]; omega
            · have HT2 := hide (top_skip (unhide HTP) hd hpp)
              have hpb : (pp == (p : Int)) = false := beq_eq_false_iff_ne.2 hpp
              clear hd hg hcell hpp
              go_wp2_with fail
              go_roundw
              case rel => exact ⟨t, j + 1, q, by omega, rfl, by go_num, unhide HT2, rfl⟩
              case measure => simp [intOf]; omega
          · obtain rfl : j = E.length := by omega
            rw [List.take_length] at HTP
            have KG1 := hide (unhide KG (p : Int))
            rw [unhide HGT] at KG1
            obtain ⟨F, hF⟩ : ∃ F, Vc.look B (p : Int) = F := ⟨_, rfl⟩
            have hF0 : 0 ≤ F := by rw [← hF]; exact (unhide HLB _).1
            have hF1 : F ≤ 1048576 := by rw [← hF]; exact (unhide HLB _).2
            have HF := hide hF
            rw [hF] at KG1
            have ht1 : t ≤ 1048576 := by
              rcases (unhide HTP).is with e | e
              · omega
              · have := (unhide HS).ok _ e
                unfold Vc.Ok at this
                exact this.2.2.2
            have HWF : Hid (Way B E most.toNat ((p : Int), F + 1) out) := by
              rcases unhide HWY with h | h
              · rcases Vc.ref_in h.1 with h' | h'
                · exact .inl ⟨by rw [hF] at h'; exact h', h.2⟩
                · rw [hF] at h'; omega
              · exact .inr h
            have hw1 : IntKind.i64.wrap (F + 1) = F + 1 := wrap_small (by omega) (by omega)
            clear hF HWY
            have HOq : Hid ((wr.drewN q).ownsRow w1.heap.size 26 2 u5 out.length (flat out)) := HO
            have HBq := hide (below_drewN (unhide HB) q)
            have i0q : (wr.drewN q).cell? ⟨w.heap.size, 0, none⟩ = some (.slice r1 B.length c1) := j0
            go_wp2_with fail
            refine (unhide KG1 _ ((unhide S1).after (unhide HBq))).mono ?_
            rintro e w2 ⟨rfl, hb⟩
            have HO2 := hide (own_after (unhide HOq) hb)
            have HB2 := hide (below_grow (unhide HBq) (Nat.le_refl _) hb)
            clear hb HO HB HOq HBq RSr S2r j0 j1 i0q
            go_wp2_with fail
            go_loopw [5, 9] (fun s i wv => ∃ (x : Int) (ys : List Vc.D), i = .int .i64 x ∧ F < x ∧ (x ≤ t ∨ x = F + 1) ∧ Way B E most.toNat ((p : Int), x) ys ∧ wv.ownsRow w1.heap.size 26 2 s ys.length (flat ys) ∧ Below w1.heap.size w1 wv) (fun _ i _ => (t - intOf i).toNat)
            case atStart => exact ⟨F + 1, out, rfl, by omega, .inr rfl, unhide HWF, unhide HO2, unhide HB2⟩
            case round =>
              clear HO2 HB2 HWF
              obtain ⟨x, ys, rfl, hFx, hxt, hway, hown, hb⟩ := hrel
              obtain ⟨rX, cX, rfl, hcX, hslX⟩ := own_sl rfl hown
              have hly := hway.len
              have HWY := hide hway
              have HO := hide hown
              have HB := hide hb
              have RSr := hide ((unhide RS).after hb)
              have S2r := hide ((unhide S2).after hb)
              have hsz := hb.size
              clear hcX hslX hway hown hb
              by_cases hx : x < t
              · by_cases hfull : (ys.length : Int) < most
                · have hg : Vc.GapsTo B E ((p : Int), x) ys := by
                    rcases unhide HWY with h | h
                    · exact h.1
                    · have := h.2; omega
                  have hpt : ((p : Int), t) ∈ E := by
                    rcases (unhide HTP).is with e | e
                    · omega
                    · exact e
                  have hw2 : IntKind.i64.wrap (x + 1) = x + 1 := wrap_small (by omega) (by omega)
                  have hlen2 : ys.length + 1 ≤ most.toNat := by omega
                  have RD := hide (VRow.new wr 26 [.int .i64 p, .int .i64 x])
                  have RSD := hide ((unhide RSr).alloc (.cells #[.int .i64 p, .int .i64 x] 26))
                  have HOD := hide ((unhide HO).alloc (.cells #[.int .i64 p, .int .i64 x] 26))
                  have HBD := hide ((unhide HB).alloc hsz (.cells #[.int .i64 p, .int .i64 x] 26))
                  have n0 := (unhide RD).cell 0 _ rfl
                  have n1 := (unhide RD).cell 1 _ rfl
                  have j1 := (unhide RSD).cell 1 _ rfl
                  have S2D := hide ((unhide S2).after (unhide HBD))
                  by_cases hD : ((p : Int), x) ∈ E
                  · have HNX : Hid (Way B E most.toNat ((p : Int), x + 1) ys) := hide (.inl ⟨Vc.ref_skip hD hg, hly⟩)
                    have KI := hide fun W h => in_any r2 c2 E hE (p : Int) x W h true (by simp [hD])
                    clear hD hg hpt
                    go_wp2_with fail
                    refine (unhide KI _ (unhide S2D)).mono ?_
                    rintro e w4 ⟨rfl, hb4⟩
                    have HO4 := hide (own_after (unhide HOD) hb4)
                    have HB4 := hide (below_grow (unhide HBD) (Nat.le_refl _) hb4)
                    clear hb4 n0 n1 j1
                    go_wp2_with fail
                    go_roundw
                    case rel => exact ⟨x + 1, ys, by go_num, by omega, .inl (by omega), unhide HNX, unhide HO4, unhide HB4⟩
                    case measure => simp [intOf]; omega
                  · have HNX : Hid (Way B E most.toNat ((p : Int), x + 1) (ys ++ [((p : Int), x)])) := hide (.inl ⟨Vc.ref_step (unhide HS) (by omega) hpt (by rw [unhide HF]; exact hFx) hx hD hg, by simpa using hlen2⟩)
                    have KI := hide fun W h => in_any r2 c2 E hE (p : Int) x W h false (by simp [hD])
                    clear hD hg hpt
                    go_wp2_with fail
                    refine (unhide KI _ (unhide S2D)).mono ?_
                    rintro e w4 ⟨rfl, hb4⟩
                    have HO4 := hide (own_after (unhide HOD) hb4)
                    have HB4 := hide (below_grow (unhide HBD) (Nat.le_refl _) hb4)
                    have RD4 := hide ((unhide RD).after hb4)
                    clear hb4 n0 n1 j1
                    have n0 := (unhide RD4).cell 0 _ rfl
                    have n1 := (unhide RD4).cell 1 _ rfl
                    have hs4 := (unhide HB4).size
                    go_wp2_with (at_builtin; refine wpList_append_own _ rfl _ _ 22 rfl w1.heap.size 26 i0 _ 2 16 Try.underlying22 hi hz0 hz1 hz2 rfl (by decide) _ _ _ rfl ((unhide HO4).alloc _) ⟨w4.heap.size, 0, none⟩ 1 1 [.int .i64 p, .int .i64 x] rfl rfl (cell_two_new _ _ _ _) (by simp [Value.oneCell']) (by unfold maxLen; omega) (by omega) (by simp; omega) ?_; intro v' w6 hown' hgrow _; have HB6 := hide (grown_below ((unhide HO4).alloc _) hgrow (by simp; omega)); have HO6 := hide hown'; clear hgrow hown')
                    go_roundw
                    case rel =>
                      refine ⟨x + 1, ys ++ [((p : Int), x)], by go_num, by omega, .inl (by omega), unhide HNX, ?_, ((unhide HB4).alloc hs4 _).trans (unhide HB6)⟩
                      rw [List.length_append, flat_append]
                      exact unhide HO6
                    case measure => simp [intOf]; omega
                · have HNX : Hid (Way B E most.toNat (((p + 1 : Nat) : Int), 1) ys) := by
                    rcases unhide HWY with h | h
                    · exact .inr ⟨⟨_, h.1⟩, by have := h.2; omega⟩
                    · exact .inr h
                  have hfb : decide ((ys.length : Int) < most) = false := decide_eq_false hfull
                  go_wp2_with fail
                  go_roundw
                  case rel => exact ⟨p + 1, ys, by omega, by go_num, unhide HNX, unhide HO, unhide HB⟩
                  case measure => simp [intOf]; omega
              · have HNX : Hid (Way B E most.toNat (((p + 1 : Nat) : Int), 1) ys) := by
                  rcases unhide HWY with h | h
                  · exact .inl ⟨Vc.ref_next (unhide HTP) (by omega) h.1, h.2⟩
                  · exact .inr h
                go_wp2_with fail
                go_roundw
                case rel => exact ⟨p + 1, ys, by omega, by go_num, unhide HNX, unhide HO, unhide HB⟩
                case measure => simp [intOf]; omega
      · obtain rfl : p = 64 := by omega
        obtain ⟨rX, cX, rfl, hcX, hslX⟩ := own_sl rfl (unhide HO)
        have HSX := hide hslX
        have HCX := hide hcX
        clear hslX hcX
        go_wp2_with fail
        go_ret
        refine ⟨out, rX, cX, rfl, unhide HCX, unhide HSX, below_grow (unhide HB0) (Nat.le_refl _) (unhide HB), by omega, fun _ => ?_, fun h => absurd (unhide HZ) h⟩
        rcases unhide HWY with h | ⟨⟨c, h⟩, h'⟩
        · exact ⟨⟨_, h.1, .inr (Vc.ref_end (unhide HS))⟩, h.2⟩
        · exact ⟨⟨c, h, .inl h'⟩, Nat.le_of_eq h'⟩
  · have hzb : (Vc.checkS B E != 0) = true := bne_iff_ne.2 hz
    have HZ := hide hz
    clear hz
    have HK : Hid (∀ W, Sl W r1 B → Sl W r2 E → Calls Try.prog 12 #[.agg #[.slice r1 B.length c1, .slice r2 E.length c2]] W fun e w' => e = .returned (.int .i64 (Vc.checkS B E)) ∧ Below W.heap.size W w') := KC
    obtain ⟨C, hC⟩ : ∃ C, Vc.checkS B E = C := ⟨_, rfl⟩
    rw [hC] at HK hzb
    clear hC KC
    go_enter Try.func19, Try.ntmps19
    go_wp2_with fail
    refine (unhide HK _ (unhide S1) (unhide S2)).mono ?_
    rintro e w1 ⟨rfl, hb⟩
    replace HB0 := hide (below_grow (unhide HB0) (Nat.le_refl _) hb)
    clear hb
    go_wp2_with fail
    go_ret
    exact ⟨[], none, 0, rfl, Nat.le_refl _, Sl.none _ _, unhide HB0, by simp, fun h => absurd h (unhide HZ), fun _ => rfl⟩
end Go.Proofs.Ytpcfblpenealbaa
