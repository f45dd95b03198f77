/-
  What Gaps answers, the program's: the first dots that are not there, ahead of others of their peers.
-/
import Derived.Test.YtpcfblpenealbaaSetCalls
import Derived.Maps.AppendAt
namespace Go.Proofs.Ytpcfblpenealbaa
open Go.RowKit

theorem take_mid {E : List Vc.D} {k : Nat} {d : Vc.D} (h : E[k]? = some d) : E = E.take k ++ d :: E.drop (k + 1) := by
  have hk := (List.getElem?_eq_some_iff.1 h).1
  have := List.drop_eq_getElem_cons hk
  rw [(List.getElem?_eq_some_iff.1 h).2] at this
  rw [← this, List.take_append_drop]
theorem take_snoc {E : List Vc.D} {k : Nat} {d : Vc.D} (h : E[k]? = some d) : E.take (k + 1) = E.take k ++ [d] := by
  have hk := (List.getElem?_eq_some_iff.1 h).1
  rw [List.take_succ_eq_append_getElem hk, (List.getElem?_eq_some_iff.1 h).2]

/-- What Gaps leaves. -/
def GapsMade (B E : List Vc.D) (most : Int) (w : World) (e : Ending) (w' : World) : Prop :=
  ∃ P r cap, e = .returned (.slice r P.length cap) ∧ P.length ≤ cap ∧ Sl w' r P ∧ Below w.heap.size w w' ∧ P.length ≤ 1000 ∧ (Vc.checkS B E = 0 → Vc.IsGaps B E most.toNat P) ∧ (¬ Vc.checkS B E = 0 → P = [])

theorem gaps_ret {B E : List Vc.D} {most : Int} {cur : Vc.D} {P : List Vc.D} (hg : Vc.GapsTo B E cur P) (hl : P.length ≤ most.toNat) (hm : most ≤ (P.length : Int)) : Vc.IsGaps B E most.toNat P := ⟨⟨cur, hg, .inl (by omega)⟩, hl⟩

set_option maxRecDepth 100000 in
set_option maxHeartbeats 4000000 in
theorem gapsS_any (r1 r2 : Option Addr) (c1 c2 : Nat) (B E : List Vc.D) (hB : B.length ≤ 100000) (hE : E.length ≤ 100000) (most : Int) (hmost : most ≤ 1000) (w : World) (s1 : Sl w r1 B) (s2 : Sl w r2 E) :
    Calls Try.prog 18 #[.agg #[.slice r1 B.length c1, .slice r2 E.length c2], .int .i64 most] w (GapsMade B E most w) := by
  obtain ⟨i0, hi, hz0, hz1, hz2⟩ := info_parts info26
  have HB0 := hide (below_alloc' (w := w) (.cells #[.slice r1 B.length c1, .slice r2 E.length c2] 29))
  have RS := hide (VRow.new w 29 [.slice r1 B.length c1, .slice r2 E.length c2])
  have S1 := hide (s1.after (unhide HB0))
  have S2 := hide (s2.after (unhide HB0))
  have KC := hide fun W h h' => setCheck_any r1 r2 c1 c2 B E hB hE W h h'
  have rs0 := (unhide RS).cell 0 _ rfl
  have rs1 := (unhide RS).cell 1 _ rfl
  clear s1 s2
  by_cases hz : Vc.checkS B E = 0
  · have hs := (Vc.checkS_zero B E).1 hz
    have HS := hide hs
    have HZ := hide hz
    obtain ⟨n, hn⟩ : ∃ n : Nat, n = 64 := ⟨64, rfl⟩
    have HN := hide hn
    have KN := hide fun W h => counts_any r1 c1 B hs.base n hn W h
    have HL0 : Hid ((cntF (Vc.look B) n).length = 64) := hide (by rw [cntF_len, hn])
    have H10 : Hid (∀ v ∈ cntF (Vc.look B) n, v.oneCell' = true) := hide (cntF_one _ _)
    obtain ⟨vs, hvs⟩ : ∃ vs, cntF (Vc.look B) n = vs := ⟨_, rfl⟩
    have HVS := hide hvs
    rw [hvs] at KN HL0 H10
    rw [hz] at KC
    clear hs hz hn hvs
    go_enter Try.func18, Try.ntmps18
    go_wp2_with fail
    generalize w.alloc (.cells #[.slice r1 B.length c1, .slice r2 E.length c2] 29) = w0 at HB0 RS S1 S2 rs0 rs1 ⊢
    refine (unhide KC _ (unhide S1) (unhide S2)).mono ?_
    rintro e w1 ⟨rfl, hb⟩
    replace HB0 := hide (below_grow (unhide HB0) (Nat.le_refl _) hb)
    replace RS := hide ((unhide RS).after hb)
    replace S1 := hide ((unhide S1).after hb)
    replace S2 := hide ((unhide S2).after hb)
    clear hb rs0 rs1
    have rs0 := (unhide RS).cell 0 _ rfl
    have rs1 := (unhide RS).cell 1 _ rfl
    go_wp2_with fail
    refine (unhide KN _ (unhide S1)).mono ?_
    rintro e w2 ⟨rfl, hb⟩
    replace HB0 := hide (below_grow (unhide HB0) (Nat.le_refl _) hb)
    replace RS := hide ((unhide RS).after hb)
    replace S2 := hide ((unhide S2).after hb)
    clear hb rs0 rs1 S1
    have hwb : w.heap.size < w2.heap.size := (unhide RS).lt
    go_wp2_with (first
      | (refine store_row (by rfl) 54 _ _ (by rfl) w2.heap.size vs (by rfl) (by rfl) 54 zero64 (VRow.newAt rfl) 64 size54 (unhide HL0) rfl (unhide H10) ?_; intro w3 ho3 hr3; have HW3 := hide ((below_alloc' (w := w2) (.cells zero64.toArray 54)).trans (ho3.below (Nat.le_refl _))); have R54 := hide hr3; have RS3 := hide ((unhide RS).after (unhide HW3)); have i13 := (unhide RS3).cell 1 _ rfl; clear ho3 hr3))
    have HB3 := hide (below_grow (unhide HB0) (Nat.le_refl _) (unhide HW3))
    have S23 := hide ((unhide S2).after (unhide HW3))
    have hw3 : w2.heap.size + 1 ≤ w3.heap.size := (unhide R54).lt
    go_loopw [6, 19] (fun s i wr => ∃ (k : Nat) (f : Int → Int) (out : List Vc.D), k ≤ E.length ∧ i = .int .i64 k ∧ Vc.Walk B (E.take k) f ∧ Vc.GapsTo B E (Vc.last (E.take k)) out ∧ out.length ≤ most.toNat ∧ VRow wr w2.heap.size 54 (cntF f n) ∧ wr.ownsRow (w2.heap.size + 1) 26 2 s out.length (flat out) ∧ w2.heap.size + 1 ≤ wr.heap.size ∧ Below w2.heap.size w3 wr) (fun _ i _ => E.length - (intOf i).toNat)
    case atStart =>
      refine ⟨0, Vc.look B, [], Nat.zero_le _, rfl, Vc.Walk.start B, Vc.gaps_zero (unhide HS), Nat.zero_le _, ?_, World.ownsRow_nil _ _ _ _, hw3, Below.refl _ _⟩
      rw [unhide HVS]
      exact unhide R54
    case round =>
      obtain ⟨k, f, out, hk, rfl, hwalk, hgap, hlen, hrow, hown, hsz, hb⟩ := hrel
      have HWK := hide hwalk
      have HGP := hide hgap
      have HR := hide hrow
      have HO := hide hown
      have HB := hide hb
      clear hwalk hgap hrow hown hb
      by_cases hlt : k < E.length
      · obtain ⟨⟨p, c⟩, hd⟩ : ∃ d, E[k]? = some d := ⟨_, List.getElem?_eq_getElem hlt⟩
        have hok := (unhide HS).ok _ (List.mem_of_getElem? hd)
        obtain ⟨m, rfl⟩ : ∃ m : Nat, p = (m : Int) := ⟨p.toNat, by unfold Vc.Ok at hok; dsimp only at hok; omega⟩
        have hm : m < 64 := by unfold Vc.Ok at hok; dsimp only at hok; omega
        have hc2 : c ≤ 1048576 := by unfold Vc.Ok at hok; dsimp only at hok; omega
        have HE := hide (take_mid hd)
        have HTK := hide (take_snoc hd)
        obtain ⟨pre, hpre⟩ : ∃ pre, E.take k = pre := ⟨_, rfl⟩
        obtain ⟨post, hpost⟩ : ∃ post, E.drop (k + 1) = post := ⟨_, rfl⟩
        rw [hpre] at HWK HGP HE HTK
        rw [hpost] at HE
        have hsE : Vc.SetOk B (pre ++ ((m : Int), c) :: post) := by have h := unhide HS; rw [unhide HE] at h; exact h
        have hgE : Vc.GapsTo B (pre ++ ((m : Int), c) :: post) (Vc.last pre) out := by have h := unhide HGP; rw [unhide HE] at h; exact h
        have hbd := (unhide HWK).bd hsE
        obtain ⟨F, hF⟩ : ∃ F, f (m : Int) = F := ⟨_, rfl⟩
        have HF := hide hF
        have HGI := hide (Vc.gaps_in (unhide HWK) hsE hgE)
        have HWN := hide ((unhide HWK).next hsE)
        have HSE := hide hsE
        dsimp only at hbd HGI
        rw [hF] at hbd HGI
        obtain ⟨hF0, hF1⟩ := hbd
        obtain ⟨g, o, rfl, hg, hcell⟩ := unhide ((hide ((unhide S23).below (n := w2.heap.size) (unhide HB) (fun g o e => by obtain ⟨g', o', e', hg', _⟩ := unhide S2 (by omega); rw [e'] at e; cases e; exact hg'))) : Hid (Sl wr r2 E)) (by omega)
        have x0 : wr.cell? ⟨g, o + k * 2, none⟩ = some (.int .i64 m) := (hcell k _ hd).1
        have x1 : wr.cell? ⟨g, o + k * 2 + 1, none⟩ = some (.int .i64 c) := (hcell k _ hd).2
        have RA := hide ((unhide HR).alloc (.cells #[.int .i64 m, .int .i64 c] 26))
        have RD := hide (VRow.new wr 26 [.int .i64 m, .int .i64 c])
        have o0 := (unhide RA).cell m _ (cntF_get _ n m (by have := unhide HN; omega))
        have HOA := hide ((unhide HO).alloc (.cells #[.int .i64 m, .int .i64 c] 26))
        have HLT := hide (unhide HO).lt
        have HBA := hide ((unhide HB).alloc (by omega) (.cells #[.int .i64 m, .int .i64 c] 26))
        have n0 := (unhide RD).cell 0 _ rfl
        have n1 := (unhide RD).cell 1 _ rfl
        have hw1 : IntKind.i64.wrap (F + 1) = F + 1 := wrap_small (by omega) (by omega)
        rw [hF] at o0
        clear hd hok hsE hgE hF hg hcell hpre hpost
        go_wp2_with fail
        have HWA := hide (lt_new wr (.cells #[.int .i64 m, .int .i64 c] 26))
        have hwr := hsz
        clear hsz
        generalize wr.alloc (.cells #[.int .i64 m, .int .i64 c] 26) = wa at RA RD HOA HBA HWA ⊢
        clear n0 n1 o0 x0 x1 HB HO HR
        generalize wr.heap.size = DD at RD HWA HLT hwr ⊢
        go_loopw [6, 9] (fun s i wv => ∃ (x : Int) (ys : List Vc.D), i = .int .i64 x ∧ F < x ∧ x ≤ c ∧ Vc.GapsTo B (pre ++ ((m : Int), c) :: post) ((m : Int), x) ys ∧ ys.length ≤ most.toNat ∧ VRow wv w2.heap.size 54 (cntF f n) ∧ VRow wv DD 26 [.int .i64 m, .int .i64 c] ∧ wv.ownsRow (w2.heap.size + 1) 26 2 s ys.length (flat ys) ∧ s.ownBlock ≠ some DD ∧ DD < wv.heap.size ∧ Below w2.heap.size w3 wv) (fun _ i _ => (c - intOf i).toNat)
        case atStart =>
          exact ⟨F + 1, out, rfl, by omega, by omega, unhide HGI, hlen, unhide RA, unhide RD, unhide HOA, fun e => by have := unhide HLT _ e; omega, unhide HWA, unhide HBA⟩
        case round =>
          obtain ⟨x, ys, rfl, hFx, hxc, hgy, hly, hrow, hrd, hown, hne, hwr, hbv⟩ := hrel
          obtain ⟨rX, cX, rfl, hcX, hslX⟩ := own_sl rfl hown
          have HGY := hide hgy
          have HR := hide hrow
          have HRD := hide hrd
          have HO := hide hown
          have HNE := hide hne
          have HBV := hide hbv
          have HSX := hide hslX
          have HCX := hide hcX
          have n0 := hrd.cell 0 _ rfl
          have n1 := hrd.cell 1 _ rfl
          have o0 := hrow.cell m _ (cntF_get _ n m (by have := unhide HN; omega))
          have o1 := hrow.frozen m
          generalize f (m : Int) = old at o0
          clear hgy hrow hrd hown hne hbv hslX hcX RA RD HOA HBA HLT HGI
          by_cases hx : x < c
          · by_cases hfull : most ≤ (ys.length : Int)
            · go_wp2_with fail
              go_ret
              refine ⟨ys, rX, cX, rfl, unhide HCX, unhide HSX, ?_, by omega, fun _ => ?_, fun h => absurd (unhide HZ) h⟩
              · exact (unhide HB3).trans ((unhide HBV).mono (by omega))
              · have h := gaps_ret (unhide HGY) hly hfull
                rw [← unhide HE] at h
                exact h
            · have hw2 : IntKind.i64.wrap (x + 1) = x + 1 := wrap_small (by omega) (by omega)
              have HNX := hide (Vc.gaps_step (unhide HWK) (unhide HSE) (by rw [unhide HF]; exact hFx) hx (unhide HGY))
              go_wp2_with (at_builtin; refine wpList_append_own_at _ rfl _ _ 22 rfl (w2.heap.size + 1) 26 i0 _ 2 16 Try.underlying22 hi hz0 hz1 hz2 rfl (by decide) _ _ _ rfl ((unhide HO).alloc _) ⟨wr.heap.size, 0, none⟩ 1 1 [.int .i64 m, .int .i64 x] rfl rfl (cell_two_new _ _ _ _) (by simp [Value.oneCell']) (by unfold maxLen; omega) (by omega) (by simp; omega) ?_; intro v' w6 hown' hgrow _ hblk; have HGR := hide hgrow; have HO2 := hide hown'; have HBK := hide hblk; clear hgrow hown' hblk)
              have HB6 := hide (grown_below ((unhide HO).alloc _) (unhide HGR) (by simp; omega))
              go_roundw
              case rel =>
                refine ⟨x + 1, ys ++ [((m : Int), x)], by go_num, by omega, by omega, unhide HNX, by simp; omega, ((unhide HR).alloc _).below (unhide HB6) (by omega), ((unhide HRD).alloc _).grown (unhide HGR) (fun e => unhide HNE e.symm), ?_, ?_, ?_, ?_⟩
                · rw [List.length_append, flat_append]
                  exact unhide HO2
                · rcases unhide HBK with e | e
                  · rw [e]; exact unhide HNE
                  · rw [e]; intro e'; injection e' with e'; simp at e'; omega
                · have := (unhide HB6).size; simp at this; omega
                · exact ((unhide HBV).alloc (by omega) _).trans ((unhide HB6).mono (by omega))
              case measure => simp [intOf]; omega
          · obtain rfl : x = c := by omega
            go_wp2_with fail
            go_roundw
            case rel =>
              refine ⟨k + 1, Vc.upd f (m : Int) x, ys, by omega, by go_num, ?_, ?_, hly, ?_, own_set (unhide HO) (by omega) m _, by simp; omega, below_set (unhide HBV) (Nat.le_refl _) m _⟩
              · rw [unhide HTK]; exact unhide HWN
              · rw [unhide HTK, Vc.last_snoc, unhide HE]; exact unhide HGY
              · rw [← cntF_set]; exact (unhide HR).set m _
            case measure => simp [intOf]; omega
      · obtain rfl : k = E.length := by omega
        obtain ⟨rX, cX, rfl, hcX, hslX⟩ := own_sl rfl (unhide HO)
        have HSX := hide hslX
        have HCX := hide hcX
        rw [List.take_length] at HGP
        clear hslX hcX
        go_wp2_with fail
        go_ret
        exact ⟨out, rX, cX, rfl, unhide HCX, unhide HSX, (unhide HB3).trans ((unhide HB).mono (by omega)), by omega, fun _ => ⟨⟨_, unhide HGP, .inr (Vc.gaps_end (unhide HS))⟩, hlen⟩, fun h => absurd (unhide HZ) h⟩
  · have hzb : (Vc.checkS B E != 0) = true := bne_iff_ne.2 hz
    have HZ := hide hz
    clear hz
    have HK : Hid (∀ W, Sl W r1 B → Sl W r2 E → Calls Try.prog 11 #[.agg #[.slice r1 B.length c1, .slice r2 E.length c2]] W fun e w' => e = .returned (.int .i64 (Vc.checkS B E)) ∧ Below W.heap.size W w') := KC
    obtain ⟨C, hC⟩ : ∃ C, Vc.checkS B E = C := ⟨_, rfl⟩
    rw [hC] at HK hzb
    clear hC KC
    go_enter Try.func18, Try.ntmps18
    go_wp2_with fail
    refine (unhide HK _ (unhide S1) (unhide S2)).mono ?_
    rintro e w1 ⟨rfl, hb⟩
    replace HB0 := hide (below_grow (unhide HB0) (Nat.le_refl _) hb)
    clear hb
    go_wp2_with fail
    go_ret
    exact ⟨[], none, 0, rfl, Nat.le_refl _, Sl.none _ _, unhide HB0, by simp, fun h => absurd h (unhide HZ), fun _ => rfl⟩
end Go.Proofs.Ytpcfblpenealbaa
