/-
  What Check of a set answers, the program's and the document's.
-/
import Derived.Test.YtpcfblpenealbaaTake0
namespace Go.Proofs.Ytpcfblpenealbaa
open Go.RowKit

def prevD (E : List Vc.D) : Nat → Vc.D
  | 0 => Vc.d0
  | k + 1 => E.getD k (0, 0)
theorem chkE_end (f : Int → Int) (E : List Vc.D) (p : Vc.D) : Vc.chkE f p (E.drop E.length) = 0 := by rw [List.drop_length]; rfl
theorem prevD_at (E : List Vc.D) (k : Nat) (d : Vc.D) (h : E[k]? = some d) : prevD E (k + 1) = d := by simp [prevD, List.getD, h]
theorem chkE_step (f : Int → Int) (E : List Vc.D) (k : Nat) (d : Vc.D) (h : E[k]? = some d) : Vc.chkE f (prevD E k) (E.drop k) = if Vc.dotErr d ≠ 0 then Vc.dotErr d else if ¬ Vc.Ah (prevD E k) d then 8 else if d.2 ≤ f d.1 + 1 then 7 else Vc.chkE f (prevD E (k + 1)) (E.drop (k + 1)) := by
  have hk := (List.getElem?_eq_some_iff.1 h).1
  rw [List.drop_eq_getElem_cons hk, (List.getElem?_eq_some_iff.1 h).2, prevD_at E k d h]
  rfl
theorem checkS_base {B E : List Vc.D} (h : Vc.check B = 0) : Vc.checkS B E = Vc.chkE (Vc.look B) (prevD E 0) (E.drop 0) := by
  unfold Vc.checkS
  rw [if_neg (by simpa using h)]
  rfl
theorem checkS_bad {B E : List Vc.D} (h : ¬ Vc.check B = 0) : Vc.checkS B E = Vc.check B := by
  unfold Vc.checkS
  rw [if_pos (by simpa using h)]

set_option maxRecDepth 100000 in
set_option maxHeartbeats 2000000 in
theorem setCheck_any (r1 r2 : Option Addr) (c1 c2 : Nat) (B E : List Vc.D) (hB : B.length ≤ 100000) (hE : E.length ≤ 100000) (w : World) (s1 : Sl w r1 B) (s2 : Sl w r2 E) :
    Calls Try.prog 11 #[.agg #[.slice r1 B.length c1, .slice r2 E.length c2]] w fun e w' => e = .returned (.int .i64 (Vc.checkS B E)) ∧ Below w.heap.size w w' := by
  have HB0 := hide (below_alloc' (w := w) (.cells #[.slice r1 B.length c1, .slice r2 E.length c2] 29))
  have RS := hide (VRow.new w 29 [.slice r1 B.length c1, .slice r2 E.length c2])
  have S1 := hide (s1.after (unhide HB0))
  have S2 := hide (s2.after (unhide HB0))
  have i0 := (unhide RS).cell 0 _ rfl
  have i1 := (unhide RS).cell 1 _ rfl
  have KC := hide fun W h => check_any r1 c1 B hB W h
  obtain ⟨C, hC⟩ : ∃ C, Vc.checkS B E = C := ⟨_, rfl⟩
  rw [hC]
  by_cases hz : Vc.check B = 0
  · have HC : Hid (C = Vc.chkE (Vc.look B) (prevD E 0) (E.drop 0)) := hide (by rw [← hC]; exact checkS_base hz)
    have hv := (Vc.check_zero B).1 hz
    rw [hz] at KC
    have KN := hide fun n hn W h => counts_any r1 c1 B hv n hn W h
    obtain ⟨n, hn⟩ : ∃ n : Nat, n = 64 := ⟨64, rfl⟩
    have HN := hide hn
    have KN1 := hide (unhide KN n hn)
    have HL : Hid ((cntF (Vc.look B) n).length = 64) := hide (by rw [cntF_len, hn])
    have H1 : Hid (∀ v ∈ cntF (Vc.look B) n, v.oneCell' = true) := hide (cntF_one _ _)
    have HG : Hid (∀ m : Nat, m < 64 → (cntF (Vc.look B) n)[m]? = some (.int .i64 (Vc.look B (m : Int)))) := hide (fun m hm => cntF_get _ n m (by omega))
    have HLB : Hid (∀ q, 0 ≤ Vc.look B q ∧ Vc.look B q ≤ 1048576) := hide (fun q => Vc.look_bd q hv)
    obtain ⟨f, hf⟩ : ∃ f, Vc.look B = f := ⟨_, rfl⟩
    rw [hf] at HC KN1 HL H1 HG HLB
    generalize cntF f n = vs at KN1 HL H1 HG
    clear hC hz hv KN hf hn HN s1 s2
    go_enter Try.func11, Try.ntmps11
    go_wp2_with fail
    generalize w.alloc (.cells #[.slice r1 B.length c1, .slice r2 E.length c2] 29) = w0 at HB0 RS S1 S2 i0 i1 ⊢
    refine (unhide KC _ (unhide S1)).mono ?_
    rintro e w1 ⟨rfl, hb⟩
    replace HB0 := hide (below_grow (unhide HB0) (Nat.le_refl _) hb)
    replace RS := hide ((unhide RS).after hb)
    replace S1 := hide ((unhide S1).after hb)
    replace S2 := hide ((unhide S2).after hb)
    replace i0 := (unhide RS).cell 0 _ rfl
    replace i1 := (unhide RS).cell 1 _ rfl
    clear hb
    go_wp2_with fail
    refine (unhide KN1 _ (unhide S1)).mono ?_
    rintro e w2 ⟨rfl, hb⟩
    replace HB0 := hide (below_grow (unhide HB0) (Nat.le_refl _) hb)
    replace RS := hide ((unhide RS).after hb)
    replace S2 := hide ((unhide S2).after hb)
    clear hb i0 i1 S1
    have hwb : w.heap.size < w2.heap.size := (unhide RS).lt
    have hz64 : VRow (w2.alloc (.cells zero64.toArray 54)) w2.heap.size 54 zero64 := VRow.new w2 54 zero64
    have i1 : (w2.alloc (.cells vs.toArray 54)).cell? ⟨w.heap.size, 1, none⟩ = some (.slice r2 E.length c2) := ((unhide RS).alloc _).cell 1 _ rfl
    go_wp2_with (first
      | (refine store_row (by rfl) 54 _ _ (by rfl) w2.heap.size vs (by rfl) (by rfl) 54 zero64 (VRow.newAt rfl) 64 size54 (unhide HL) rfl (unhide H1) ?_; intro w3 ho3 hr3; have HW3 := hide ((below_alloc' (w := w2) (.cells zero64.toArray 54)).trans (ho3.below (Nat.le_refl _))); have R54 := hide hr3; have RS3 := hide ((unhide RS).after (unhide HW3)); have i13 := (unhide RS3).cell 1 _ rfl; clear ho3 hr3))
    clear i1 hz64
    have HB3 := hide (below_grow (unhide HB0) (Nat.le_refl _) (unhide HW3))
    have S23 := hide ((unhide S2).after (unhide HW3))
    go_loopw [20] (fun i wr => ∃ k : Nat, k ≤ E.length ∧ i = .int .i64 k ∧ C = Vc.chkE f (prevD E k) (E.drop k) ∧ Below w3.heap.size w3 wr) (fun i _ => E.length - (intOf i).toNat)
    case atStart => exact ⟨0, Nat.zero_le _, rfl, unhide HC, Below.refl _ _⟩
    case round =>
      obtain ⟨k, hk, rfl, hc, hb⟩ := hrel
      have HC1 := hide hc
      have HB := hide hb
      have RSr := hide ((unhide RS3).after hb)
      have S2r := hide ((unhide S23).after hb)
      have R54r := hide ((unhide R54).after hb)
      have j0 := (unhide RSr).cell 0 _ rfl
      have j1 := (unhide RSr).cell 1 _ rfl
      clear hc hb HC
      by_cases hlt : k < E.length
      · obtain ⟨⟨p, c⟩, hd⟩ : ∃ d, E[k]? = some d := ⟨_, List.getElem?_eq_getElem hlt⟩
        obtain ⟨g, o, rfl, hg, hcell⟩ := unhide S2r (by omega)
        have d0 : wr.cell? ⟨g, o + k * 2, none⟩ = some (.int .i64 p) := (hcell k _ hd).1
        have d1 : wr.cell? ⟨g, o + k * 2 + 1, none⟩ = some (.int .i64 c) := (hcell k _ hd).2
        have HST := hide (chkE_step f E k (p, c) hd)
        have HCell := hide hcell
        have RD := hide (VRow.new wr 26 [.int .i64 p, .int .i64 c])
        have RSD := hide ((unhide RSr).alloc (.cells #[.int .i64 p, .int .i64 c] 26))
        have HBD := hide ((unhide HB).alloc (unhide HB).size (.cells #[.int .i64 p, .int .i64 c] 26))
        have KD := hide (checkDot_any p c (wr.alloc (.cells #[.int .i64 p, .int .i64 c] 26)))
        clear hd hg hcell
        by_cases he : Vc.dotErr (p, c) = 0
        · have hok := (Vc.dotErr_zero (p, c)).1 he
          obtain ⟨m, rfl⟩ : ∃ m : Nat, p = (m : Int) := ⟨p.toNat, by unfold Vc.Ok at hok; dsimp only at hok; omega⟩
          have hm : m < 64 := by unfold Vc.Ok at hok; dsimp only at hok; omega
          have hc1 : 1 ≤ c := by unfold Vc.Ok at hok; dsimp only at hok; omega
          have hc2 : c ≤ 1048576 := by unfold Vc.Ok at hok; dsimp only at hok; omega
          rw [he] at KD
          rw [if_neg (by simpa using he)] at HST
          obtain ⟨F, hF⟩ : ∃ F, f (m : Int) = F := ⟨_, rfl⟩
          have hF0 : 0 ≤ F := by rw [← hF]; exact (unhide HLB _).1
          have hF1 : F ≤ 1048576 := by rw [← hF]; exact (unhide HLB _).2
          have HF := hide hF
          dsimp only at HST
          rw [hF] at HST
          clear hok he hF
          go_wp2_with fail
          refine (unhide KD).mono ?_
          rintro e w4 ⟨rfl, hb4⟩
          have HB4 := hide ((unhide HBD).trans (hb4.mono (unhide HBD).size))
          have RD4 := hide ((unhide RD).after hb4)
          have RS4 := hide ((unhide RSD).after hb4)
          have HBr4 := hide (((Below.refl wr.heap.size wr).alloc (Nat.le_refl _) (.cells #[.int .i64 m, .int .i64 c] 26)).trans (hb4.mono (by simp)))
          clear hb4 RD RSD HBD KD
          have n0 := (unhide RD4).cell 0 _ rfl
          have n1 := (unhide RD4).cell 1 _ rfl
          have t1 := (unhide RS4).cell 1 _ rfl
          go_wp2_with fail
          by_cases hk0 : 0 < k
          · obtain ⟨q, hq⟩ : ∃ q, k = q + 1 := ⟨k - 1, by omega⟩
            obtain ⟨⟨p', c'⟩, hd'⟩ : ∃ d, E[q]? = some d := ⟨_, List.getElem?_eq_getElem (by omega)⟩
            have e' : prevD E k = (p', c') := by rw [hq]; exact prevD_at E q _ hd'
            have y0 : wr.cell? ⟨g, o + q * 2, none⟩ = some (.int .i64 p') := ((unhide HCell) q _ hd').1
            have y1 : wr.cell? ⟨g, o + q * 2 + 1, none⟩ = some (.int .i64 c') := ((unhide HCell) q _ hd').2
            have hmi : (k : Int) - 1 = (q : Int) := by omega
            have hmw : IntKind.i64.wrap ((k : Int) - 1) = (q : Int) := by rw [hmi]; exact wrap_small (by omega) (by omega)
            have hgi : decide (0 < (k : Int)) = true := decide_eq_true (by omega)
            have hqi : q < E.length := by omega
            have hwq : IntKind.i64.wrap (q : Int) = (q : Int) := wrap_small (by omega) (by omega)
            have z0 : w4.cell? ⟨g, o + q * 2, none⟩ = some (.int .i64 p') := ((unhide HBr4).cell (block_lt_of_cell y0)).trans y0
            have z1 : w4.cell? ⟨g, o + q * 2 + 1, none⟩ = some (.int .i64 c') := ((unhide HBr4).cell (block_lt_of_cell y1)).trans y1
            have q0 := cell_regrown z0
            have q1 := cell_regrown z1
            have q2 := cell_regrown n0
            have q3 := cell_regrown n1
            have q4 := cell_regrown t1
            have HC2 : Hid (C = Vc.chkE f (prevD E k) (E.drop k)) := HC1
            rw [e'] at HST
            have HQ := hide hq
            clear hq
            have KP := hide (cmpD_any p' c' (m : Int) c)
            have HLT := hide (cmpD_lt (p', c') ((m : Int), c))
            generalize cmpD (p', c') ((m : Int), c) = R at KP HLT
            by_cases hR : 0 ≤ R
            · have hRb : decide (0 ≤ R) = true := decide_eq_true hR
              have HNX : Hid (C = 8) := by
                have h := unhide HST
                rw [if_pos (fun h => absurd ((unhide HLT).2 h) (by omega))] at h
                exact hide (by rw [unhide HC1, e', h])
              clear HLT hR
              refine wp_region_quiet_below (by kernel_rfl) (by kernel_rfl) ?_
              repeat (quiet_step (first | (go_at_call 30; exact Calls.regrown_of (unhide KP _))))
              refine wpQuiet_nil ?_
              intro _ hw'
              obtain ⟨⟨dq, osq⟩, hw''⟩ := hw'
              subst hw''
              go_wp2_with fail
              go_ret
              exact ⟨ret_int (unhide HNX).symm, (below_grow (unhide HB3) (Nat.le_refl _) (unhide HB4)).trans ((below_regrown _ _ _).mono (below_grow (unhide HB3) (Nat.le_refl _) (unhide HB4)).size)⟩
            · have hRb : decide (0 ≤ R) = false := decide_eq_false hR
              rw [if_neg (fun h => h ((unhide HLT).1 (by omega))), ← e'] at HST
              clear HLT hR e'
              refine wp_region_quiet_below (by kernel_rfl) (by kernel_rfl) ?_
              repeat (quiet_step (first | (go_at_call 30; exact Calls.regrown_of (unhide KP _))))
              refine wpQuiet_nil ?_
              intro _ hw'
              obtain ⟨⟨dq, osq⟩, hw''⟩ := hw'
              subst hw''
              have HB5 := hide ((unhide HB4).trans ((below_regrown w4 dq osq).mono (unhide HB4).size))
              replace n0 := cell_regrown n0 dq osq
              replace n1 := cell_regrown n1 dq osq
              clear q0 q1 q2 q3 q4
              generalize Go.Sort.grow (redrawn w4 dq) osq = w5 at HB5 n0 n1 ⊢
              have v0 := ((unhide R54).after (unhide HB5)).cell m _ (unhide HG m hm)
              rw [unhide HF] at v0
              by_cases hle : c ≤ F + 1
              · have HNX : Hid (C = 7) := by
                  have h := unhide HST
                  rw [if_pos hle] at h
                  exact hide (by rw [unhide HC1, h])
                go_wp2_with fail
                go_quiet (fail)
                go_wp2_with fail
                go_ret
                exact ⟨ret_int (unhide HNX).symm, below_drewN (below_grow (unhide HB3) (Nat.le_refl _) (unhide HB5)) _⟩
              · have HNX : Hid (C = Vc.chkE f (prevD E (k + 1)) (E.drop (k + 1))) := by
                  have h := unhide HST
                  rw [if_neg hle] at h
                  exact hide (by rw [unhide HC1, h])
                go_wp2_with fail
                go_quiet (fail)
                go_wp2_with fail
                go_roundw
                case rel => exact ⟨k + 1, by omega, by go_num, unhide HNX, below_drewN (unhide HB5) _⟩
                case measure => simp [intOf]; omega
          · have hgi : decide (0 < (k : Int)) = false := decide_eq_false (by omega)
            have e' : prevD E k = Vc.d0 := by rw [show k = 0 by omega]; rfl
            rw [if_neg (fun h => h (by rw [e']; left; show (-1 : Int) < (m : Int); omega))] at HST
            go_quiet (fail)
            have HB5 := hide (below_drewN (unhide HB4) nq)
            replace n0 : (w4.drewN nq).cell? ⟨wr.heap.size, 0, none⟩ = some (.int .i64 m) := n0
            replace n1 : (w4.drewN nq).cell? ⟨wr.heap.size, 1, none⟩ = some (.int .i64 c) := n1
            clear t1
            generalize w4.drewN nq = w5 at HB5 n0 n1 ⊢
            have v0 := ((unhide R54).after (unhide HB5)).cell m _ (unhide HG m hm)
            rw [unhide HF] at v0
            by_cases hle : c ≤ F + 1
            · have HNX : Hid (C = 7) := by
                have h := unhide HST
                rw [if_pos hle] at h
                exact hide (by rw [unhide HC1, h])
              go_wp2_with fail
              go_quiet (fail)
              go_wp2_with fail
              go_ret
              exact ⟨ret_int (unhide HNX).symm, below_drewN (below_grow (unhide HB3) (Nat.le_refl _) (unhide HB5)) _⟩
            · have HNX : Hid (C = Vc.chkE f (prevD E (k + 1)) (E.drop (k + 1))) := by
                have h := unhide HST
                rw [if_neg hle] at h
                exact hide (by rw [unhide HC1, h])
              go_wp2_with fail
              go_quiet (fail)
              go_wp2_with fail
              go_roundw
              case rel => exact ⟨k + 1, by omega, by go_num, unhide HNX, below_drewN (unhide HB5) _⟩
              case measure => simp [intOf]; omega
        · have HNX : Hid (C = Vc.dotErr (p, c)) := by
            have h := unhide HST
            rw [if_pos (by simpa using he)] at h
            exact hide (by rw [unhide HC1, h])
          have heb : (Vc.dotErr (p, c) != 0) = true := bne_iff_ne.2 he
          generalize Vc.dotErr (p, c) = X at *
          clear he
          go_wp2_with fail
          refine (unhide KD).mono ?_
          rintro e w4 ⟨rfl, hb4⟩
          have HB4 := hide ((unhide HBD).trans (hb4.mono (unhide HBD).size))
          clear hb4
          go_wp2_with fail
          go_ret
          exact ⟨ret_int (unhide HNX).symm, below_grow (unhide HB3) (Nat.le_refl _) (unhide HB4)⟩
      · obtain rfl : k = E.length := by omega
        have HNX : Hid (C = 0) := by rw [unhide HC1]; exact chkE_end f E _
        go_wp2_with fail
        go_ret
        exact ⟨ret_int (unhide HNX).symm, below_grow (unhide HB3) (Nat.le_refl _) (unhide HB)⟩
  · have HC : Hid (C = Vc.check B) := hide (by rw [← hC]; exact checkS_bad hz)
    have hzb : (Vc.check B != 0) = true := bne_iff_ne.2 hz
    generalize Vc.check B = X at *
    clear hC hz s1 s2
    go_enter Try.func11, Try.ntmps11
    go_wp2_with fail
    refine (unhide KC _ (unhide S1)).mono ?_
    rintro e w1 ⟨rfl, hb⟩
    replace HB0 := hide (below_grow (unhide HB0) (Nat.le_refl _) hb)
    clear hb
    go_wp2_with fail
    go_ret
    exact ⟨ret_int (unhide HC).symm, unhide HB0⟩

set_option maxRecDepth 100000 in
set_option maxHeartbeats 2000000 in
theorem refSetCheck_any (r1 r2 : Option Addr) (c1 c2 : Nat) (B E : List Vc.D) (hB : B.length ≤ 100000) (hE : E.length ≤ 100000) (w : World) (s1 : Sl w r1 B) (s2 : Sl w r2 E) :
    Calls Try.prog 12 #[.agg #[.slice r1 B.length c1, .slice r2 E.length c2]] w fun e w' => e = .returned (.int .i64 (Vc.checkS B E)) ∧ Below w.heap.size w w' := by
  have HB0 := hide (below_alloc' (w := w) (.cells #[.slice r1 B.length c1, .slice r2 E.length c2] 24))
  have RS := hide (VRow.new w 24 [.slice r1 B.length c1, .slice r2 E.length c2])
  have S1 := hide (s1.after (unhide HB0))
  have S2 := hide (s2.after (unhide HB0))
  have i0 := (unhide RS).cell 0 _ rfl
  have i1 := (unhide RS).cell 1 _ rfl
  have KC := hide fun W h => refCheck_any r1 c1 B hB W h
  obtain ⟨C, hC⟩ : ∃ C, Vc.checkS B E = C := ⟨_, rfl⟩
  rw [hC]
  by_cases hz : Vc.check B = 0
  · have HC : Hid (C = Vc.chkE (Vc.look B) (prevD E 0) (E.drop 0)) := hide (by rw [← hC]; exact checkS_base hz)
    have hv := (Vc.check_zero B).1 hz
    rw [hz] at KC
    have KG := hide fun q W h => refGet_any r1 c1 B hB q W h
    have HGT : Hid (∀ q, Vc.get B q = Vc.look B q) := hide (fun q => Vc.get_vec hv q)
    have HLB : Hid (∀ q, 0 ≤ Vc.look B q ∧ Vc.look B q ≤ 1048576) := hide (fun q => Vc.look_bd q hv)
    obtain ⟨f, hf⟩ : ∃ f, Vc.look B = f := ⟨_, rfl⟩
    rw [hf] at HC HLB HGT
    clear hC hz hv hf s1 s2
    go_enter Try.func12, Try.ntmps12
    go_wp2_with fail
    generalize w.alloc (.cells #[.slice r1 B.length c1, .slice r2 E.length c2] 24) = w0 at HB0 RS S1 S2 i0 i1 ⊢
    refine (unhide KC _ (unhide S1)).mono ?_
    rintro e w3 ⟨rfl, hb⟩
    have HB3 := hide (below_grow (unhide HB0) (Nat.le_refl _) hb)
    have RS3 := hide ((unhide RS).after hb)
    have S13 := hide ((unhide S1).after hb)
    have S23 := hide ((unhide S2).after hb)
    clear hb i0 i1 S1 S2 RS HB0
    go_wp2_with fail
    go_loopw [3, 4] (fun x i wr => ∃ (k : Nat) (y : Int), k ≤ E.length ∧ x = .int .i64 y ∧ i = .int .i64 k ∧ C = Vc.chkE f (prevD E k) (E.drop k) ∧ Below w3.heap.size w3 wr) (fun _ i _ => E.length - (intOf i).toNat)
    case atStart => exact ⟨0, 0, Nat.zero_le _, rfl, rfl, unhide HC, Below.refl _ _⟩
    case round =>
      obtain ⟨k, y, hk, rfl, rfl, hc, hb⟩ := hrel
      have HC1 := hide hc
      have HB := hide hb
      have RSr := hide ((unhide RS3).after hb)
      have S2r := hide ((unhide S23).after hb)
      have S1r := hide ((unhide S13).after hb)
      have j0 := (unhide RSr).cell 0 _ rfl
      have j1 := (unhide RSr).cell 1 _ rfl
      clear hc hb HC
      by_cases hlt : k < E.length
      · obtain ⟨⟨p, c⟩, hd⟩ : ∃ d, E[k]? = some d := ⟨_, List.getElem?_eq_getElem hlt⟩
        obtain ⟨g, o, rfl, hg, hcell⟩ := unhide S2r (by omega)
        have d0 : wr.cell? ⟨g, o + k * 2, none⟩ = some (.int .i64 p) := (hcell k _ hd).1
        have d1 : wr.cell? ⟨g, o + k * 2 + 1, none⟩ = some (.int .i64 c) := (hcell k _ hd).2
        have HST := hide (chkE_step f E k (p, c) hd)
        have HCell := hide hcell
        have RD := hide (VRow.new wr 26 [.int .i64 p, .int .i64 c])
        have RSD := hide ((unhide RSr).alloc (.cells #[.int .i64 p, .int .i64 c] 26))
        have HBD := hide ((unhide HB).alloc (unhide HB).size (.cells #[.int .i64 p, .int .i64 c] 26))
        have KD := hide (refDot_any p c (wr.alloc (.cells #[.int .i64 p, .int .i64 c] 26)))
        clear hd hg hcell
        by_cases he : Vc.dotErr (p, c) = 0
        · have hok := (Vc.dotErr_zero (p, c)).1 he
          obtain ⟨m, rfl⟩ : ∃ m : Nat, p = (m : Int) := ⟨p.toNat, by unfold Vc.Ok at hok; dsimp only at hok; omega⟩
          have hm : m < 64 := by unfold Vc.Ok at hok; dsimp only at hok; omega
          have hc1 : 1 ≤ c := by unfold Vc.Ok at hok; dsimp only at hok; omega
          have hc2 : c ≤ 1048576 := by unfold Vc.Ok at hok; dsimp only at hok; omega
          rw [he] at KD
          rw [if_neg (by simpa using he)] at HST
          obtain ⟨F, hF⟩ : ∃ F, f (m : Int) = F := ⟨_, rfl⟩
          have hF0 : 0 ≤ F := by rw [← hF]; exact (unhide HLB _).1
          have hF1 : F ≤ 1048576 := by rw [← hF]; exact (unhide HLB _).2
          have HF := hide hF
          dsimp only at HST
          rw [hF] at HST
          clear hok he hF
          go_wp2_with fail
          refine (unhide KD).mono ?_
          rintro e w4 ⟨rfl, hb4⟩
          have HB4 := hide ((unhide HBD).trans (hb4.mono (unhide HBD).size))
          have RD4 := hide ((unhide RD).after hb4)
          have RS4 := hide ((unhide RSD).after hb4)
          have HBr4 := hide (((Below.refl wr.heap.size wr).alloc (Nat.le_refl _) (.cells #[.int .i64 m, .int .i64 c] 26)).trans (hb4.mono (by simp)))
          clear hb4 RD RSD HBD KD
          have n0 := (unhide RD4).cell 0 _ rfl
          have n1 := (unhide RD4).cell 1 _ rfl
          have t1 := (unhide RS4).cell 1 _ rfl
          go_wp2_with fail
          by_cases hk0 : 0 < k
          · obtain ⟨q, hq⟩ : ∃ q, k = q + 1 := ⟨k - 1, by omega⟩
            obtain ⟨⟨p', c'⟩, hd'⟩ : ∃ d, E[q]? = some d := ⟨_, List.getElem?_eq_getElem (by omega)⟩
            have e' : prevD E k = (p', c') := by rw [hq]; exact prevD_at E q _ hd'
            have y0 : wr.cell? ⟨g, o + q * 2, none⟩ = some (.int .i64 p') := ((unhide HCell) q _ hd').1
            have y1 : wr.cell? ⟨g, o + q * 2 + 1, none⟩ = some (.int .i64 c') := ((unhide HCell) q _ hd').2
            have hmi : (k : Int) - 1 = (q : Int) := by omega
            have hmw : IntKind.i64.wrap ((k : Int) - 1) = (q : Int) := by rw [hmi]; exact wrap_small (by omega) (by omega)
            have hgi : decide (0 < (k : Int)) = true := decide_eq_true (by omega)
            have hqi : q < E.length := by omega
            have hwq : IntKind.i64.wrap (q : Int) = (q : Int) := wrap_small (by omega) (by omega)
            have z0 : w4.cell? ⟨g, o + q * 2, none⟩ = some (.int .i64 p') := ((unhide HBr4).cell (block_lt_of_cell y0)).trans y0
            have z1 : w4.cell? ⟨g, o + q * 2 + 1, none⟩ = some (.int .i64 c') := ((unhide HBr4).cell (block_lt_of_cell y1)).trans y1
            have q0 := cell_regrown z0
            have q1 := cell_regrown z1
            have q2 := cell_regrown n0
            have q3 := cell_regrown n1
            have q4 := cell_regrown t1
            have HC2 : Hid (C = Vc.chkE f (prevD E k) (E.drop k)) := HC1
            rw [e'] at HST
            have HQ := hide hq
            clear hq
            have KP := hide (ahead_any p' c' (m : Int) c)
            by_cases hR : Vc.Ah (p', c') ((m : Int), c)
            · rw [decide_eq_true hR] at KP
              rw [if_neg (fun h => h hR), ← e'] at HST
              clear hR e'
              refine wp_region_quiet_below (by kernel_rfl) (by kernel_rfl) ?_
              repeat (quiet_step (first | (go_at_call 33; exact Calls.regrown_of (unhide KP _))))
              refine wpQuiet_nil ?_
              intro _ hw'
              obtain ⟨⟨dq, osq⟩, hw''⟩ := hw'
              subst hw''
              have HB5 := hide ((unhide HB4).trans ((below_regrown w4 dq osq).mono (unhide HB4).size))
              replace n0 := cell_regrown n0 dq osq
              replace n1 := cell_regrown n1 dq osq
              clear q0 q1 q2 q3 q4
              generalize Go.Sort.grow (redrawn w4 dq) osq = w5 at HB5 n0 n1 ⊢
              have S15 := hide ((unhide S13).after (unhide HB5))
              have KG1 := hide (unhide KG (m : Int))
              rw [unhide HGT, unhide HF] at KG1
              have RS5 := hide ((unhide RS3).after (unhide HB5))
              have q0 := cell_regrown n0
              have q1 := cell_regrown n1
              have q2 := cell_regrown ((unhide RS5).cell 0 _ rfl)
              by_cases hle : c ≤ F + 1
              · have HNX : Hid (C = 7) := by
                  have h := unhide HST
                  rw [if_pos hle] at h
                  exact hide (by rw [unhide HC1, h])
                have hw1 : IntKind.i64.wrap (c - 1) = c - 1 := wrap_small (by omega) (by omega)
                have hd1 : decide (c - 1 ≤ F) = true := decide_eq_true (by omega)
                go_wp2_with fail
                refine wp_region_quiet_below (by kernel_rfl) (by kernel_rfl) ?_
                repeat (quiet_step (first | (go_at_call 34; exact Calls.regrown_of (unhide KG1 _ ((unhide S15).after (below_regrown _ _ _))))))
                refine wpQuiet_nil ?_
                intro _ hw'
                obtain ⟨⟨dq, osq⟩, hw''⟩ := hw'
                subst hw''
                go_wp2_with fail
                go_ret
                exact ⟨ret_int (unhide HNX).symm, (below_grow (unhide HB3) (Nat.le_refl _) (unhide HB5)).trans ((below_regrown _ _ _).mono (below_grow (unhide HB3) (Nat.le_refl _) (unhide HB5)).size)⟩
              · have HNX : Hid (C = Vc.chkE f (prevD E (k + 1)) (E.drop (k + 1))) := by
                  have h := unhide HST
                  rw [if_neg hle] at h
                  exact hide (by rw [unhide HC1, h])
                have hw1 : IntKind.i64.wrap (c - 1) = c - 1 := wrap_small (by omega) (by omega)
                have hd1 : decide (c - 1 ≤ F) = false := decide_eq_false (by omega)
                go_wp2_with fail
                refine wp_region_quiet_below (by kernel_rfl) (by kernel_rfl) ?_
                repeat (quiet_step (first | (go_at_call 34; exact Calls.regrown_of (unhide KG1 _ ((unhide S15).after (below_regrown _ _ _))))))
                refine wpQuiet_nil ?_
                intro _ hw'
                obtain ⟨⟨dq, osq⟩, hw''⟩ := hw'
                subst hw''
                go_wp2_with fail
                go_roundw
                case rel => exact ⟨k + 1, 0, by omega, by go_num, by go_num, unhide HNX, (unhide HB5).trans ((below_regrown _ _ _).mono (unhide HB5).size)⟩
                case measure => simp [intOf]; omega
            · rw [decide_eq_false hR] at KP
              have HNX : Hid (C = 8) := by
                have h := unhide HST
                rw [if_pos hR] at h
                exact hide (by rw [unhide HC1, e', h])
              clear hR
              refine wp_region_quiet_below (by kernel_rfl) (by kernel_rfl) ?_
              repeat (quiet_step (first | (go_at_call 33; exact Calls.regrown_of (unhide KP _))))
              refine wpQuiet_nil ?_
              intro _ hw'
              obtain ⟨⟨dq, osq⟩, hw''⟩ := hw'
              subst hw''
              go_wp2_with fail
              go_ret
              exact ⟨ret_int (unhide HNX).symm, (below_grow (unhide HB3) (Nat.le_refl _) (unhide HB4)).trans ((below_regrown _ _ _).mono (below_grow (unhide HB3) (Nat.le_refl _) (unhide HB4)).size)⟩
          · have hgi : decide (0 < (k : Int)) = false := decide_eq_false (by omega)
            have e' : prevD E k = Vc.d0 := by rw [show k = 0 by omega]; rfl
            rw [if_neg (fun h => h (by rw [e']; left; show (-1 : Int) < (m : Int); omega))] at HST
            go_quiet (fail)
            have HB5 := hide (below_drewN (unhide HB4) nq)
            replace n0 : (w4.drewN nq).cell? ⟨wr.heap.size, 0, none⟩ = some (.int .i64 m) := n0
            replace n1 : (w4.drewN nq).cell? ⟨wr.heap.size, 1, none⟩ = some (.int .i64 c) := n1
            clear t1
            generalize w4.drewN nq = w5 at HB5 n0 n1 ⊢
            have S15 := hide ((unhide S13).after (unhide HB5))
            have KG1 := hide (unhide KG (m : Int))
            rw [unhide HGT, unhide HF] at KG1
            have RS5 := hide ((unhide RS3).after (unhide HB5))
            have q0 := cell_regrown n0
            have q1 := cell_regrown n1
            have q2 := cell_regrown ((unhide RS5).cell 0 _ rfl)
            by_cases hle : c ≤ F + 1
            · have HNX : Hid (C = 7) := by
                have h := unhide HST
                rw [if_pos hle] at h
                exact hide (by rw [unhide HC1, h])
              have hw1 : IntKind.i64.wrap (c - 1) = c - 1 := wrap_small (by omega) (by omega)
              have hd1 : decide (c - 1 ≤ F) = true := decide_eq_true (by omega)
              go_wp2_with fail
              refine wp_region_quiet_below (by kernel_rfl) (by kernel_rfl) ?_
              repeat (quiet_step (first | (go_at_call 34; exact Calls.regrown_of (unhide KG1 _ ((unhide S15).after (below_regrown _ _ _))))))
              refine wpQuiet_nil ?_
              intro _ hw'
              obtain ⟨⟨dq, osq⟩, hw''⟩ := hw'
              subst hw''
              go_wp2_with fail
              go_ret
              exact ⟨ret_int (unhide HNX).symm, (below_grow (unhide HB3) (Nat.le_refl _) (unhide HB5)).trans ((below_regrown _ _ _).mono (below_grow (unhide HB3) (Nat.le_refl _) (unhide HB5)).size)⟩
            · have HNX : Hid (C = Vc.chkE f (prevD E (k + 1)) (E.drop (k + 1))) := by
                have h := unhide HST
                rw [if_neg hle] at h
                exact hide (by rw [unhide HC1, h])
              have hw1 : IntKind.i64.wrap (c - 1) = c - 1 := wrap_small (by omega) (by omega)
              have hd1 : decide (c - 1 ≤ F) = false := decide_eq_false (by omega)
              go_wp2_with fail
              refine wp_region_quiet_below (by kernel_rfl) (by kernel_rfl) ?_
              repeat (quiet_step (first | (go_at_call 34; exact Calls.regrown_of (unhide KG1 _ ((unhide S15).after (below_regrown _ _ _))))))
              refine wpQuiet_nil ?_
              intro _ hw'
              obtain ⟨⟨dq, osq⟩, hw''⟩ := hw'
              subst hw''
              go_wp2_with fail
              go_roundw
              case rel => exact ⟨k + 1, 0, by omega, by go_num, by go_num, unhide HNX, (unhide HB5).trans ((below_regrown _ _ _).mono (unhide HB5).size)⟩
              case measure => simp [intOf]; omega
        · have HNX : Hid (C = Vc.dotErr (p, c)) := by
            have h := unhide HST
            rw [if_pos (by simpa using he)] at h
            exact hide (by rw [unhide HC1, h])
          have heb : (Vc.dotErr (p, c) != 0) = true := bne_iff_ne.2 he
          generalize Vc.dotErr (p, c) = X at *
          clear he
          go_wp2_with fail
          refine (unhide KD).mono ?_
          rintro e w4 ⟨rfl, hb4⟩
          have HB4 := hide ((unhide HBD).trans (hb4.mono (unhide HBD).size))
          clear hb4
          go_wp2_with fail
          go_ret
          exact ⟨ret_int (unhide HNX).symm, below_grow (unhide HB3) (Nat.le_refl _) (unhide HB4)⟩
      · obtain rfl : k = E.length := by omega
        have HNX : Hid (C = 0) := by rw [unhide HC1]; exact chkE_end f E _
        go_wp2_with fail
        go_ret
        exact ⟨ret_int (unhide HNX).symm, below_grow (unhide HB3) (Nat.le_refl _) (unhide HB)⟩
  · have HC : Hid (C = Vc.check B) := hide (by rw [← hC]; exact checkS_bad hz)
    have hzb : (Vc.check B != 0) = true := bne_iff_ne.2 hz
    generalize Vc.check B = X at *
    clear hC hz s1 s2
    go_enter Try.func12, Try.ntmps12
    go_wp2_with fail
    refine (unhide KC _ (unhide S1)).mono ?_
    rintro e w1 ⟨rfl, hb⟩
    replace HB0 := hide (below_grow (unhide HB0) (Nat.le_refl _) hb)
    clear hb
    go_wp2_with fail
    go_ret
    exact ⟨ret_int (unhide HC).symm, unhide HB0⟩
end Go.Proofs.Ytpcfblpenealbaa
