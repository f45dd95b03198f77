/-
  What three peers have of a path, behind some steps.
-/
import Derived.Test.YtbghekolfcakeaaWorld1
namespace Go.Proofs.Ytbghekolfcakeaa
open Go.RowKit

set_option maxRecDepth 100000 in
set_option maxHeartbeats 2000000 in
theorem world_any (P : Prg) (a : Option Addr) (cap : Nat) (ss : List St) (hl : ss.length ≤ 9223372036854775807) (w : World) (h : SS w a ss) :
    Calls Try.prog 35 #[.slice a ss.length cap] w (WorldMade w) := by
  have HS := hide h
  have PR := hide P
  clear h P
  go_enter Try.func35, Try.ntmps35
  go_wp2_with (first
    | (refine store_row (by rfl) 47 _ _ (by rfl) (w.heap.size + 1) zeros3 (by rfl) (by rfl) 47 zeros3 (VRow.newAt (by simp)) 3 size47 rfl rfl (by simp [zeros3, Value.oneCell']) ?_; intro w1 ho hr; have R2 := hide (((VRow.new w 47 zeros3).alloc (.cells zeros3.toArray 47)).only ho (by omega)); have R4 := hide hr; have HB := hide (((below_alloc' (w := w) (.cells zeros3.toArray 47)).alloc (by simp) (.cells zeros3.toArray 47)).trans (ho.below (by omega))); have hs1 : w1.heap.size = w.heap.size + 2 := (by rw [ho.size]; simp); clear ho hr))
  have HW : Hid (WS w.heap.size (w.heap.size + 3) 0 (.slice none 0 0) (fun _ => 0) (fun _ => []) [] (fun _ => none) (fun _ => 0) (w1.alloc (.cells #[.int .i64 0, .int .i64 0, .int .i64 0] 72))) := hide
    ⟨⟨(unhide R2).alloc _, (unhide R4).alloc _, VRow.newAt (by omega), ⟨fun _ _ => Nat.le_refl _, fun _ _ => SV.none _ _, fun _ _ => Prov.none _ _ _⟩, OV.nil _ _ _, Nat.le_refl _, by simp; omega⟩, Vc.Net.start, Nat.le_refl _, fun _ => Int.le_refl _⟩
  replace HB := hide ((unhide HB).alloc (unhide HB).size (.cells #[.int .i64 0, .int .i64 0, .int .i64 0] 72))
  generalize w1.alloc (.cells #[.int .i64 0, .int .i64 0, .int .i64 0] 72) = w2 at HW HB ⊢
  clear R2 R4 hs1
  obtain ⟨base, hbase⟩ : ∃ b, w.heap.size + 3 = b := ⟨_, rfl⟩
  rw [hbase] at HW
  clear hbase
  go_loopw [6, 7] (fun l i wr => ∃ (k : Nat) (n : Int → Int) (L : Nat → List Vc.V) (all : List Vc.V) (R : Nat → Option Addr) (C : Nat → Nat), k ≤ ss.length ∧ k ≤ 40 ∧ i = .int .i64 k ∧ WS w.heap.size base k l n L all R C wr ∧ Below w.heap.size w wr) (fun _ i _ => 40 - (intOf i).toNat)
  case atStart => exact ⟨0, _, _, _, _, _, Nat.zero_le _, Nat.zero_le _, rfl, unhide HW, unhide HB⟩
  case round =>
    clear HW HB
    obtain ⟨k, n, L, all, R, C, hk, hk40, rfl, hws, hb⟩ := hrel
    have HW := hide hws
    have HB := hide hb
    have SSr := hide ((unhide HS).after hb)
    clear hws hb
    by_cases hgo : k < ss.length ∧ k < 40
    · obtain ⟨hlt, h40⟩ := hgo
      obtain ⟨⟨kind, at', to, num⟩, hx⟩ : ∃ d, ss[k]? = some d := ⟨_, List.getElem?_eq_getElem hlt⟩
      obtain ⟨g, o, rfl, hg, hcell⟩ := unhide SSr (by omega)
      obtain ⟨x0, x1, x2, x3⟩ := hcell k _ hx
      dsimp only at x0 x1 x2 x3
      have hd40 : decide ((k : Int) < 40) = true := decide_eq_true (by omega)
      clear hx hcell
      go_wp2_with fail
      go_quiet (fail)
      obtain ⟨p, hp3, hp⟩ := mod3 at'
      obtain ⟨q, hq3, hq⟩ := mod3 to
      rw [hp, hq]
      have HWd := hide (show WS w.heap.size base k u6 n L all R C (wr.drewN nq) from (unhide HW).after (below_drewN (Below.refl _ _) nq))
      have HBd := hide (show Below w.heap.size w (wr.drewN nq) from below_drewN (unhide HB) nq)
      have y0 : (wr.drewN nq).cell? ⟨g, o + k * 4, none⟩ = some (.int .i64 kind) := x0
      have y3 : (wr.drewN nq).cell? ⟨g, o + k * 4 + 3, none⟩ = some (.int .i64 num) := x3
      clear x0 x1 x2 x3 HW HB SSr
      generalize wr.drewN nq = wd at HWd HBd y0 y3 ⊢
      have m0 : wd.cell? ⟨w.heap.size + 2, p, none⟩ = some (.int .i64 (n (p : Int))) := (unhide HWd).mem.num.cell p _ (rows3_get hp3)
      have hn0 : 0 ≤ n (p : Int) := (unhide HWd).net.nonneg hp3
      have hn1 : n (p : Int) ≤ (k : Int) := (unhide HWd).cnt _
      generalize hnp : n (p : Int) = N at *
      have hpi : (p : Int) < 3 := by omega
      have hqi : (q : Int) < 3 := by omega
      have hw1 : IntKind.i64.wrap (N + 1) = N + 1 := wrap_small (by omega) (by omega)
      clear hp hq
      by_cases hk0 : kind = 0
      · subst hk0
        go_wp2_with (refine store_row (by rfl) 24 _ _ (by rfl) wd.heap.size [.int .i64 (p : Int), .int .i64 (N + 1)] (by rfl) (by rfl) 24 [.int .i64 0, .int .i64 0] (VRow.newAt rfl) 2 size24 rfl rfl (by simp [Value.oneCell']) ?_; intro we ho hr; have hbe := (below_alloc' (w := wd) (.cells #[.int .i64 0, .int .i64 0] 24)).trans (ho.below (Nat.le_refl _)); have HWe := hide ((unhide HWd).after hbe); have HBe := hide (below_grow (unhide HBd) (Nat.le_refl _) hbe); have RD := hide hr; have z0 := (hbe.cell (p := ⟨g, o + k * 4, none⟩) (block_lt_of_cell y0)).trans y0; have z3 := (hbe.cell (p := ⟨g, o + k * 4 + 3, none⟩) (block_lt_of_cell y3)).trans y3; clear ho hr hbe y0 y3 m0)
        generalize wd.heap.size = DD at RD ⊢
        have c0 : we.cell? ⟨w.heap.size + 1, p, none⟩ = some (.slice (R p) (L p).length (C p)) := (unhide HWe).mem.leaf.cell p _ (rows3_get hp3)
        have s0 := (unhide HWe).mem.lv.sv p hp3
        have v0 := (unhide HWe).mem.lv.prov p hp3
        have p0 := (unhide HWe).mem.lv.cap p hp3
        have f0 := few_leaf ((unhide HWe).net.leaf hp3)
        obtain ⟨data, hdl, hsl⟩ := str_from num
        have hnet := (unhide HWe).net.writes hp3 (by rw [hnp]; omega) data hdl
        rw [hnp] at hnet
        generalize hrp : R p = rp at c0 s0 v0
        generalize hcp : C p = cp at c0 p0
        generalize hlp : L p = lp at c0 s0 v0 p0 f0
        rw [hlp] at hnet
        have HLP := hide hlp
        have FEW := hide f0
        have SP := hide s0
        have VP := hide v0
        have hlen : lp.length ≤ 100000 := f0.1
        clear hrp hcp hlp f0
        obtain ⟨v, hv⟩ : ∃ v, (⟨((p : Int), N + 1), Vc.coverL lp, false, data⟩ : Vc.V) = v := ⟨_, rfl⟩
        rw [hv] at hnet
        have HOKV := hide hnet.2
        have HDOT : Hid (v.dot = ((p : Int), n (p : Int) + 1)) := hide (by rw [← hv, hnp])
        have HPAST : Hid (v.past = Vc.coverL (L p)) := hide (by rw [← hv, unhide HLP])
        have KW := hide fun W (hb : Below we.heap.size we W) => (unhide PR).write (fun g => base ≤ g ∧ some g ≠ u6.ownBlock) rp cp lp (unhide FEW) p0 (p : Int) (N + 1) data W ((unhide HWe).mem.fresh hb) ((unhide SP).after hb) ((unhide VP).after (unhide SP) hb)
        rw [hnet.1] at KW
        clear hnet hv
        have SB : Hid (∀ w', Below we.heap.size we w' → w'.cell? ⟨w.heap.size + 1, p, none⟩ = some (.slice rp lp.length cp) ∧ w'.cell? ⟨DD, 0, none⟩ = some (.int .i64 (p : Int)) ∧ w'.cell? ⟨DD, 1, none⟩ = some (.int .i64 (N + 1)) ∧ w'.cell? ⟨g, o + k * 4 + 3, none⟩ = some (.int .i64 num) ∧ Below we.heap.size we w') := hide (fun w' hb => ⟨(hb.cell (block_lt_of_cell c0)).trans c0, ((unhide RD).after hb).cell 0 _ rfl, ((unhide RD).after hb).cell 1 _ rfl, (hb.cell (block_lt_of_cell z3)).trans z3, hb⟩)
        clear c0 z0 z3 s0 v0
        go_wp2_with fail
        go_region_held3 (fun w' => w'.cell? ⟨w.heap.size + 1, p, none⟩ = some (.slice rp lp.length cp) ∧ w'.cell? ⟨DD, 0, none⟩ = some (.int .i64 (p : Int)) ∧ w'.cell? ⟨DD, 1, none⟩ = some (.int .i64 (N + 1)) ∧ w'.cell? ⟨g, o + k * 4 + 3, none⟩ = some (.int .i64 num) ∧ Below we.heap.size we w')
          (first
            | exact unhide SB _ (below_drew (Below.refl _ _))
            | exact unhide SB _ (below_grow (And.right (And.right (And.right (And.right (by assumption))))) (Nat.le_refl _) (by assumption)))
          (first | (go_at_call 20; refine (unhide KW _ (And.right (And.right (And.right (And.right (by assumption)))))).mono ?_; rintro e wf ⟨r9, c9, rfl, hc9, hs9, hp9, hb9⟩))
        all_goals rename_i hHeld
        all_goals have hbf := hHeld.2.2.2.2
        all_goals clear hHeld
        all_goals have HWf := hide ((unhide HWe).after hbf)
        all_goals have HBf := hide (below_grow (unhide HBe) (Nat.le_refl _) hbf)
        all_goals have n0 : wf.cell? ⟨w.heap.size + 2, p, none⟩ = some (.int .i64 N) := (by have := (unhide HWf).mem.num.cell p _ (rows3_get hp3); unfold numF at this; rw [hnp] at this; exact this)
        all_goals have n1 := (unhide HWf).mem.num.frozen p
        all_goals have hlo := (unhide HWf).mem.lo
        all_goals obtain ⟨hsA, hpA⟩ := made_set (D := w.heap.size + 2) (k := p) (u := .int .i64 (N + 1)) hs9 hp9 (fun g hg => by have := hg.1; omega)
        all_goals have HMA := hide ((unhide HWf).mem.putNum hp3 (N + 1))
        all_goals have l0 : (wf.setCell ⟨w.heap.size + 2, p, none⟩ (.int .i64 (N + 1))).cell? ⟨w.heap.size + 1, p, none⟩ = some (.slice (R p) (L p).length (C p)) := (unhide HMA).leaf.cell p _ (rows3_get hp3)
        all_goals have l1 := (unhide HMA).leaf.frozen p
        all_goals obtain ⟨hsB, hpB⟩ := made_set (D := w.heap.size + 1) (k := p) (u := .slice r9 1 c9) hsA hpA (fun g hg => by have := hg.1; omega)
        all_goals have HMB := hide ((unhide HMA).putLeaf hp3 hc9 hsA hpA)
        all_goals have HSVN := hide (sv_svn (O' := fun g => base ≤ g) (row := u6.ownBlock) hsB hpB (fun g hg => ⟨hg.2, hg.1⟩))
        all_goals have HBB := hide (((unhide HBf).trans ((only_set wf (w.heap.size + 2) p (.int .i64 (N + 1))).below (by omega))).trans ((only_set _ (w.heap.size + 1) p (.slice r9 1 c9)).below (by omega)))
        all_goals have hal := (unhide HWf).len
        all_goals have hhi := (unhide HMB).hi
        all_goals clear hs9 hp9 hsA hpA hsB hpB SB KW
        all_goals go_wp2_with (at_builtin; refine append_sv (by rfl) _ _ (by rfl) base _ all (by rfl) (unhide HMB).ov _ _ [v] (by rfl) (unhide HSVN) (by simp; omega) hhi ?_; intro v9 wz hown hbz hgz hlz; have HF := hide ((unhide HMB).grown hown hbz hgz hlz); have HBz := hide ((unhide HBB).trans (hbz.mono (by omega))); clear hown hbz hgz hlz)
        all_goals go_roundw
        all_goals (first
          | (case rel => exact ⟨k + 1, _, _, _, _, _, by omega, by omega, by go_num, (unhide HWf).wrote hp3 (unhide HOKV) (unhide HDOT) (unhide HPAST) (by rw [hnp]; exact unhide HF), unhide HBz⟩)
          | (simp [intOf]; omega))
      · by_cases hk1 : kind = 1
        · subst hk1
          go_wp2_with (refine store_row (by rfl) 24 _ _ (by rfl) wd.heap.size [.int .i64 (p : Int), .int .i64 (N + 1)] (by rfl) (by rfl) 24 [.int .i64 0, .int .i64 0] (VRow.newAt rfl) 2 size24 rfl rfl (by simp [Value.oneCell']) ?_; intro we ho hr; have hbe := (below_alloc' (w := wd) (.cells #[.int .i64 0, .int .i64 0] 24)).trans (ho.below (Nat.le_refl _)); have HWe := hide ((unhide HWd).after hbe); have HBe := hide (below_grow (unhide HBd) (Nat.le_refl _) hbe); have RD := hide hr; have z0 := (hbe.cell (p := ⟨g, o + k * 4, none⟩) (block_lt_of_cell y0)).trans y0; have z3 := (hbe.cell (p := ⟨g, o + k * 4 + 3, none⟩) (block_lt_of_cell y3)).trans y3; clear ho hr hbe y0 y3 m0)
          generalize wd.heap.size = DD at RD ⊢
          have c0 : we.cell? ⟨w.heap.size + 1, p, none⟩ = some (.slice (R p) (L p).length (C p)) := (unhide HWe).mem.leaf.cell p _ (rows3_get hp3)
          have s0 := (unhide HWe).mem.lv.sv p hp3
          have v0 := (unhide HWe).mem.lv.prov p hp3
          have p0 := (unhide HWe).mem.lv.cap p hp3
          have f0 := few_leaf ((unhide HWe).net.leaf hp3)
          have hnets := (unhide HWe).net.erases hp3 (by rw [hnp]; omega)
          rw [hnp] at hnets
          generalize hrp : R p = rp at c0 s0 v0
          generalize hcp : C p = cp at c0 p0
          generalize hlp : L p = lp at c0 s0 v0 p0 f0
          rw [hlp] at hnets
          have HLP := hide hlp
          have FEW := hide f0
          have SP := hide s0
          have VP := hide v0
          have hlen : lp.length ≤ 100000 := f0.1
          clear hrp hcp hlp f0
          rcases hnets with hnet | hnet
          · obtain ⟨v, hv⟩ : ∃ v, (⟨((p : Int), N + 1), Vc.coverL lp, true, ⟨#[]⟩⟩ : Vc.V) = v := ⟨_, rfl⟩
            rw [hv] at hnet
            have HOKV := hide hnet.2
            have HDOT : Hid (v.dot = ((p : Int), n (p : Int) + 1)) := hide (by rw [← hv, hnp])
            have HPAST : Hid (v.past = Vc.coverL (L p)) := hide (by rw [← hv, unhide HLP])
            have KW := hide fun W (hb : Below we.heap.size we W) => (unhide PR).erase (fun g => base ≤ g ∧ some g ≠ u6.ownBlock) rp cp lp (unhide FEW) p0 (p : Int) (N + 1) W ((unhide HWe).mem.fresh hb) ((unhide SP).after hb) ((unhide VP).after (unhide SP) hb)
            rw [hnet.1] at KW
            clear hnet hv
            have SB : Hid (∀ w', Below we.heap.size we w' → w'.cell? ⟨w.heap.size + 1, p, none⟩ = some (.slice rp lp.length cp) ∧ w'.cell? ⟨DD, 0, none⟩ = some (.int .i64 (p : Int)) ∧ w'.cell? ⟨DD, 1, none⟩ = some (.int .i64 (N + 1)) ∧ w'.cell? ⟨g, o + k * 4 + 3, none⟩ = some (.int .i64 num) ∧ Below we.heap.size we w') := hide (fun w' hb => ⟨(hb.cell (block_lt_of_cell c0)).trans c0, ((unhide RD).after hb).cell 0 _ rfl, ((unhide RD).after hb).cell 1 _ rfl, (hb.cell (block_lt_of_cell z3)).trans z3, hb⟩)
            clear c0 z0 z3 s0 v0
            go_wp2_with fail
            go_region_held3 (fun w' => w'.cell? ⟨w.heap.size + 1, p, none⟩ = some (.slice rp lp.length cp) ∧ w'.cell? ⟨DD, 0, none⟩ = some (.int .i64 (p : Int)) ∧ w'.cell? ⟨DD, 1, none⟩ = some (.int .i64 (N + 1)) ∧ w'.cell? ⟨g, o + k * 4 + 3, none⟩ = some (.int .i64 num) ∧ Below we.heap.size we w')
              (first
                | exact unhide SB _ (below_drew (Below.refl _ _))
                | exact unhide SB _ (below_grow (And.right (And.right (And.right (And.right (by assumption))))) (Nat.le_refl _) (by assumption)))
              (first | (go_at_call 22; refine (unhide KW _ (And.right (And.right (And.right (And.right (by assumption)))))).mono ?_; rintro e wf ⟨r9, c9, rfl, hc9, hs9, hp9, hb9⟩))
            all_goals rename_i hHeld
            all_goals have hbf := hHeld.2.2.2.2
            all_goals clear hHeld
            all_goals have HWf := hide ((unhide HWe).after hbf)
            all_goals have HBf := hide (below_grow (unhide HBe) (Nat.le_refl _) hbf)
            all_goals have n0 : wf.cell? ⟨w.heap.size + 2, p, none⟩ = some (.int .i64 N) := (by have := (unhide HWf).mem.num.cell p _ (rows3_get hp3); unfold numF at this; rw [hnp] at this; exact this)
            all_goals have n1 := (unhide HWf).mem.num.frozen p
            all_goals have hlo := (unhide HWf).mem.lo
            all_goals obtain ⟨hsA, hpA⟩ := made_set (D := w.heap.size + 2) (k := p) (u := .int .i64 (N + 1)) hs9 hp9 (fun g hg => by have := hg.1; omega)
            all_goals have HMA := hide ((unhide HWf).mem.putNum hp3 (N + 1))
            all_goals have l0 : (wf.setCell ⟨w.heap.size + 2, p, none⟩ (.int .i64 (N + 1))).cell? ⟨w.heap.size + 1, p, none⟩ = some (.slice (R p) (L p).length (C p)) := (unhide HMA).leaf.cell p _ (rows3_get hp3)
            all_goals have l1 := (unhide HMA).leaf.frozen p
            all_goals obtain ⟨hsB, hpB⟩ := made_set (D := w.heap.size + 1) (k := p) (u := .slice r9 1 c9) hsA hpA (fun g hg => by have := hg.1; omega)
            all_goals have HMB := hide ((unhide HMA).putLeaf hp3 hc9 hsA hpA)
            all_goals have HSVN := hide (sv_svn (O' := fun g => base ≤ g) (row := u6.ownBlock) hsB hpB (fun g hg => ⟨hg.2, hg.1⟩))
            all_goals have HBB := hide (((unhide HBf).trans ((only_set wf (w.heap.size + 2) p (.int .i64 (N + 1))).below (by omega))).trans ((only_set _ (w.heap.size + 1) p (.slice r9 1 c9)).below (by omega)))
            all_goals have hal := (unhide HWf).len
            all_goals have hhi := (unhide HMB).hi
            all_goals clear hs9 hp9 hsA hpA hsB hpB SB KW
            all_goals go_wp2_with (at_builtin; refine append_sv (by rfl) _ _ (by rfl) base _ all (by rfl) (unhide HMB).ov _ _ [v] (by rfl) (unhide HSVN) (by simp; omega) hhi ?_; intro v9 wz hown hbz hgz hlz; have HF := hide ((unhide HMB).grown hown hbz hgz hlz); have HBz := hide ((unhide HBB).trans (hbz.mono (by omega))); clear hown hbz hgz hlz)
            all_goals go_roundw
            all_goals (first
              | (case rel => exact ⟨k + 1, _, _, _, _, _, by omega, by omega, by go_num, (unhide HWf).wrote hp3 (unhide HOKV) (unhide HDOT) (unhide HPAST) (by rw [hnp]; exact unhide HF), unhide HBz⟩)
              | (simp [intOf]; omega))
          · have KW := hide fun W (hb : Below we.heap.size we W) => (unhide PR).erase (fun g => base ≤ g ∧ some g ≠ u6.ownBlock) rp cp lp (unhide FEW) p0 (p : Int) (N + 1) W ((unhide HWe).mem.fresh hb) ((unhide SP).after hb) ((unhide VP).after (unhide SP) hb)
            rw [hnet] at KW
            clear hnet
            have SB : Hid (∀ w', Below we.heap.size we w' → w'.cell? ⟨w.heap.size + 1, p, none⟩ = some (.slice rp lp.length cp) ∧ w'.cell? ⟨DD, 0, none⟩ = some (.int .i64 (p : Int)) ∧ w'.cell? ⟨DD, 1, none⟩ = some (.int .i64 (N + 1)) ∧ w'.cell? ⟨g, o + k * 4 + 3, none⟩ = some (.int .i64 num) ∧ Below we.heap.size we w') := hide (fun w' hb => ⟨(hb.cell (block_lt_of_cell c0)).trans c0, ((unhide RD).after hb).cell 0 _ rfl, ((unhide RD).after hb).cell 1 _ rfl, (hb.cell (block_lt_of_cell z3)).trans z3, hb⟩)
            clear c0 z0 z3 s0 v0
            go_wp2_with fail
            go_region_held3 (fun w' => w'.cell? ⟨w.heap.size + 1, p, none⟩ = some (.slice rp lp.length cp) ∧ w'.cell? ⟨DD, 0, none⟩ = some (.int .i64 (p : Int)) ∧ w'.cell? ⟨DD, 1, none⟩ = some (.int .i64 (N + 1)) ∧ w'.cell? ⟨g, o + k * 4 + 3, none⟩ = some (.int .i64 num) ∧ Below we.heap.size we w')
              (first
                | exact unhide SB _ (below_drew (Below.refl _ _))
                | exact unhide SB _ (below_grow (And.right (And.right (And.right (And.right (by assumption))))) (Nat.le_refl _) (by assumption)))
              (first | (go_at_call 22; refine (unhide KW _ (And.right (And.right (And.right (And.right (by assumption)))))).mono ?_; rintro e wf ⟨r9, c9, rfl, hc9, hs9, hp9, hb9⟩))
            all_goals rename_i hHeld
            all_goals have hbf := hHeld.2.2.2.2
            all_goals clear hHeld
            all_goals have HWf := hide ((unhide HWe).after hbf).next
            all_goals have HBf := hide (below_grow (unhide HBe) (Nat.le_refl _) hbf)
            all_goals clear SB KW
            all_goals go_wp2_with fail
            all_goals go_roundw
            all_goals (first
              | (case rel => exact ⟨k + 1, n, L, all, R, C, by omega, by omega, by go_num, unhide HWf, unhide HBf⟩)
              | (simp [intOf]; omega))
        · go_wp2_with (refine store_row (by rfl) 24 _ _ (by rfl) wd.heap.size [.int .i64 (p : Int), .int .i64 (N + 1)] (by rfl) (by rfl) 24 [.int .i64 0, .int .i64 0] (VRow.newAt rfl) 2 size24 rfl rfl (by simp [Value.oneCell']) ?_; intro we ho hr; have hbe := (below_alloc' (w := wd) (.cells #[.int .i64 0, .int .i64 0] 24)).trans (ho.below (Nat.le_refl _)); have HWe := hide ((unhide HWd).after hbe); have HBe := hide (below_grow (unhide HBd) (Nat.le_refl _) hbe); have RD := hide hr; have z0 := (hbe.cell (p := ⟨g, o + k * 4, none⟩) (block_lt_of_cell y0)).trans y0; have z3 := (hbe.cell (p := ⟨g, o + k * 4 + 3, none⟩) (block_lt_of_cell y3)).trans y3; clear ho hr hbe y0 y3 m0)
          generalize wd.heap.size = DD at RD ⊢
          have c0 : we.cell? ⟨w.heap.size + 1, p, none⟩ = some (.slice (R p) (L p).length (C p)) := (unhide HWe).mem.leaf.cell p _ (rows3_get hp3)
          have s0 := (unhide HWe).mem.lv.sv p hp3
          have v0 := (unhide HWe).mem.lv.prov p hp3
          have p0 := (unhide HWe).mem.lv.cap p hp3
          have f0 := few_leaf ((unhide HWe).net.leaf hp3)
          have c1 : we.cell? ⟨w.heap.size + 1, q, none⟩ = some (.slice (R q) (L q).length (C q)) := (unhide HWe).mem.leaf.cell q _ (rows3_get hq3)
          have s1 := (unhide HWe).mem.lv.sv q hq3
          have v1 := (unhide HWe).mem.lv.prov q hq3
          have p1 := (unhide HWe).mem.lv.cap q hq3
          have f1 := few_leaf ((unhide HWe).net.leaf hq3)
          have HOKs : Hid (Vc.checkLeaf (L p) = 0 ∧ Vc.checkLeaf (L q) = 0) := hide ⟨(Vc.checkLeaf_zero _).2 ((unhide HWe).net.leaf hp3), (Vc.checkLeaf_zero _).2 ((unhide HWe).net.leaf hq3)⟩
          have hlen := f0.1
          have hlen1 := f1.1
          have KS := hide ((unhide PR).sync (fun g => base ≤ g ∧ some g ≠ u6.ownBlock) (R p) (R q) (C p) (C q) (L p) (L q) f0 f1 p0 p1 we.drew ((unhide HWe).mem.fresh (below_drew (Below.refl _ _))) (s0.after (below_drew (Below.refl _ _))) (s1.after (below_drew (Below.refl _ _))) (v0.after s0 (below_drew (Below.refl _ _))) (v1.after s1 (below_drew (Below.refl _ _))))
          obtain ⟨rp, hrp⟩ : ∃ x, R p = x := ⟨_, rfl⟩
          obtain ⟨cp, hcp⟩ : ∃ x, C p = x := ⟨_, rfl⟩
          obtain ⟨lp, hlp⟩ : ∃ x, L p = x := ⟨_, rfl⟩
          obtain ⟨rq, hrq⟩ : ∃ x, R q = x := ⟨_, rfl⟩
          obtain ⟨cq, hcq⟩ : ∃ x, C q = x := ⟨_, rfl⟩
          obtain ⟨lq, hlq⟩ : ∃ x, L q = x := ⟨_, rfl⟩
          rw [hrp, hcp, hlp, hrq, hcq, hlq] at KS
          rw [hrp, hcp, hlp] at c0
          rw [hrq, hcq, hlq] at c1
          rw [hlp, hlq] at HOKs
          rw [hlp] at hlen
          rw [hlq] at hlen1
          have HLP := hide hlp
          have HLQ := hide hlq
          have hv0 : VRow we.drew (w.heap.size + 1) 47 (rows3 (leafF R C L)) := (unhide HWe).mem.leaf
          clear s0 v0 p0 f0 s1 v1 p1 f1 hrp hcp hlp hrq hcq hlq z0 z3
          go_wp2_with fail
          go_region_with (go_at_call 32; refine (unhide KS).mono ?_; rintro e wf ⟨s, r9, c9, rfl, hc9, hs9, hp9, hb9, hgood, _⟩; have hv1 := hv0.after hb9; have kk0 := hv1.cell p _ (rows3_get hp3); have kk1 := hv1.frozen p)
          all_goals
            have hbf := Below.trans (below_drew (Below.refl we.heap.size we)) hb9
            have HWf := hide ((unhide HWe).after hbf)
            have HBf := hide (below_grow (unhide HBe) (Nat.le_refl _) hbf)
            have HIS : Hid (Vc.IsSync (L p) (L q) s) := hide (by rw [unhide HLP, unhide HLQ]; exact hgood (unhide HOKs))
            have HMB := hide ((unhide HWf).mem.putLeaf hp3 hc9 hs9 hp9)
            have HWS : Hid (WS w.heap.size base (k + 1) u6 n (Vc.updL L p s) all (fun q => if q = p then r9 else R q) (fun q => if q = p then c9 else C q) (wf.setCell ⟨w.heap.size + 1, p, none⟩ (.slice r9 s.length c9))) := hide (WS.next ⟨unhide HMB, (unhide HWf).net.sync hp3 hq3 (unhide HIS), (unhide HWf).len, (unhide HWf).cnt⟩)
            have HBB := hide ((unhide HBf).trans ((only_set wf (w.heap.size + 1) p (.slice r9 s.length c9)).below (by omega)))
            clear hs9 hp9 hb9 hgood hv1 kk0 kk1 hv0 KS
            go_wp2_with fail
            go_roundw
            case rel => exact ⟨k + 1, _, _, _, _, _, by omega, by omega, by go_num, unhide HWS, unhide HBB⟩
            case measure => simp [intOf]; omega
    · have q0 := (unhide HW).mem.leaf.cell 0 _ rfl
      have q1 := (unhide HW).mem.leaf.cell 1 _ rfl
      have q2 := (unhide HW).mem.leaf.cell 2 _ rfl
      unfold leafF at q0 q1 q2
      obtain ⟨rA, cA, rfl, hcA, hsA, hpA⟩ := (unhide HW).mem.ov.sv
      have HSA := hide hsA
      have HPA := hide (hpA fun _ hg => hg)
      have hlo := (unhide HW).mem.lo
      clear hsA hpA
      have hd : (k < ss.length ∧ decide ((k : Int) < 40) = false) ∨ ¬ k < ss.length := by
        by_cases hkl : k < ss.length
        · exact .inl ⟨hkl, decide_eq_false (by omega)⟩
        · exact .inr hkl
      rcases hd with ⟨hkl, hd⟩ | hd
      all_goals
        go_wp2_with (refine store_row (by rfl) 47 _ _ (by rfl) w.heap.size (rows3 (leafF R C L)) (by rfl) (by rfl) 47 zeros3 (unhide HW).mem.res 3 size47 rfl rfl (three_one _ (fun _ => rfl)) ?_; intro wz ho hr; have HO := hide ho; have HR := hide hr; clear ho hr)
        refine bodyPost_ret (v := .tuple #[.agg (rows3 (leafF R C L)).toArray, .slice rA all.length cA]) (results_row_int rfl _ _ w.heap.size 47 (rows3 (leafF R C L)) rfl rfl (unhide HR) 3 3 22 Try.underlying47 size47 rfl) rfl ?_
        have hlv := (unhide HW).mem.lv.only (unhide HO) (by omega)
        exact ⟨n, L, all, R, C, rA, cA, rfl, (unhide HW).net, fun q hq => ⟨hlv.cap q hq, hlv.sv q hq⟩, hcA, by have := (unhide HW).len; omega, (unhide HSA).keep (unhide HPA) (by rw [(unhide HO).size]; exact Nat.le_refl _) (fun g hg _ => (unhide HO).block g (by omega)), (unhide HB).trans ((unhide HO).below (Nat.le_refl _))⟩
end Go.Proofs.Ytbghekolfcakeaa
