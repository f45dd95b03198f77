/-
  Where a path stands in a tree: what find and Get answer. Conditions: those that each theorem names.
-/
import Derived.Test.YtpfighkafmammaaB06
import Derived.Lib.AppendZeros
import Derived.Test.YtpfighkafmammaaB05
namespace Go.Proofs.Ytpfighkafmammaa
open Go.RowKit

theorem below_drewN' {w : World} (n : Nat) : Below w.heap.size w (w.drewN n) := Pth.below_drewN (Below.refl _ _) n

theorem leaf_pasts {l : List Vc.V} (h : Vc.checkLeaf l = 0) : ∀ v ∈ l, v.past.length ≤ 64 := by
  have key : ∀ (l : List Vc.V) (p : Int), Vc.VUp p l → ∀ v ∈ l, v.past.length ≤ 64 := by
    intro l
    induction l with
    | nil => intro _ _ v hv; cases hv
    | cons a l ih =>
      intro p hu v hv
      rcases List.mem_cons.1 hv with rfl | hv
      · exact Vc.vec_len hu.1.past
      · exact ih _ hu.2.2 v hv
  exact key l _ ((Vc.checkLeaf_zero l).1 h).up

set_option maxRecDepth 100000 in
set_option maxHeartbeats 400000 in
theorem find1_any (x : En) (r : Option Addr) (c : Nat) (p : ByteArray) (hx : x.1.size ≤ maxLen) (hp : p.size ≤ maxLen) (w : World) :
    Calls Try.prog 64 #[.agg (entL x r c).toArray, .string p] w fun e w' => e = .returned (.int .i64 (cmpE x.1 p)) ∧ Below w.heap.size w w' := by
  have K := hide fun W => Pth.compare_any x.1 p hx hp W
  rw [show Pth.Pt.cmpT x.1.data.toList p.data.toList = cmpE x.1 p from rfl] at K
  generalize cmpE x.1 p = C at K ⊢
  have HB := hide (below_alloc1 (w := w) (.cells (entL x r c).toArray 44))
  have a0 := (VRow.new w 44 (entL x r c)).cell 0 _ rfl
  clear hx hp
  unfold entL at *
  go_enter Try.func64, Try.ntmps64
  go_wp2_with fail
  refine (unhide K _).mono ?_
  rintro e w1 ⟨rfl, n, rfl⟩
  have HB1 := hide (below_grow (unhide HB) (Nat.le_refl _) (below_drewN' n))
  go_wp2_with fail
  go_ret
  exact ⟨rfl, unhide HB1⟩

set_option maxRecDepth 100000 in
set_option maxHeartbeats 2000000 in
theorem bin_any (a : Option Addr) (cap : Nat) (t : List En) (hl : t.length ≤ 100000) (hs : Srt t) (hps : ∀ x ∈ t, x.1.size ≤ maxLen) (p : ByteArray) (hp : p.size ≤ maxLen) (w : World) (h : EL w a t) :
    Calls Try.prog 63 #[.slice a t.length cap, .string p, .func (.func 64) #[] #[]] w fun e w' => e = .returned (.tuple #[.int .i64 (cntT t p : Nat), .bool (hasT t p)]) ∧ Below w.heap.size w w' := by
  have HS := hide h
  have HR := hide hs
  have HP := hide hp
  have HPS := hide hps
  obtain ⟨n, hn⟩ : ∃ n, t.length = n := ⟨_, rfl⟩
  obtain ⟨C, hC⟩ : ∃ C, cntT t p = C := ⟨_, rfl⟩
  have HN := hide hn
  have HC := hide hC
  obtain ⟨D, hD⟩ : ∃ D, hasT t p = D := ⟨_, rfl⟩
  have HD := hide hD
  have hcn : C ≤ n := by rw [← hC, ← hn]; exact cnt_le t p
  rw [hn] at hl ⊢
  rw [hC, hD]
  clear hD
  clear h hs hps hp hn hC
  go_enter Try.func63, Try.ntmps63
  go_wp2_with fail
  go_loopw [9, 10] (fun x y wr => ∃ i j : Nat, x = .int .i64 i ∧ y = .int .i64 j ∧ i ≤ C ∧ C ≤ j ∧ j ≤ n ∧ Below w.heap.size w wr) (fun x y _ => (intOf y).toNat - (intOf x).toNat)
  case atStart => exact ⟨0, n, rfl, rfl, Nat.zero_le _, hcn, Nat.le_refl _, Below.refl _ _⟩
  case round =>
    obtain ⟨i, j, rfl, rfl, hiC, hCj, hjn, hb⟩ := hrel
    have HB := hide hb
    have HS1 := hide ((unhide HS).after hb)
    clear hb
    by_cases hlt : i < j
    · obtain ⟨k, hk⟩ : ∃ k : Nat, k = (i + j) / 2 := ⟨_, rfl⟩
      have hk1 : i ≤ k := by omega
      have hk2 : k < j := by omega
      obtain ⟨x, hx⟩ : ∃ x, t[k]? = some x := ⟨_, List.getElem?_eq_getElem (by rw [unhide HN]; omega)⟩
      obtain ⟨g, o, rfl, hg, hcell⟩ := unhide HS1 (by rw [unhide HN]; omega)
      obtain ⟨r, c, x0, x1, _, _⟩ := hcell k x hx
      have hkn : k < n := by omega
      have KC := hide fun W => find1_any x r c p (unhide HPS x (List.mem_of_getElem? hx)) (unhide HP) W
      have HLT : Hid (cmpE x.1 p < 0 ↔ k < C) := hide (by rw [← unhide HC]; exact cnt_lt (unhide HR) hx)
      generalize cmpE x.1 p = R at KC HLT
      have hki : ((i : Int) + (j : Int)) / 2 = (k : Int) := by omega
      have HK := hide hk
      clear hx hcell hg hk
      unfold entL at KC
      by_cases hR : R < 0
      · have hRb : decide (R < 0) = true := decide_eq_true hR
        have HAH := hide ((unhide HLT).1 hR)
        clear HLT hR hcn
        go_wp2_with fail
        refine (unhide KC _).mono ?_
        rintro e w2 ⟨rfl, hb2⟩
        have HB2 := hide (below_grow (unhide HB) (Nat.le_refl _) hb2)
        clear hb2 x0 x1 KC
        go_wp2_with fail
        go_roundw
        case rel => exact ⟨k + 1, j, by go_num, rfl, unhide HAH, hCj, hjn, unhide HB2⟩
        case measure => simp [intOf]; omega
      · have hRb : decide (R < 0) = false := decide_eq_false hR
        have HAH := hide (fun h => hR ((unhide HLT).2 h))
        clear HLT hR hcn
        go_wp2_with fail
        refine (unhide KC _).mono ?_
        rintro e w2 ⟨rfl, hb2⟩
        have HB2 := hide (below_grow (unhide HB) (Nat.le_refl _) hb2)
        clear hb2 x0 x1 KC
        go_wp2_with fail
        go_roundw
        case rel => exact ⟨i, k, rfl, rfl, hiC, Nat.le_of_not_lt (unhide HAH), by omega, unhide HB2⟩
        case measure => simp [intOf]; omega
    · obtain rfl : i = j := by omega
      obtain rfl : i = C := by omega
      by_cases hin : i < n
      · obtain ⟨x, hx⟩ : ∃ x, t[i]? = some x := ⟨_, List.getElem?_eq_getElem (by rw [unhide HN]; omega)⟩
        obtain ⟨g, o, rfl, hg, hcell⟩ := unhide HS1 (by rw [unhide HN]; omega)
        obtain ⟨r, c, x0, x1, _, _⟩ := hcell i x hx
        have KC := hide fun W => find1_any x r c p (unhide HPS x (List.mem_of_getElem? hx)) (unhide HP) W
        have HEQ : Hid (hasT t p = decide (cmpE x.1 p = 0)) := hide (has_cnt (unhide HR) (by rw [unhide HC]; exact hx))
        rw [show decide (cmpE x.1 p = 0) = (cmpE x.1 p == 0) by rw [Bool.eq_iff_iff]; simp] at HEQ
        generalize cmpE x.1 p = R at KC HEQ
        have hgi : decide ((i : Int) < (n : Int)) = true := decide_eq_true (by omega)
        clear hx hcell hg hcn
        unfold entL at KC
        have hd := unhide HEQ
        rw [unhide HD] at hd
        subst hd
        go_wp2_with fail
        refine (unhide KC _).mono ?_
        rintro e w2 ⟨rfl, hb2⟩
        have HB2 := hide (below_grow (unhide HB) (Nat.le_refl _) hb2)
        clear hb2 x0 x1 KC
        go_wp2_with fail
        refine bodyPost_ret (results_tmp2 rfl _ _ _) rfl ⟨rfl, unhide HB2⟩
      · obtain rfl : i = n := by omega
        have HEQ : Hid (hasT t p = false) := hide (has_end (unhide HR) (by rw [unhide HC, unhide HN]; exact Nat.le_refl _))
        have hd := unhide HEQ
        rw [unhide HD] at hd
        subst hd
        clear hcn
        go_wp2_with fail
        refine bodyPost_ret (results_tmp2 rfl _ _ _) rfl ⟨rfl, unhide HB⟩

set_option maxRecDepth 100000 in
set_option maxHeartbeats 400000 in
theorem find_any (a : Option Addr) (cap : Nat) (t : List En) (hl : t.length ≤ 100000) (hs : Srt t) (hps : ∀ x ∈ t, x.1.size ≤ maxLen) (p : ByteArray) (hp : p.size ≤ maxLen) (w : World) (h : EL w a t) :
    Calls Try.prog 44 #[.slice a t.length cap, .string p] w fun e w' => e = .returned (.tuple #[.int .i64 (cntT t p : Nat), .bool (hasT t p)]) ∧ Below w.heap.size w w' := by
  have K := hide (bin_any a cap t hl hs hps p hp w h)
  generalize cntT t p = C at K ⊢
  generalize hasT t p = D at K ⊢
  clear h hs hps
  go_enter Try.func44, Try.ntmps44
  go_wp2_with fail
  refine (unhide K).mono ?_
  rintro e w1 ⟨rfl, hb⟩
  have HB := hide hb
  clear hb K
  go_wp2_with fail
  refine bodyPost_ret (results_tmp2 rfl _ _ _) rfl ⟨rfl, unhide HB⟩

end Go.Proofs.Ytpfighkafmammaa

/-
  Rows of entries, one behind the other (Concat, Grow); a path with a leaf as a list (entryOf). Conditions: those that each theorem names.
-/

namespace Go.Proofs.Ytpfighkafmammaa
open Go.RowKit

theorem zeroCells_sizeE (z : Array Value) (n : Nat) : (Builtin.zeroCells z n).size = n * z.size := by simp [Builtin.zeroCells]
theorem grow_runE (w : World) (n : Nat) (h0 : 0 < n) (hn : n ≤ 200000) : ∃ C, n ≤ C ∧ C ≤ maxLen ∧ ∃ cur : Array Value, cur.size = C * 2 ∧ ∀ ty, (Builtin.append_ #[22, 3] ty #[.slice none 0 0, .int .i64 n]).run Try.prog w = .ok (.slice (some ⟨w.heap.size, 0, none⟩) n C) (w.drew.alloc (.cells cur 44)) := by
  obtain ⟨i0, hi, hz0, hz1, hz2⟩ := info_parts infoEn
  refine ⟨grownCap w n 0 44, grownCap_ge w n 0 44, grownCap_le_maxLen w n 0 44 (by unfold maxLen; omega), _, ?_, fun ty => Lib.run_append_nil_zeros w 22 3 ty 44 i0 _ .i64 .i64 Try.underlying22 Try.underlying3 hi hz0 n h0 (by omega) (by omega) (by rw [hz2]; omega)⟩
  have := grownCap_ge w n 0 44
  rw [Array.size_append, zeroCells_sizeE, zeroCells_sizeE]
  show n * 2 + (grownCap w n 0 44 - n) * 2 = _
  omega
theorem append_runE {w : World} {ops : Array Oper} {rest : List Oper} {o : Oper} {a : Act} {Q : Exit → Act → World → Prop} (hgd : o.guard = none) (s x : Operand)
    (ho : o.op = .call { callee := .builtin .append, args := #[s, x], argTypes := #[22, 3] }) (vs vx v' : Value) (w' : World) (hs : a.eval s = vs) (hx : a.eval x = vx) (hrun : ∀ ty, (Builtin.append_ #[22, 3] ty #[vs, vx]).run Try.prog w = .ok v' w')
    (h : wpList Try.prog ops Q rest (a.put o.dst v') w') : wpList Try.prog ops Q (o :: rest) a w := by
  refine wpList_plain hgd fun K hK => ?_
  unfold Oper.wp
  simp [execOp, ho, resolve, invoke, builtin, hs, hx, hrun, Result.andThen]
  exact hK _ _ h
def LeftE (w : World) (es : List En) (e : Ending) (w' : World) : Prop := ∃ l, e = .returned l ∧ OE w' w.heap.size l es ∧ Below w.heap.size w w'

set_option maxRecDepth 100000 in
set_option maxHeartbeats 600000 in
theorem growE_any (n : Nat) (hn : n ≤ 150000) (w : World) : Calls Try.prog 65 #[.slice none 0 0, .int .i64 n] w (LeftE w []) := by
  by_cases h0 : 0 < n
  · obtain ⟨C, hC, hM, cur, hcur, hrun⟩ := grow_runE w n h0 (by omega)
    have HE : Hid (OE (w.drew.alloc (.cells cur 44)) w.heap.size (.slice (some ⟨w.heap.size, 0, none⟩) 0 C) []) := hide ⟨[], rfl, ⟨rfl, .inr ⟨w.heap.size, C, cur, rfl, Nat.le_refl _, heap_alloc_new w.drew (.cells cur 44), Nat.zero_le _, hM, hcur, rfl⟩⟩, fun _ h => by cases h⟩
    have HB : Hid (Below w.heap.size w (w.drew.alloc (.cells cur 44))) := hide ((below_drew (Below.refl _ _)).alloc (Nat.le_refl _) _)
    have h0z : (0 : Int) < (n : Int) := by omega
    have h1z : ¬ (n : Int) < 0 := by omega
    have hwn : IntKind.i64.wrap (n : Int) = (n : Int) := wrap_small (by omega) (by omega)
    have HRUN := hide hrun
    clear hcur hM hrun
    go_enter Try.func65, Try.ntmps65
    go_wp2_with (at_builtin; refine append_runE (by rfl) _ _ (by rfl) _ _ _ _ (by rfl) (by rfl) (unhide HRUN) ?_)
    go_ret
    exact ⟨_, rfl, unhide HE, unhide HB⟩
  · obtain rfl : n = 0 := by omega
    go_enter Try.func65, Try.ntmps65
    go_wp2_with fail
    go_ret
    exact ⟨_, rfl, OE.nil _ _, Below.refl _ _⟩

set_option maxRecDepth 100000 in
set_option maxHeartbeats 2000000 in
theorem concatE_any (B : Nat) (ra rb rc : Option Addr) (ca cb cc : Nat) (a b c : List En) (ha : a.length ≤ 1000) (hb : b.length ≤ 1000) (hc : c.length ≤ 1000) (w : World) (hr : VRow w B 22 [.slice ra a.length ca, .slice rb b.length cb, .slice rc c.length cc])
    (sa : EL w ra a) (sb : EL w rb b) (sc : EL w rc c) : Calls Try.prog 45 #[.slice (some ⟨B, 0, none⟩) 3 3] w (LeftE w (a ++ (b ++ c))) := by
  have RR := hide hr
  have SA := hide sa
  have SB := hide sb
  have SC := hide sc
  have K := hide fun n hn W => growE_any n hn W
  obtain ⟨na, hna⟩ : ∃ n, a.length = n := ⟨_, rfl⟩
  obtain ⟨nb, hnb⟩ : ∃ n, b.length = n := ⟨_, rfl⟩
  obtain ⟨nc, hnc⟩ : ∃ n, c.length = n := ⟨_, rfl⟩
  have HNA := hide hna
  have HNB := hide hnb
  have HNC := hide hnc
  rw [hna] at RR ha
  rw [hnb] at RR hb
  rw [hnc] at RR hc
  have x0 := (unhide RR).cell 0 _ rfl
  have x1 := (unhide RR).cell 1 _ rfl
  have x2 := (unhide RR).cell 2 _ rfl
  clear hr sa sb sc hna hnb hnc
  go_enter Try.func45, Try.ntmps45
  go_wp2_with fail
  go_loopw [3, 11] (fun s i wr => ∃ k : Nat, k ≤ 3 ∧ i = .int .i64 k ∧ s = .int .i64 ((if k = 0 then 0 else if k = 1 then na else if k = 2 then na + nb else na + nb + nc : Nat) : Nat) ∧ wr = w) (fun _ i _ => 3 - (intOf i).toNat)
  case atStart => exact ⟨0, by omega, rfl, rfl, rfl⟩
  case round =>
    obtain ⟨k, hk, rfl, rfl, rfl⟩ := hrel
    rcases (show k = 0 ∨ k = 1 ∨ k = 2 ∨ k = 3 by omega) with rfl | rfl | rfl | rfl
    · have h1 : ¬ (na : Int) < 0 := by omega
      go_wp2_with fail
      go_roundw
      case rel => exact ⟨1, by omega, by go_num, by first | rfl | simp, by trivial⟩
      case measure => simp [intOf]
    · have h1 : ¬ (na : Int) + (nb : Int) < 0 := by omega
      have h2 : IntKind.i64.wrap ((na : Int) + (nb : Int)) = (na : Int) + (nb : Int) := wrap_small (by omega) (by omega)
      go_wp2_with fail
      go_roundw
      case rel => exact ⟨2, by omega, by go_num, by first | rfl | simp, by trivial⟩
      case measure => simp [intOf]
    · have h1 : ¬ (na : Int) + (nb : Int) + (nc : Int) < 0 := by omega
      have h2 : IntKind.i64.wrap ((na : Int) + (nb : Int) + (nc : Int)) = (na : Int) + (nb : Int) + (nc : Int) := wrap_small (by omega) (by omega)
      go_wp2_with fail
      go_roundw
      case rel => exact ⟨3, by omega, by go_num, by first | rfl | simp, by trivial⟩
      case measure => simp [intOf]
    · rw [show (if 3 = 0 then 0 else if 3 = 1 then na else if 3 = 2 then na + nb else na + nb + nc) = na + nb + nc from rfl]
      obtain ⟨nn, hnn⟩ : ∃ n, n = na + nb + nc := ⟨_, rfl⟩
      rw [← hnn]
      have KG := hide (unhide K nn (by omega) wr)
      have HNN := hide hnn
      clear hnn
      go_wp2_with fail
      refine (unhide KG).mono ?_
      rintro e w1 ⟨l0, rfl, hov0, hb0⟩
      have HO0 := hide hov0
      have HB0 := hide hb0
      clear hov0 hb0 x0 x1 x2
      go_wp2_with fail
      generalize wr = w at *
      go_loopw [6, 27] (fun l i wr => ∃ k : Nat, k ≤ 3 ∧ i = .int .i64 k ∧ OE wr w.heap.size l (if k = 0 then [] else if k = 1 then a else if k = 2 then a ++ b else a ++ (b ++ c)) ∧ Below w.heap.size w wr) (fun _ i _ => 3 - (intOf i).toNat)
      case atStart => exact ⟨0, by omega, rfl, unhide HO0, unhide HB0⟩
      case round =>
        obtain ⟨k, hk, rfl, hov, hbw⟩ := hrel
        have HO := hide hov
        have HBW := hide hbw
        have R2 := (unhide RR).after hbw
        have y0 := R2.cell 0 _ rfl
        have y1 := R2.cell 1 _ rfl
        have y2 := R2.cell 2 _ rfl
        have HSZ := hide hbw.size
        clear hbw R2
        rcases (show k = 0 ∨ k = 1 ∨ k = 2 ∨ k = 3 by omega) with rfl | rfl | rfl | rfl
        · have HV : Hid (ELN u6.ownBlock wr ra a) := hide ((unhide SA).eln (fun g e => (hov.lt g e).1) (unhide HBW))
          clear hov
          go_wp2_with (at_builtin; refine append_el (by rfl) _ _ (by rfl) w.heap.size _ [] (by rfl) (unhide HO) ra na ca a (unhide HNA) (by rfl) (unhide HV) (by rw [unhide HNA]; simp; omega) (unhide HSZ) ?_; intro v9 w9 hown9 hb9 _; have HO9 := hide hown9; have HB9 := hide ((unhide HBW).trans hb9); clear hown9 hb9 y0 y1 y2)
          go_roundw
          case rel => exact ⟨1, by omega, by go_num, unhide HO9, unhide HB9⟩
          case measure => simp [intOf]
        · have HV : Hid (ELN u6.ownBlock wr rb b) := hide ((unhide SB).eln (fun g e => (hov.lt g e).1) (unhide HBW))
          clear hov
          go_wp2_with (at_builtin; refine append_el (by rfl) _ _ (by rfl) w.heap.size _ a (by rfl) (unhide HO) rb nb cb b (unhide HNB) (by rfl) (unhide HV) (by rw [unhide HNA, unhide HNB]; omega) (unhide HSZ) ?_; intro v9 w9 hown9 hb9 _; have HO9 := hide hown9; have HB9 := hide ((unhide HBW).trans hb9); clear hown9 hb9 y0 y1 y2)
          go_roundw
          case rel => exact ⟨2, by omega, by go_num, unhide HO9, unhide HB9⟩
          case measure => simp [intOf]
        · have HV : Hid (ELN u6.ownBlock wr rc c) := hide ((unhide SC).eln (fun g e => (hov.lt g e).1) (unhide HBW))
          clear hov
          go_wp2_with (at_builtin; refine append_el (by rfl) _ _ (by rfl) w.heap.size _ (a ++ b) (by rfl) (unhide HO) rc nc cc c (unhide HNC) (by rfl) (unhide HV) (by rw [List.length_append, unhide HNA, unhide HNB, unhide HNC]; omega) (unhide HSZ) ?_; intro v9 w9 hown9 hb9 _; have HO9 := hide hown9; have HB9 := hide ((unhide HBW).trans hb9); clear hown9 hb9 y0 y1 y2)
          rw [List.append_assoc] at HO9
          go_roundw
          case rel => exact ⟨3, by omega, by go_num, unhide HO9, unhide HB9⟩
          case measure => simp [intOf]
        · clear hov y0 y1 y2
          go_wp2_with fail
          go_ret
          exact ⟨u6, rfl, unhide HO, unhide HBW⟩

/-- A path with a leaf, as a list of one, or none. -/
def oneE (p : ByteArray) (l : List Vc.V) : List En := if l.length = 0 then [] else [(p, l)]

set_option maxRecDepth 100000 in
set_option maxHeartbeats 400000 in
theorem entryOf_any (p : ByteArray) (r : Option Addr) (c : Nat) (l : List Vc.V) (hc : l.length ≤ c) (w : World) (h : SV w r l) :
    Calls Try.prog 46 #[.string p, .slice r l.length c] w (MadeE w (oneE p l)) := by
  have HS := hide h
  unfold oneE
  by_cases h0 : l.length = 0
  · rw [if_pos h0, h0]
    clear h
    go_enter Try.func46, Try.ntmps46
    go_wp2_with fail
    go_ret
    exact ⟨none, 0, rfl, Nat.le_refl _, EL.none _ _, Below.refl _ _⟩
  · rw [if_neg h0]
    have h1 : ¬ (l.length : Int) = 0 := by omega
    have h2 : ((l.length : Int) == 0) = false := beq_eq_false_iff_ne.2 h1
    have HB := hide (below_alloc' (w := w) (.cells #[.string p, .slice r l.length c] 44))
    have HV := hide (VRow.new w 44 (entL (p, l) r c))
    have HC := hide hc
    clear h hc h0
    go_enter Try.func46, Try.ntmps46
    go_wp2_with fail
    go_ret
    refine ⟨_, _, rfl, Nat.le_refl _, fun _ => ⟨w.heap.size, 0, rfl, (unhide HV).lt, fun j x hj => ?_⟩, unhide HB⟩
    have hj0 : j = 0 := by have := (List.getElem?_eq_some_iff.1 hj).1; simp at this; omega
    subst hj0
    simp at hj
    subst hj
    exact ⟨r, c, (unhide HV).cell 0 _ rfl, (unhide HV).cell 1 _ rfl, unhide HC, (unhide HS).after (unhide HB)⟩
end Go.Proofs.Ytpfighkafmammaa

/-
  A leaf set at a path, and the tree of entries: what Set and Of answer. Conditions: those that each theorem names.
-/

namespace Go.Proofs.Ytpfighkafmammaa
open Go.RowKit

def MadeTr (w : World) (x : List En × Int) (e : Ending) (w' : World) : Prop := ∃ q, e = .returned (.tuple #[.pointer q, .int .i64 x.2]) ∧ TrAt w' q x.1 ∧ (x.2 ≠ 0 → q = none) ∧ Below w.heap.size w w'
theorem concatE_at (B : Nat) (ra rb rc : Option Addr) (na nb nc ca cb cc : Nat) (a b c : List En) (ea : a.length = na) (eb : b.length = nb) (ec : c.length = nc) (ha : na ≤ 1000) (hb : nb ≤ 1000) (hc : nc ≤ 1000) (w : World) (hr : VRow w B 22 [.slice ra na ca, .slice rb nb cb, .slice rc nc cc])
    (sa : EL w ra a) (sb : EL w rb b) (sc : EL w rc c) : Calls Try.prog 45 #[.slice (some ⟨B, 0, none⟩) 3 3] w (LeftE w (a ++ (b ++ c))) := by
  subst ea
  subst eb
  subst ec
  exact concatE_any B ra rb rc ca cb cc a b c ha hb hc w hr sa sb sc
theorem oneE_len (p : ByteArray) (l : List Vc.V) : (oneE p l).length ≤ 1 := by unfold oneE; split <;> simp
theorem el_row {W : World} {B : Nat} {ra rb rc : Option Addr} {na nb nc ca cb cc : Nat} (h : VRow W B 22 [.slice ra na ca, .slice rb nb cb, .slice rc nc cc]) : VRow W B 22 [.slice ra na ca, .slice rb nb cb, .slice rc nc cc] := h

set_option maxRecDepth 100000 in
set_option maxHeartbeats 1000000 in
theorem treeSet_any (p0 : Option Addr) (t : List En) (ht : Tr t) (p : ByteArray) (hp : p.size ≤ 100000) (r : Option Addr) (c : Nat) (l : List Vc.V) (hf : Few l) (w : World) (h : TrAt w p0 t) (hv : SV w r l) :
    Calls Try.prog 26 #[.pointer p0, .string p, .slice r l.length c] w (MadeTr w (setT t p l)) := by
  have HT := hide ht
  have HTR := hide h
  have HV := hide hv
  have HP := hide hp
  have K1 := hide (Pth.check_any p hp w)
  have K2 := hide fun W h => checkLeaf_any r c l hf W h
  rw [show Pth.Pt.check p.data.toList = pchkE p from rfl] at K1
  obtain ⟨n, hn⟩ : ∃ n, l.length = n := ⟨_, rfl⟩
  have HN := hide hn
  by_cases hC : pchkE p ≠ 0
  · have hE : setT t p l = ([], pchkE p) := by unfold setT setE; rw [if_pos hC, if_pos hC]
    rw [hE]
    generalize pchkE p = C at K1 hC ⊢
    have hCb : (C == 0) = false := beq_eq_false_iff_ne.2 hC
    rw [hn]
    clear h hv hf hp ht hn hE K2
    go_enter Try.func26, Try.ntmps26
    go_wp2_with fail
    refine (unhide K1).mono ?_
    rintro e w1 ⟨rfl, hb⟩
    have HB := hide hb
    clear hb K1
    go_wp2_with fail
    refine bodyPost_ret (results_tmp2 rfl _ _ _) rfl ⟨_, rfl, TrAt.nil _, fun _ => rfl, unhide HB⟩
  · have hC0 : pchkE p = 0 := Classical.not_not.1 hC
    rw [hC0] at K1
    by_cases hL : Vc.checkLeaf l ≠ 0
    · have hE : setT t p l = ([], Vc.checkLeaf l) := by unfold setT setE; rw [if_neg hC, if_pos hL]
      rw [hE]
      generalize Vc.checkLeaf l = C at K2 hL ⊢
      have hCb : (C == 0) = false := beq_eq_false_iff_ne.2 hL
      rw [hn] at K2 ⊢
      clear h hv hf hp ht hn hE hC hC0
      go_enter Try.func26, Try.ntmps26
      go_wp2_with fail
      refine (unhide K1).mono ?_
      rintro e w1 ⟨rfl, hb⟩
      have HB := hide hb
      have KL := hide (unhide K2 w1 ((unhide HV).after hb))
      clear hb K1
      go_wp2_with fail
      refine (unhide KL).mono ?_
      rintro e w2 ⟨rfl, hb⟩
      have HB2 := hide (below_grow (unhide HB) (Nat.le_refl _) hb)
      clear hb KL
      go_wp2_with fail
      refine bodyPost_ret (results_tmp2 rfl _ _ _) rfl ⟨_, rfl, TrAt.nil _, fun _ => rfl, unhide HB2⟩
    · have hL0 : Vc.checkLeaf l = 0 := Classical.not_not.1 hL
      rw [hL0] at K2
      have hE : setT t p l = if 128 < (putT p l t).length then ([], 4) else (putT p l t, 0) := by unfold setT setE; rw [if_neg hC, hL0]; rfl
      rw [hE]
      have HPL := hide (leaf_pasts hL0)
      have h64 := (leaf_fewT hL0).2
      have H64 := hide h64
      rw [hn] at K2
      have HPP : Hid (putT p l t = t.take (cntT t p) ++ (oneE p l ++ (if hasT t p = true then (t.drop (cntT t p)).drop 1 else t.drop (cntT t p)))) := hide (put_parts ht.srt p l)
      have HLN := hide (len_put p l ht.srt)
      obtain ⟨R, hR⟩ : ∃ R, (if 128 < (putT p l t).length then ([], 4) else (putT p l t, 0) : List En × Int) = R := ⟨_, rfl⟩
      have HR := hide hR
      rw [hR, hn]
      clear h hv hf hp ht hn hE hC hC0 hL hL0 hR h64
      go_enter Try.func26, Try.ntmps26
      go_wp2_with fail
      refine (unhide K1).mono ?_
      rintro e w1 ⟨rfl, hb⟩
      have HB1 := hide hb
      have KL := hide (unhide K2 w1 ((unhide HV).after hb))
      clear hb K1 K2
      go_wp2_with fail
      refine (unhide KL).mono ?_
      rintro e w2 ⟨rfl, hb⟩
      have HB2 := hide (below_grow (unhide HB1) (Nat.le_refl _) hb)
      clear hb KL
      have KA := hide (all_any p0 t w2 ((unhide HTR).after (unhide HB2)))
      go_wp2_with fail
      refine (unhide KA).mono ?_
      rintro e w0 ⟨a, ca, rfl, hca, hel, hw⟩
      have hw' := hw.symm
      subst hw'
      have hfew := (unhide HT).few
      have KF := hide (find_any a ca t (by omega) (unhide HT).srt (fun x hx => by have := path_size ((unhide HT).path x hx); unfold maxLen; omega) p (by have := unhide HP; unfold maxLen; omega) w2 hel)
      have HE := hide hel
      have HCA := hide hca
      clear hel hw hca KA hfew
      go_wp2_with fail
      refine (unhide KF).mono ?_
      rintro e w3 ⟨rfl, hb⟩
      have HB3 := hide (below_grow (unhide HB2) (Nat.le_refl _) hb)
      have HE3 := hide ((unhide HE).after hb)
      clear hb KF
      have hk := cnt_le t p
      have hfew := (unhide HT).few
      obtain ⟨N, hN⟩ : ∃ N, t.length = N := ⟨_, rfl⟩
      obtain ⟨k, hkk⟩ : ∃ k, cntT t p = k := ⟨_, rfl⟩
      have HNN := hide hN
      have HKK := hide hkk
      have hca := unhide HCA
      rw [hN] at hk hfew hca ⊢
      rw [hkk] at hk HPP ⊢
      clear hN hkk
      have s1 := sliceE_to a N ca k hk hca
      obtain ⟨A, cA, s2, hcA, hA⟩ := sliceE_from a t N ca k (unhide HNN) hk hca
      have HA := hide (hA w3 (unhide HE3))
      clear hA hca
      have HCA2 := hide hcA
      clear hcA
      have KCP := hide fun W (h : SV W r l) => copy_any All r c l (by have := unhide H64; omega) (fun v hv => by have := unhide HPL v hv; omega) W (fun _ _ => trivial) h (prov_all _ _ _)
      have HV3 := hide ((unhide HV).after (unhide HB3))
      have HTK := hide ((unhide HE3).take k)
      have HTL : Hid ((t.take k).length = k) := hide (by rw [List.length_take, unhide HNN]; omega)
      have HDL : Hid ((t.drop k).length = N - k) := hide (by rw [List.length_drop, unhide HNN])
      have HNL : Hid (N ≤ 128) := hide hfew
      rw [unhide HN] at KCP
      clear hfew
      go_wp2_with fail
      go_region
      obtain ⟨D, hD⟩ : ∃ D, t.drop k = D := ⟨_, rfl⟩
      rw [hD] at HPP HA HDL
      have HHK : Hid (hasT t p = true → 1 ≤ N - k) := hide (fun hh => by
        obtain ⟨x, hx, _⟩ := (has_get (unhide HT).srt).2 hh
        have h1 := (List.getElem?_eq_some_iff.1 hx).1
        rw [unhide HKK, unhide HNN] at h1
        omega)
      clear hD
      cases hh : hasT t p
      all_goals first
        | (rw [hh, if_neg (by decide)] at HPP
           have HAA := hide (unhide HA)
           have HDD := hide (unhide HDL)
           have HCC := hide (unhide HCA2)
           have HMN : Hid (N - k ≤ 1000) := hide (by have := unhide HNL; omega)
           clear hh HHK HA HDL HCA2
           go_wp2_with fail
           generalize N - k = M at HDD HMN HCC ⊢
           have HKC := hide (fun (W : World) (hb : Below w3.heap.size w3 W) (a5 : Option Addr) (m c5 : Nat) (he : EL W a5 (oneE p l)) (hm : (oneE p l).length = m) => (show Calls Try.prog 45 #[.slice (some ⟨W.heap.size, 0, none⟩) 3 3] (W.alloc (.cells #[.slice a k ca, .slice a5 m c5, .slice A M cA] 22)) (LeftE (W.alloc (.cells #[.slice a k ca, .slice a5 m c5, .slice A M cA] 22)) (putT p l t)) by
             have e := concatE_at W.heap.size a a5 A k m M ca c5 cA (t.take k) (oneE p l) D (unhide HTL) hm (unhide HDD) (by have := unhide HNL; omega) (by have := oneE_len p l; omega) (unhide HMN) _ (VRow.new W 22 [.slice a k ca, .slice a5 m c5, .slice A M cA]) (((unhide HTK).after hb).after (below_alloc' _)) (he.after (below_alloc' _)) (((unhide HAA).after hb).after (below_alloc' _))
             rw [← unhide HPP] at e
             exact e))
           clear HDD HMN HCC HPP HAA HTK HTL)
        | (rw [hh, if_pos rfl] at HPP
           have h1k := unhide HHK hh
           obtain ⟨A2, cA2, s3, hc2, hA2⟩ := sliceE_from A D (N - k) cA 1 (unhide HDL) h1k (unhide HCA2)
           have s4 : ∀ W, (Instr.slice 22 (.slice A (N - k) cA) (some (.int .i64 1)) none none).run Try.prog W = .ok (.slice A2 (N - k - 1) cA2) W := s3
           have HAA := hide (hA2 w3 (unhide HA))
           have HDD : Hid ((D.drop 1).length = N - k - 1) := hide (by rw [List.length_drop, unhide HDL])
           have HCC := hide hc2
           have HMN : Hid (N - k - 1 ≤ 1000) := hide (by have := unhide HNL; omega)
           clear hh HHK HA HDL HCA2 s3 hA2 hc2 h1k
           generalize D.drop 1 = D2 at HAA HDD HPP
           go_wp2_with fail
           generalize N - k - 1 = M at HDD HMN HCC ⊢
           have HKC := hide (fun (W : World) (hb : Below w3.heap.size w3 W) (a5 : Option Addr) (m c5 : Nat) (he : EL W a5 (oneE p l)) (hm : (oneE p l).length = m) => (show Calls Try.prog 45 #[.slice (some ⟨W.heap.size, 0, none⟩) 3 3] (W.alloc (.cells #[.slice a k ca, .slice a5 m c5, .slice A2 M cA2] 22)) (LeftE (W.alloc (.cells #[.slice a k ca, .slice a5 m c5, .slice A2 M cA2] 22)) (putT p l t)) by
             have e := concatE_at W.heap.size a a5 A2 k m M ca c5 cA2 (t.take k) (oneE p l) D2 (unhide HTL) hm (unhide HDD) (by have := unhide HNL; omega) (by have := oneE_len p l; omega) (unhide HMN) _ (VRow.new W 22 [.slice a k ca, .slice a5 m c5, .slice A2 M cA2]) (((unhide HTK).after hb).after (below_alloc' _)) (he.after (below_alloc' _)) (((unhide HAA).after hb).after (below_alloc' _))
             rw [← unhide HPP] at e
             exact e))
           clear HDD HMN HCC HPP HAA HTK HTL)
      all_goals
        refine (unhide KCP w3.drew ((unhide HV3).drewN 1)).mono ?_
        rintro e w4 ⟨r2, c2, rfl, hc2, hs2, hpr2, hb4⟩
        have HB4 := hide (below_grow (below_drew (unhide HB3)) (Nat.le_refl _) hb4)
        have H34 := hide (below_grow (below_drew (Below.refl w3.heap.size w3)) (Nat.le_refl _) hb4)
        have KE := hide (entryOf_any p r2 c2 l hc2 w4 hs2)
        clear hc2 hs2 hpr2 hb4
        go_wp2_with fail
        refine (unhide KE).mono ?_
        rintro e w5 ⟨a5, c5, rfl, hc5, he5, hb5⟩
        have HB5 := hide (below_grow (unhide HB4) (Nat.le_refl _) hb5)
        have H35 := hide (below_grow (unhide H34) (Nat.le_refl _) hb5)
        obtain ⟨m, hm⟩ : ∃ m, (oneE p l).length = m := ⟨_, rfl⟩
        have KCC := hide (unhide HKC w5 (unhide H35) a5 m c5 he5 hm)
        rw [hm]
        clear hc5 he5 hb5 hm KE
        go_wp2_with fail
        refine (unhide KCC).mono ?_
        rintro e w6 ⟨l6, rfl, hoe, hb6⟩
        have HB6 := hide ((unhide HB5).trans (((below_alloc' (w := w5) _).mono (unhide HB5).size).trans (hb6.mono (by have := (unhide HB5).size; simp; omega))))
        obtain ⟨a6, c6, rfl, hc6, he6⟩ := hoe.el
        have HE6 := hide he6
        have HC6 := hide hc6
        clear hoe hb6 hc6 he6 KCC HKC
        obtain ⟨P, hP⟩ : ∃ P, putT p l t = P := ⟨_, rfl⟩
        rw [hP] at HE6 HC6 HLN HR ⊢
        obtain ⟨q, hq⟩ : ∃ q, P.length = q := ⟨_, rfl⟩
        have HQ := hide hq
        rw [hq] at HC6 HLN HR ⊢
        clear hP hq
        have hq129 : q ≤ 129 := by have := unhide HLN; have := unhide HNN; have := unhide HNL; omega
        by_cases h128 : 128 < q
        · have hr := unhide HR
          rw [if_pos h128] at hr
          subst hr
          have hd : decide ((128 : Int) < (q : Int)) = true := decide_eq_true (by omega)
          go_wp2_with fail
          refine bodyPost_ret (results_tmp2 rfl _ _ _) rfl ⟨_, rfl, TrAt.nil _, fun _ => rfl, unhide HB6⟩
        · have hr := unhide HR
          rw [if_neg h128] at hr
          subst hr
          have hd : decide ((128 : Int) < (q : Int)) = false := decide_eq_false (by omega)
          have hd2 : ¬ (128 : Int) < (q : Int) := by omega
          clear h128
          go_wp2_with fail
          have hA := below_alloc' (w := w6) (.cells #[.slice a6 q c6] 63)
          have hcell := (VRow.new w6 63 [.slice a6 q c6]).cell 0 _ rfl
          refine bodyPost_ret (results_tmp2 rfl _ _ _) rfl ⟨_, rfl, .inr ⟨w6.heap.size, a6, c6, rfl, (VRow.new w6 63 [.slice a6 q c6]).lt, ?_, ?_, (unhide HE6).after hA⟩, fun h => absurd rfl h, (unhide HB6).trans (hA.mono (unhide HB6).size)⟩
          · show World.cell? _ _ = some (.slice a6 P.length c6)
            rw [unhide HQ]
            exact hcell
          · show P.length ≤ c6
            rw [unhide HQ]
            exact unhide HC6
end Go.Proofs.Ytpfighkafmammaa

/-
  The tree of entries: what Of answers. Conditions: those that each theorem names.
-/

namespace Go.Proofs.Ytpfighkafmammaa
open Go.RowKit

set_option maxRecDepth 100000 in
set_option maxHeartbeats 1000000 in
theorem treeOf_any (a : Option Addr) (cap : Nat) (l : List En) (ht : Eok l) (w : World) (h : EL w a l) :
    Calls Try.prog 9 #[.slice a l.length cap] w (MadeTr w (ofT l)) := by
  have HS := hide h
  have HT := hide ht
  obtain ⟨n, hn⟩ : ∃ n, l.length = n := ⟨_, rfl⟩
  have HN := hide hn
  have hl : n ≤ 50000 := by rw [← hn]; exact ht.len
  obtain ⟨R, hR⟩ : ∃ R, ofT l = R := ⟨_, rfl⟩
  have HR := hide hR
  rw [hn, hR]
  have HB0 := hide (below_alloc' (w := w) (.cells #[.slice none 0 0] 63))
  have HT0 : Hid (TrAt (w.alloc (.cells #[.slice none 0 0] 63)) (some ⟨w.heap.size, 0, none⟩) []) := hide (.inr ⟨w.heap.size, none, 0, rfl, (VRow.new w 63 [.slice none 0 0]).lt, (VRow.new w 63 [.slice none 0 0]).cell 0 _ rfl, Nat.le_refl _, EL.none _ _⟩)
  clear h ht hn hR
  go_enter Try.func9, Try.ntmps9
  go_wp2_with fail
  go_loopw [4, 13] (fun x i wr => ∃ (k : Nat) (q : Option Addr), k ≤ n ∧ i = .int .i64 k ∧ x = .pointer q ∧ TrAt wr q (ofT (l.take k)).1 ∧ (ofT (l.take k)).2 = 0 ∧ Below w.heap.size w wr) (fun _ i _ => n - (intOf i).toNat)
  case atStart => exact ⟨0, _, Nat.zero_le _, rfl, rfl, unhide HT0, rfl, unhide HB0⟩
  case round =>
    obtain ⟨k, q, hk, rfl, rfl, htr, h0, hb⟩ := hrel
    have HB := hide hb
    have HTR := hide htr
    have HZ0 := hide h0
    have HS1 := hide ((unhide HS).after hb)
    clear hb htr h0
    by_cases hlt : k < n
    · obtain ⟨x, hx⟩ : ∃ x, l[k]? = some x := ⟨_, List.getElem?_eq_getElem (by rw [unhide HN]; exact hlt)⟩
      obtain ⟨g, o, rfl, hg, hcell⟩ := unhide HS1 (by rw [unhide HN]; omega)
      obtain ⟨r, d, x0, x1, h5, h6⟩ := hcell k x hx
      have hm := List.mem_of_getElem? hx
      have HXP := hide ((unhide HT).path x hm)
      have HXF := hide ((unhide HT).few x hm)
      have HST : Hid (ofT (l.take (k + 1)) = setT (ofT (l.take k)).1 x.1 x.2) := hide (by
        rw [ofT_snoc l k x hx]
        unfold ofStep
        rw [if_neg (by rw [unhide HZ0]; decide)])
      have H6 := hide h6
      have HTT := hide (ofT_tr (l.take k))
      clear hx hcell hg hm h5 h6
      go_wp2_with (refine store_row (by rfl) 44 _ _ (by rfl) wr.heap.size (entL x r d) (by rfl) (by rfl) 44 zeroEnL (VRow.newAt rfl) 2 sizeEn rfl rfl (entL_one _ _ _) ?_; intro wz ho hr; have HZ := hide ((below_alloc' (w := wr) (.cells zeroEnL.toArray 44)).trans (ho.below (Nat.le_refl _))); have RZ := hide hr; clear ho hr x0 x1; have z0 := (unhide RZ).cell 0 _ rfl; have z1 := (unhide RZ).cell 1 _ rfl)
      have KS := hide (treeSet_any q (ofT (l.take k)).1 (unhide HTT) x.1 (by have := unhide HXP; omega) r d x.2 (unhide HXF) wz ((unhide HTR).after (unhide HZ)) ((unhide H6).after (unhide HZ)))
      rw [← unhide HST] at KS
      clear HST
      obtain ⟨S, hS⟩ : ∃ S, ofT (l.take (k + 1)) = S := ⟨_, rfl⟩
      have HSS := hide hS
      rw [hS] at KS
      clear hS
      refine (unhide KS).mono ?_
      rintro e w2 ⟨q2, rfl, ht2, hq2, hb2⟩
      have HT2 := hide ht2
      have HB2 := hide (below_grow (unhide HB) (Nat.le_refl _) (below_grow (unhide HZ) (Nat.le_refl _) hb2))
      clear ht2 hq2 hb2 z0 z1 KS
      by_cases hE : S.2 = 0
      · have hE2 : (S.2 == 0) = true := beq_iff_eq.2 hE
        go_wp2_with fail
        go_roundw
        case rel => exact ⟨k + 1, q2, by omega, by go_num, rfl, by rw [unhide HSS]; exact unhide HT2, by rw [unhide HSS]; exact hE, unhide HB2⟩
        case measure => simp [intOf]; omega
      · have hE2 : (S.2 == 0) = false := beq_eq_false_iff_ne.2 hE
        have hre : R = S := by
          have h1 := ofT_early l (k + 1) (by rw [unhide HSS]; exact hE)
          rw [unhide HR, unhide HSS] at h1
          exact h1
        have hs1 : S.1 = [] := by
          have h1 := ofT_bad (l := l.take (k + 1)) (by rw [unhide HSS]; exact hE)
          rw [unhide HSS] at h1
          exact h1
        subst hre
        have HS1' := hide hs1
        clear hs1
        go_wp2_with fail
        refine bodyPost_ret (results_tmp2 rfl _ _ _) rfl ⟨_, rfl, ?_, fun _ => rfl, unhide HB2⟩
        rw [unhide HS1']
        exact TrAt.nil _
    · obtain rfl : k = n := by omega
      have he : l.take k = l := List.take_of_length_le (by rw [unhide HN]; exact Nat.le_refl _)
      rw [he, unhide HR] at HTR HZ0
      have hz := unhide HZ0
      clear he
      go_wp2_with fail
      refine bodyPost_ret (results_tmp2 rfl _ _ _) rfl ⟨_, ?_, unhide HTR, fun h => absurd hz h, unhide HB⟩
      rw [hz]
      rfl
end Go.Proofs.Ytpfighkafmammaa

/-
  Entries copied, with where their leaves lie: what Entries answers. Conditions: those that each theorem names.
-/

namespace Go.Proofs.Ytpfighkafmammaa
open Go.RowKit

theorem Prov.imp16 {O O' : Nat → Prop} {W : World} {r : Option Addr} {vs : List Vc.V} (h : Prov O W r vs) (hO : ∀ g, O g → O' g) : Prov O' W r vs := fun h0 g o e => by
  obtain ⟨h1, h2⟩ := h h0 g o e
  exact ⟨hO g h1, fun j v r' c' hj hc ad ead h3 => hO _ (h2 j v r' c' hj hc ad ead h3)⟩
/-- A set of blocks, but a row's own. -/
def Of (O : Nat → Prop) (row : Option Nat) : Nat → Prop := fun g => O g ∧ Off row g
theorem Prov.off16 {O : Nat → Prop} {row : Option Nat} {W : World} {r : Option Addr} {vs : List Vc.V} (h : Prov (Of O row) W r vs) : Prov (Off row) W r vs := h.imp16 fun _ h => h.2
theorem prov_grownO {O O' : Nat → Prop} {w w' : World} {row : Option Nat} {r : Option Addr} {vs : List Vc.V} (h : SV w r vs) (hp : Prov (Of O row) w r vs) (hg : w.grownBy w' row) (hO : ∀ g, g < w.heap.size → Of O row g → O' g) : Prov O' w' r vs := fun h0 g o e => by
  obtain ⟨g', o', e', hlt, hc⟩ := h h0
  rw [e] at e'
  injection e' with e'
  injection e' with e1 e2
  subst e1
  subst e2
  obtain ⟨h1, h2⟩ := hp h0 g o e
  have hk : ∀ k, w'.cell? ⟨g, k, none⟩ = w.cell? ⟨g, k, none⟩ := fun k => World.cell?_of_block (hg.block g hlt h1.2)
  refine ⟨hO g hlt h1, fun j v r' c' hj hcell ad ead h3 => ?_⟩
  rw [hk] at hcell
  have h4 := h2 j v r' c' hj hcell ad ead h3
  refine hO _ ?_ h4
  obtain ⟨r2, c2, _, _, x2, _, _, _, x6⟩ := hc j v hj
  rw [hcell] at x2
  injection x2 with x2
  injection x2 with x2 _ _
  subst x2
  obtain ⟨g2, o2, e2, hg2, _⟩ := x6 h3
  rw [ead] at e2
  injection e2 with e2
  subst e2
  exact hg2
structure OEO (O : Nat → Prop) (W : World) (base : Nat) (l : Value) (es : List En) : Prop where
  is : ∃ ps : List EP, ps.map (·.1) = es ∧ W.ownsRow base 44 2 l ps.length (flatE ps) ∧ ∀ x ∈ ps, x.1.2.length ≤ x.2.2 ∧ SV W x.2.1 x.1.2 ∧ Prov (Of O l.ownBlock) W x.2.1 x.1.2
theorem OEO.nil (O : Nat → Prop) (W : World) (base : Nat) : OEO O W base (.slice none 0 0) [] := ⟨[], rfl, World.ownsRow_nil _ _ _ _, fun _ h => by cases h⟩
theorem OEO.toOE {O : Nat → Prop} {W : World} {base : Nat} {l : Value} {es : List En} (h : OEO O W base l es) : OE W base l es := by
  obtain ⟨ps, h1, h2, h3⟩ := h.is
  exact ⟨ps, h1, h2, fun x hx => ⟨(h3 x hx).1, (h3 x hx).2.1, (h3 x hx).2.2.off16⟩⟩
theorem OEO.after {O : Nat → Prop} {W W' : World} {base : Nat} {l : Value} {es : List En} (h : OEO O W base l es) (hb : Below W.heap.size W W') : OEO O W' base l es := by
  obtain ⟨ps, h1, h2, h3⟩ := h.is
  refine ⟨ps, h1, ?_, fun x hx => ⟨(h3 x hx).1, (h3 x hx).2.1.after hb, (h3 x hx).2.2.after (h3 x hx).2.1 hb⟩⟩
  refine ⟨h2.1, ?_⟩
  rcases h2.2 with h2 | ⟨g, cap, cur, e1, e2, e3, e4⟩
  · exact .inl h2
  · exact .inr ⟨g, cap, cur, e1, e2, (hb.block g (Array.getElem?_eq_some_iff.1 e3).1).trans e3, e4⟩
theorem OEO.lit (O : Nat → Prop) (W : World) : OEO O (W.alloc (.cells #[] 44)) W.heap.size (.slice (some ⟨W.heap.size, 0, none⟩) 0 0) [] :=
  ⟨[], rfl, World.ownsRow_lit (base := W.heap.size) (e := 44) (size := 2) W #[] 0 (Nat.le_refl _) (by unfold maxLen; omega) rfl, fun _ h => by cases h⟩

def ELO (O : Nat → Prop) (W : World) (a : Option Addr) (es : List En) : Prop :=
  0 < es.length → ∃ g o, a = some ⟨g, o, none⟩ ∧ ∃ ps : List EP, ps.map (·.1) = es ∧ (∀ j u, (flatE ps)[j]? = some u → W.cell? ⟨g, o + j, none⟩ = some u) ∧ ∀ x ∈ ps, x.1.2.length ≤ x.2.2 ∧ SV W x.2.1 x.1.2 ∧ Prov O W x.2.1 x.1.2
theorem EL.elo {W : World} {a : Option Addr} {es : List En} (h : EL W a es) {O : Nat → Prop} (hO : ∀ g, g < W.heap.size → O g) {W' : World} (hb : Below W.heap.size W W') : ELO O W' a es := fun h0 => by
  obtain ⟨g, o, e, hg, hc⟩ := h h0
  obtain ⟨ps, e1, e2, e3⟩ := el_list es o hc
  refine ⟨g, o, e, ps, e1, fun j u hu => (hb.cell (p := ⟨g, o + j, Option.none⟩) hg).trans (e2 j u hu), fun x hx => ⟨(e3 x hx).1, ?_⟩⟩
  have hs := (e3 x hx).2
  exact ⟨hs.after hb, (hs.prov (O := O) fun g' hg' => hO g' hg').after hs hb⟩
/-- Entries appended to a row of the call's own. -/
theorem append_elO (O : Nat → Prop) {w : World} {ops : Array Oper} {rest : List Oper} {o : Oper} {a : Act} {Q : Exit → Act → World → Prop} (hgd : o.guard = none) (s x : Operand)
    (ho : o.op = .call { callee := .builtin .append, args := #[s, x], argTypes := #[22, 22] }) (base : Nat) (v : Value) (es : List En) (hs : a.eval s = v) (hown : OEO O w base v es)
    (r : Option Addr) (m c : Nat) (ys : List En) (hm : ys.length = m) (hx : a.eval x = .slice r m c) (hel : ELO (Of O v.ownBlock) w r ys) (hn : es.length + ys.length ≤ 150000) (hbase : base ≤ w.heap.size)
    (h : ∀ v' w', OEO O w' base v' (es ++ ys) → Below base w w' → w.grownBy w' v.ownBlock → wpList Try.prog ops Q rest (a.put o.dst v') w') : wpList Try.prog ops Q (o :: rest) a w := by
  subst hm
  obtain ⟨i0, hi, hz0, hz1, hz2⟩ := info_parts infoEn
  obtain ⟨ps, e1, e2, e3⟩ := hown.is
  subst e1
  rw [List.length_map] at hn
  cases r with
  | none =>
    have hxs : ys = [] := by
      cases ys with
      | nil => rfl
      | cons d l => obtain ⟨g, o, e, _⟩ := hel (by simp); cases e
    subst hxs
    refine wpList_plain hgd fun K hK => ?_
    have hrun := run_append_noneE (w := w) base 22 o.type 44 i0 2 Try.underlying22 hi v ps.length (flatE ps) e2 c
    unfold Oper.wp
    simp only [List.length_nil] at hx
    simp [execOp, ho, resolve, invoke, builtin, hs, hx, hrun, Result.andThen]
    refine hK _ _ (h v w ?_ (Below.refl _ _) ⟨rfl, rfl, rfl, Nat.le_refl _, fun _ _ _ => rfl⟩)
    rw [List.append_nil]
    exact hown
  | some ad =>
    have hps : ∃ qs : List EP, qs.map (·.1) = ys ∧ (∀ j u, (flatE qs)[j]? = some u → w.cell? (ad.add j) = some u) ∧ ∀ x ∈ qs, x.1.2.length ≤ x.2.2 ∧ SV w x.2.1 x.1.2 ∧ Prov (Of O v.ownBlock) w x.2.1 x.1.2 := by
      cases ys with
      | nil => exact ⟨[], rfl, fun j u hu => by simp [flatE] at hu, fun _ h => by cases h⟩
      | cons d l =>
        obtain ⟨g, o, e, qs, h1, h2, h3⟩ := hel (by simp)
        injection e with e
        subst e
        refine ⟨qs, h1, fun j u hu => ?_, h3⟩
        rw [show (⟨g, o, none⟩ : Addr).add j = ⟨g, o + j, none⟩ by unfold Addr.add; split <;> simp_all]
        exact h2 j u hu
    obtain ⟨qs, h1, h2, h3⟩ := hps
    subst h1
    rw [List.length_map] at hn hx
    refine wpList_append_own_at w hgd s x 22 ho base 44 i0 _ 2 40 Try.underlying22 hi hz0 hz1 hz2 rfl (by decide) v ps.length (flatE ps) hs e2 ad qs.length c (flatE qs) hx (flatE_len qs) h2 (flatE_one qs) (by unfold maxLen; omega) (by omega) hbase ?_
    intro v' w' g1 g2 _ g4
    have hO : ∀ g, g < w.heap.size → Of O v.ownBlock g → Of O v'.ownBlock g := fun g hg h1 => by
      refine ⟨h1.1, ?_⟩
      replace h1 := h1.2
      rcases g4 with e | e
      · rw [e]; exact h1
      · rw [e]
        intro e2
        injection e2 with e2
        have : g = w.heap.size := e2
        omega
    refine h v' w' ⟨ps ++ qs, by rw [List.map_append], by rw [List.length_append, flatE_append]; exact g1, fun x hx => ?_⟩ (grown_below e2 g2 hbase) g2
    rcases List.mem_append.1 hx with hx | hx
    · exact ⟨(e3 x hx).1, sv_grown (e3 x hx).2.1 (e3 x hx).2.2.off16 g2, prov_grownO (e3 x hx).2.1 (e3 x hx).2.2 g2 hO⟩
    · exact ⟨(h3 x hx).1, sv_grown (h3 x hx).2.1 (h3 x hx).2.2.off16 g2, prov_grownO (h3 x hx).2.1 (h3 x hx).2.2 g2 hO⟩
theorem OEO.setLeaf {O : Nat → Prop} {W : World} {base g cap n : Nat} {es : List En} {i : Nat} {x : En} {r : Option Addr} {c : Nat} (h : OEO O W base (.slice (some ⟨g, 0, none⟩) n cap) es) (hn : es.length = n) (hv : es[i]? = some x) (hc : x.2.length ≤ c) (hs : SV W r x.2) (ha : Prov (Of O (some g)) W r x.2) :
    OEO O (W.setCell ⟨g, i * 2 + 1, none⟩ (.slice r x.2.length c)) base (.slice (some ⟨g, 0, none⟩) n cap) es ∧ W.frozen? ⟨g, i * 2 + 1, none⟩ = false ∧ (∃ old, W.cell? ⟨g, i * 2 + 1, none⟩ = some old) ∧ base ≤ g := by
  obtain ⟨ps, h1, h2, h3⟩ := h.is
  have hpl : ps.length = n := by rw [← hn, ← h1, List.length_map]
  have hil : i < ps.length := by rw [hpl, ← hn]; exact (List.getElem?_eq_some_iff.1 hv).1
  obtain ⟨y, hy⟩ : ∃ y, ps[i]? = some y := ⟨_, List.getElem?_eq_getElem hil⟩
  have hxv : y.1 = x := by
    rw [← h1, List.getElem?_map, hy] at hv
    injection hv
  rw [hpl] at h2
  obtain ⟨k1, k2, k3, k4, _⟩ := ownsRow_set (u := .slice r x.2.length c) (k := i * 2 + 1) h2 (by rw [flatE_len]; omega)
  rw [flatE_set x r c ps i y hy hxv] at k1
  have hg := grownBy_set W g (i * 2 + 1) (.slice r x.2.length c)
  refine ⟨⟨ps.set i (x, r, c), ?_, ?_, fun z hz => ?_⟩, k2, k3, k4⟩
  · rw [map_set_same hy hxv.symm, h1]
  · rw [List.length_set, hpl]
    exact k1
  · rcases List.mem_or_eq_of_mem_set hz with hz | rfl
    · exact ⟨(h3 z hz).1, sv_grown (h3 z hz).2.1 (h3 z hz).2.2.off16 hg, prov_grownO (h3 z hz).2.1 (h3 z hz).2.2 hg (fun _ _ h => h)⟩
    · exact ⟨hc, sv_grown hs ha.off16 hg, prov_grownO hs ha hg (fun _ _ h => h)⟩

set_option maxRecDepth 100000 in
set_option maxHeartbeats 400000 in
theorem cloneEO_any (O : Nat → Prop) (a : Option Addr) (cap : Nat) (es : List En) (hl : es.length ≤ 100000) (W0 w : World) (hO : ∀ g, g < W0.heap.size → O g) (h : EL W0 a es) (h0w : Below W0.heap.size W0 w) : Calls Try.prog 72 #[.slice a es.length cap] w fun e w' => ∃ l, e = .returned l ∧ OEO O w' w.heap.size l es ∧ Below w.heap.size w w' := by
  have HS := hide h
  have H0W := hide h0w
  have HOO := hide hO
  have HL := hide hl
  have q25 : ∀ (w : World) (a : Option Addr) (n c n' c' : Nat), (binOp .eql 22 (.slice a n c) (.slice none n' c')).run Try.prog w = .ok (.bool a.isNone) w := fun w a n c n' c' => Lib.run_eql_slice_nil w _ _ a n c n' c' Try.underlying22
  clear h hl h0w hO
  cases a with
  | none =>
    have hxs : es = [] := by
      cases es with
      | nil => rfl
      | cons d l => obtain ⟨g, o, e, _⟩ := unhide HS (by simp); cases e
    subst hxs
    go_enter Try.func72, Try.ntmps72
    go_wp2_with fail
    go_ret
    exact ⟨_, rfl, OEO.nil _ _ _, Below.refl _ _⟩
  | some ad =>
    have HB := hide (below_alloc' (w := w) (.cells #[] 44))
    have HO := hide (OEO.lit O w)
    have HV := hide ((unhide HS).elo (O := Of O (some w.heap.size)) (fun g hg => ⟨unhide HOO g hg, fun e => by injection e with e; have := (unhide H0W).size; omega⟩) (below_grow (unhide H0W) (Nat.le_refl _) (unhide HB)))
    go_enter Try.func72, Try.ntmps72
    go_wp2_with (at_builtin; refine append_elO O (by rfl) _ _ (by rfl) w.heap.size _ [] (by rfl) (unhide HO) _ _ _ es rfl (by rfl) (unhide HV) (by have := unhide HL; simp; omega) (by simp) ?_; intro v' w2 hown' hb2 _; have HB2 := hide ((unhide HB).trans hb2); have HO2 := hide hown'; clear hb2 hown')
    rw [List.nil_append] at HO2
    go_wp2_with fail
    go_ret
    exact ⟨_, rfl, unhide HO2, unhide HB2⟩

/-- Entries made in a row that is new, and where their leaves lie. -/
def MadeO (O : Nat → Prop) (w : World) (es : List En) (e : Ending) (w' : World) : Prop := ∃ a c, e = .returned (.slice a es.length c) ∧ es.length ≤ c ∧ Below w.heap.size w w' ∧
  (0 < es.length → ∃ g, a = some ⟨g, 0, none⟩ ∧ w.heap.size ≤ g ∧ g < w'.heap.size ∧ ∃ ps : List EP, ps.map (·.1) = es ∧ (∀ j u, (flatE ps)[j]? = some u → w'.cell? ⟨g, j, none⟩ = some u) ∧ ∀ x ∈ ps, x.1.2.length ≤ x.2.2 ∧ SV w' x.2.1 x.1.2 ∧ Prov O w' x.2.1 x.1.2)
theorem OEO.made {O : Nat → Prop} {W : World} {base : Nat} {r : Option Addr} {n c : Nat} {es : List En} (h : OEO O W base (.slice r n c) es) (h0 : 0 < es.length) :
    ∃ g, r = some ⟨g, 0, none⟩ ∧ base ≤ g ∧ g < W.heap.size ∧ ∃ ps : List EP, ps.map (·.1) = es ∧ (∀ j u, (flatE ps)[j]? = some u → W.cell? ⟨g, j, none⟩ = some u) ∧ ∀ x ∈ ps, x.1.2.length ≤ x.2.2 ∧ SV W x.2.1 x.1.2 ∧ Prov O W x.2.1 x.1.2 := by
  obtain ⟨ps, h1, h2, h3⟩ := h.is
  rcases h2.2 with ⟨e1, e2⟩ | ⟨g, cap, cur, e1, hg, hh, c1, c2, c3, c4⟩
  · have : ps = [] := List.eq_nil_of_length_eq_zero e2
    subst this
    subst h1
    simp at h0
  · simp only [Value.slice.injEq] at e1
    obtain ⟨rfl, _, _⟩ := e1
    refine ⟨g, rfl, hg, (Array.getElem?_eq_some_iff.1 hh).1, ps, h1, fun j u hu => ?_, fun x hx => ⟨(h3 x hx).1, (h3 x hx).2.1, (h3 x hx).2.2.imp16 fun _ h => h.1⟩⟩
    have hj : j < (flatE ps).length := (List.getElem?_eq_some_iff.1 hu).1
    rw [flatE_len] at hj
    rw [cell_of_row W g j cur 44 (0, 0) hh]
    have h5 : (cur.toList.take (ps.length * 2))[j]? = (flatE ps)[j]? := by rw [c4]
    rw [List.getElem?_take_of_lt hj, hu] at h5
    simpa using h5

set_option maxRecDepth 100000 in
set_option maxHeartbeats 400000 in
theorem allO_any (p : Option Addr) (t : List En) (W0 w : World) (h : TrAt W0 p t) (hb : Below W0.heap.size W0 w) :
    Calls Try.prog 43 #[.pointer p] w fun e w' => ∃ a c, e = .returned (.slice a t.length c) ∧ t.length ≤ c ∧ EL W0 a t ∧ w' = w := by
  rcases h with ⟨rfl, rfl⟩ | ⟨g, a, c, rfl, h2, h3, h4, h5⟩
  · go_enter Try.func43, Try.ntmps43
    go_wp2_with fail
    go_ret
    exact ⟨none, 0, rfl, Nat.le_refl _, EL.none _ _, rfl⟩
  · have HC := hide h4
    have HE := hide h5
    replace h3 := (hb.cell (p := ⟨g, 0, none⟩) h2).trans h3
    obtain ⟨n, hn⟩ : ∃ n, t.length = n := ⟨_, rfl⟩
    rw [hn] at h3 HC ⊢
    clear h4 h5 hn hb
    go_enter Try.func43, Try.ntmps43
    go_wp2_with fail
    go_ret
    exact ⟨a, c, rfl, unhide HC, unhide HE, rfl⟩

set_option maxRecDepth 100000 in
set_option maxHeartbeats 1000000 in
theorem entriesO_any (O : Nat → Prop) (p : Option Addr) (t : List En) (ht : t.length ≤ 1000) (hf : ∀ x ∈ t, x.2.length ≤ 100000 ∧ ∀ v ∈ x.2, v.past.length ≤ 100000) (W0 w : World) (hO : ∀ g, g < W0.heap.size ∨ w.heap.size ≤ g → O g) (h : TrAt W0 p t) (h0w : Below W0.heap.size W0 w) :
    Calls Try.prog 53 #[.pointer p] w (MadeO O w t) := by
  have HF := hide hf
  have K := hide (allO_any p t W0 w h h0w)
  have H0W := hide h0w
  have HOO := hide hO
  clear h hf h0w hO
  go_enter Try.func53, Try.ntmps53
  go_wp2_with fail
  refine (unhide K).mono ?_
  rintro e w0 ⟨a, c0, rfl, hc0, hel, hw⟩
  have hw' := hw.symm
  subst hw'
  have K2 := hide (cloneEO_any O a c0 t (by omega) W0 w (fun g hg => unhide HOO g (.inl hg)) hel (unhide H0W))
  clear hel hw hc0 K
  go_wp2_with fail
  refine (unhide K2).mono ?_
  rintro e w1 ⟨l, rfl, hov, hb1⟩
  have HOV := hide hov
  have HB1 := hide hb1
  obtain ⟨r, c, rfl, hc, hsv0⟩ := hov.toOE.el
  clear hb1 hov hsv0
  obtain ⟨n, hn⟩ : ∃ n, t.length = n := ⟨_, rfl⟩
  have HN := hide hn
  rw [hn] at ht hc HOV ⊢
  clear K2 hn
  go_wp2_with fail
  go_loopw [11] (fun i wr => ∃ k : Nat, k ≤ n ∧ i = .int .i64 k ∧ OEO O wr w.heap.size (.slice r n c) t ∧ Below w.heap.size w wr) (fun i _ => n - (intOf i).toNat)
  case atStart => exact ⟨0, Nat.zero_le _, rfl, unhide HOV, unhide HB1⟩
  case round =>
    obtain ⟨k, hk, rfl, hov, hbw⟩ := hrel
    have HO := hide hov
    have HBW := hide hbw
    by_cases hlt : k < n
    · obtain ⟨v, hv⟩ : ∃ v, t[k]? = some v := ⟨_, List.getElem?_eq_getElem (by rw [unhide HN]; exact hlt)⟩
      obtain ⟨a', c', e', hc', hsv⟩ := hov.toOE.el
      simp only [Value.slice.injEq] at e'
      obtain ⟨rfl, hnn, rfl⟩ := e'
      clear hnn
      obtain ⟨g, o, e2, hg, hcell⟩ := hsv (by rw [unhide HN]; omega)
      have ho0 : o = 0 := by
        obtain ⟨ps, _, h2, _⟩ := hov.is
        rcases h2.2 with ⟨e3, _⟩ | ⟨g', cap', cur, e3, _⟩
        · rw [e2] at e3; cases e3
        · rw [e2] at e3
          simp only [Value.slice.injEq, Option.some.injEq, Addr.mk.injEq, and_true] at e3
          exact e3.1.2
      subst e2
      have HH0 := hide ho0
      obtain ⟨q, d, x0, x1, h5, h6⟩ := hcell k v hv
      have HPR : Hid (Prov (Of O (some g)) wr q v.2) := hide (by
        obtain ⟨ps, h1, h2, h3⟩ := hov.is
        have hil : k < ps.length := by rw [← List.length_map (f := fun x : EP => x.1), h1, unhide HN]; exact hlt
        obtain ⟨x, hx⟩ : ∃ x, ps[k]? = some x := ⟨_, List.getElem?_eq_getElem hil⟩
        have hxv : x.1 = v := by
          rw [← h1, List.getElem?_map, hx] at hv
          injection hv
        have h4 := (h3 x (List.mem_of_getElem? hx)).2.2
        rcases h2.2 with ⟨e3, _⟩ | ⟨g', cap', cur, e3, _, hh, _, _, _, c4⟩
        · cases e3
        · simp only [Value.slice.injEq, Option.some.injEq, Addr.mk.injEq, and_true] at e3
          obtain ⟨⟨rfl, rfl⟩, _, _⟩ := e3
          have hcx : wr.cell? ⟨g, 0 + k * 2 + 1, none⟩ = some (.slice x.2.1 x.1.2.length x.2.2) := by
            rw [cell_of_row wr g _ cur 44 (0, 0) hh]
            have h7 : (cur.toList.take (ps.length * 2))[k * 2 + 1]? = (flatE ps)[k * 2 + 1]? := by rw [c4]
            rw [List.getElem?_take_of_lt (by omega), flatE_get ps k x hx 1 _ rfl] at h7
            rw [show 0 + k * 2 + 1 = k * 2 + 1 by omega]
            simpa using h7
          rw [x1] at hcx
          injection hcx with hcx
          injection hcx with e4 e5 e6
          rw [e4, ← hxv]
          exact h4)
      have HV := hide hv
      have H6 := hide h6
      have HG := hide hg
      have HFV := hide (unhide HF v (List.mem_of_getElem? hv))
      clear hcell hsv hov hbw hv h5 h6 hg hc' ho0
      go_wp2_with (refine store_row (by rfl) 44 _ _ (by rfl) wr.heap.size (entL v q d) (by rfl) (by rfl) 44 zeroEnL (VRow.newAt rfl) 2 sizeEn rfl rfl (entL_one _ _ _) ?_; intro wz ho hr; have HZ := hide ((below_alloc' (w := wr) (.cells zeroEnL.toArray 44)).trans (ho.below (Nat.le_refl _))); have RZ := hide hr; clear ho hr x0 x1; have z1 := (unhide RZ).cell 1 _ rfl)
      have hg2 : g < wz.heap.size := Nat.lt_of_lt_of_le (unhide HG) (unhide HZ).size
      have HK := hide (copy_any (Of O (some g)) q d v.2 (unhide HFV).1 (unhide HFV).2 wz (fun j hj => ⟨unhide HOO j (.inr (by have h1 := (unhide HBW).size; have h2 := (unhide HZ).size; omega)), fun e => by injection e with e; omega⟩) ((unhide H6).after (unhide HZ)) ((unhide HPR).after (unhide H6) (unhide HZ)))
      clear hg2
      refine (unhide HK).mono ?_
      rintro e wc ⟨r3, c3, rfl, hc3, hs3, hp3, hb3⟩
      have HS3 := hide hs3
      have HP3 := hide hp3
      have HC3 := hide hc3
      have HZC := hide (below_grow (unhide HZ) (Nat.le_refl _) hb3)
      have HOC := hide ((unhide HO).after (unhide HZC))
      clear hs3 hp3 hc3 hb3 z1 HK
      have ho0 := unhide HH0
      subst ho0
      obtain ⟨k1, k2, ⟨old, k3⟩, k4⟩ := (unhide HOC).setLeaf (i := k) (x := v) (r := r3) (c := c3) (unhide HN) (unhide HV) (unhide HC3) (unhide HS3) (unhide HP3)
      have HK1 := hide k1
      have HK4 := hide k4
      have f2 : wc.frozen? ⟨g, 0 + k * 2 + 1, none⟩ = false := by rw [Nat.zero_add]; exact k2
      have y2 : wc.cell? ⟨g, 0 + k * 2 + 1, none⟩ = some old := by rw [Nat.zero_add]; exact k3
      have e0 : 0 + k * 2 + 1 = k * 2 + 1 := by omega
      clear k1 k4
      go_wp2_with fail
      go_roundw
      case rel => exact ⟨k + 1, by omega, by go_num, unhide HK1, (below_set (below_grow (unhide HBW) (Nat.le_refl _) (unhide HZC)) (unhide HK4) (k * 2 + 1) _)⟩
      case measure => simp [intOf]; omega
    · obtain rfl : k = n := by omega
      have HOF := hide hov
      clear hov hbw
      go_wp2_with fail
      go_ret
      rw [← unhide HN] at hc ⊢
      exact ⟨_, _, rfl, hc, unhide HBW, fun h0 => (unhide HOF).made h0⟩
end Go.Proofs.Ytpfighkafmammaa

/-
  What Under answers: whether a path is below a directory.
-/

namespace Go.Proofs.Ytpfighkafmammaa.Pth
open Go.RowKit

theorem pre_iff (d s : List UInt8) : (d ++ [47]).isPrefixOf s = (d.isPrefixOf s && [47].isPrefixOf (s.drop d.length)) := by
  rw [Bool.eq_iff_iff, Bool.and_eq_true, List.isPrefixOf_iff_prefix, List.isPrefixOf_iff_prefix, List.isPrefixOf_iff_prefix]
  constructor
  · rintro ⟨t, rfl⟩
    exact ⟨⟨47 :: t, by simp⟩, ⟨t, by simp⟩⟩
  · rintro ⟨⟨t, rfl⟩, ⟨r, hr⟩⟩
    rw [List.drop_left] at hr
    exact ⟨r, by rw [← hr]; simp⟩

theorem empty_iff (d : ByteArray) : d.toList.isEmpty = true ↔ d.data.toList = [] := by rw [Lib.toList_data, List.isEmpty_iff]

end Go.Proofs.Ytpfighkafmammaa.Pth

/-
  What Under answers: whether a path is below a directory.
-/

namespace Go.Proofs.Ytpfighkafmammaa.Pth
open Go.RowKit

set_option maxRecDepth 100000 in
set_option maxHeartbeats 1000000 in
theorem under_any (s d : ByteArray) (hs : s.size ≤ 100000) (w : World) :
    Calls Try.prog 54 #[.string s, .string d] w fun e w' => e = .returned (.bool (Pt.under s.data.toList d.data.toList)) ∧ Below w.heap.size w w' := by
  have HP := hide (isPath_any s hs)
  unfold Pt.under
  cases he : d.toList.isEmpty with
  | true =>
    rw [if_pos ((empty_iff d).1 he)]
    generalize Pt.isPath s.data.toList = P at *
    go_enter Try.func54, Try.ntmps54
    go_wp2_with (go_at_call 59; refine (unhide HP _).mono ?_; rintro e w1 ⟨rfl, hb1⟩; have HB1 := hide hb1; clear hb1)
    go_ret
    exact ⟨rfl, unhide HB1⟩
  | false =>
    have hne : ¬ d.data.toList = [] := fun h => by rw [(empty_iff d).2 h] at he; cases he
    rw [if_neg hne, pre_iff, Bool.decide_eq_true]
    have H1 := hide (Try.strings_CutPrefix s d)
    unfold Lib.trimPrefix at H1
    have e1 : Lib.hasPrefix s.data.toList d.data.toList = d.data.toList.isPrefixOf s.data.toList := rfl
    rw [e1] at H1
    cases hb : d.data.toList.isPrefixOf s.data.toList with
    | false =>
      rw [hb] at H1
      rw [Bool.false_and, Bool.false_and]
      clear hb e1 hne
      generalize (⟨(if false = true then s.data.toList.drop d.data.toList.length else s.data.toList).toArray⟩ : ByteArray) = R at H1
      go_enter Try.func54, Try.ntmps54
      go_wp2_with fail
      refine (unhide H1 _).mono ?_
      rintro e w1 ⟨rfl, rfl⟩
      go_wp2_with fail
      go_ret
      exact ⟨rfl, Below.refl _ _⟩
    | true =>
      rw [hb, if_pos rfl] at H1
      rw [Bool.true_and]
      obtain ⟨R, hR⟩ : ∃ R : ByteArray, R = ⟨(s.data.toList.drop d.data.toList.length).toArray⟩ := ⟨_, rfl⟩
      have H2 := hide (Try.strings_HasPrefix R ⟨#[47]⟩)
      have e2 : Lib.hasPrefix R.data.toList [47] = [47].isPrefixOf (s.data.toList.drop d.data.toList.length) := by rw [hR]; rfl
      have e3 : (⟨#[47]⟩ : ByteArray).data.toList = [47] := rfl
      rw [e3, e2] at H2
      rw [← hR] at H1
      generalize [47].isPrefixOf (s.data.toList.drop d.data.toList.length) = B at H2
      generalize Pt.isPath s.data.toList = P at HP
      clear hb e1 hne hR e2 e3
      cases B with
      | false =>
        rw [Bool.false_and]
        go_enter Try.func54, Try.ntmps54
        go_wp2_with fail
        refine (unhide H1 _).mono ?_
        rintro e w1 ⟨rfl, rfl⟩
        go_wp2_with (go_at_call 74; refine (unhide H2 _).mono ?_; rintro e w1 ⟨rfl, rfl⟩)
        go_ret
        exact ⟨rfl, Below.refl _ _⟩
      | true =>
        rw [Bool.true_and]
        go_enter Try.func54, Try.ntmps54
        go_wp2_with fail
        refine (unhide H1 _).mono ?_
        rintro e w1 ⟨rfl, rfl⟩
        go_wp2_with (first
          | (go_at_call 74; refine (unhide H2 _).mono ?_; rintro e w1 ⟨rfl, rfl⟩)
          | (go_at_call 59; refine (unhide HP _).mono ?_; rintro e w1 ⟨rfl, hb1⟩; have HB1 := hide hb1; clear hb1))
        go_ret
        exact ⟨rfl, unhide HB1⟩
end Go.Proofs.Ytpfighkafmammaa.Pth
