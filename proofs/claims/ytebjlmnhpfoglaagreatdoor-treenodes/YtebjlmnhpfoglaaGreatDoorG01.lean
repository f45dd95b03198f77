/-
  Whether two kids are the same, as a comparison of structs. Conditions: a digest has 32 bytes.
-/
import Derived.Test.YtebjlmnhpfoglaaGreatDoorB17
import Derived.Stop.BytesEq
import Derived.BigQuiet
import Derived.Test.YtebjlmnhpfoglaaGreatDoorB09
import Derived.Test.YtebjlmnhpfoglaaGreatDoorB10
import Derived.Lib.QuietBelow
import Derived.Test.YtebjlmnhpfoglaaGreatDoorB25
namespace Go.Proofs.YtebjlmnhpfoglaaGreatDoor
open Go.RowKit

theorem eq_dig (U V : List UInt8) (hU : U.length = 32) (hV : V.length = 32) (w : World) : (Op.equalIn 9999 46 (.agg (U.map byteVal).toArray) (.agg (V.map byteVal).toArray)).run Tryz.prog w = .ok (U == V) w :=
  run_equalIn_bytes (P := Tryz.prog) w 9997 46 5 32 Tryz.underlying46 Tryz.underlying5 (fun w => Tryz.sizeOf5 w) U V hU hV
theorem part_name (k : Kd) (w : World) : (part 9 (kL k).toArray 0).run Tryz.prog w = .ok (.string k.1) w := by
  simp [part, isAgg, run_underlying Tryz.underlying9, kL]
theorem part_dig (k : Kd) (hd : k.2.length = 32) (w : World) : (part 46 (kL k).toArray 1).run Tryz.prog w = .ok (.agg (k.2.map byteVal).toArray) w := by
  have e : (kL k).toArray.extract 1 33 = (k.2.map byteVal).toArray := by
    simp [kL, List.extract]
    exact List.take_of_length_le (by simp [hd])
  simp only [part, isAgg, Sem.run_bind, run_underlying Tryz.underlying46, Result.andThen_ok, Sem.run_pure, if_true, Tryz.sizeOf46 w]
  rw [show 1 + 32 = 33 from rfl, e]
def sameK (x y : Kd) : Bool := (x.1.toList == y.1.toList) && (x.2 == y.2)
theorem sameK_iff (x y : Kd) : sameK x y = true ↔ x = y := by
  unfold sameK
  rw [Bool.and_eq_true, beq_iff_eq, beq_iff_eq, Lib.toList_data, Lib.toList_data]
  constructor
  · rintro ⟨h1, h2⟩
    exact Prod.ext (data_inj _ _ h1) h2
  · rintro rfl
    exact ⟨rfl, rfl⟩
theorem eqK (x y : Kd) (hx : x.2.length = 32) (hy : y.2.length = 32) (w : World) : (Op.equalIn 10000 86 (.agg (kL x).toArray) (.agg (kL y).toArray)).run Tryz.prog w = .ok (sameK x y) w := by
  rw [run_equalIn_agg (P := Tryz.prog) w 9999 86 (kL x).toArray (kL y).toArray (by kernel_rfl) (by kernel_rfl)]
  simp only [Program.fieldsOf, Tryz.underlying86, Op.eqFields]
  have n1 : (("Name" : String) ≠ "_") = True := eq_true (by decide)
  have n2 : (("Sum" : String) ≠ "_") = True := eq_true (by decide)
  simp only [n1, n2, if_true, Sem.run_bind, part_name, Result.andThen_ok, run_equalIn_string w 9998 9 _ _ Tryz.underlying9]
  unfold sameK
  cases hn : (x.1.toList == y.1.toList) <;> cases hd : (x.2 == y.2) <;> simp [part_dig x hx, part_dig y hy, eq_dig _ _ hx hy, hd]
end Go.Proofs.YtebjlmnhpfoglaaGreatDoor

/-
  Two kids loaded and compared in a region that draws its order: steps of the walk. Conditions: those that each theorem names.
-/

namespace Go.Proofs.YtebjlmnhpfoglaaGreatDoor
open Go.RowKit

theorem quiet_kid {ops : Array Oper} {rest : List Oper} {o : Oper} {a : Act} {S : World → Prop} {Q : Act → Prop} (hw : Region.wanted o (yielded ops a.tmps) = true) (x : Operand) (ho : o.op = .load 86 x)
    (B i : Nat) (hx : a.eval x = .pointer (some ⟨B, i, none⟩)) (k : Kd) (hr : ∀ w', S w' → w'.rangeAt B i (kL k)) (hn : k.2.length = 32)
    (h : wpQuiet Tryz.prog ops S Q rest (a.put o.dst (.agg (kL k).toArray))) : wpQuiet Tryz.prog ops S Q (o :: rest) a := by
  refine wpQuiet_step fun K hK => ?_
  rw [if_pos hw]
  refine ⟨.agg (kL k).toArray, ?_, hK _ h⟩
  intro w' hS
  unfold Oper.quietAt execOp
  simp only [ho, hx, Instr.loadAt, Instr.sureAddr, Sem.run_bind, Sem.run_pure, Result.andThen_ok, run_loadVar_mid w' B i 86 (kL k) _ (hr w' hS) Tryz.underlying86 rfl (by rw [sizeK, kL_len hn])]
  exact ⟨rfl, rfl⟩
theorem quiet_neqK {ops : Array Oper} {rest : List Oper} {o : Oper} {a : Act} {S : World → Prop} {Q : Act → Prop} (hw : Region.wanted o (yielded ops a.tmps) = true) (x y : Operand) (ho : o.op = .binOp .neq 86 x y 86)
    (k l : Kd) (hx : a.eval x = .agg (kL k).toArray) (hy : a.eval y = .agg (kL l).toArray) (hk : k.2.length = 32) (hl : l.2.length = 32)
    (h : wpQuiet Tryz.prog ops S Q rest (a.put o.dst (.bool (!sameK k l)))) : wpQuiet Tryz.prog ops S Q (o :: rest) a := by
  refine wpQuiet_step fun K hK => ?_
  rw [if_pos hw]
  refine ⟨.bool (!sameK k l), ?_, hK _ h⟩
  intro w' hS
  unfold Oper.quietAt execOp
  have he := eqK k l hk hl w'
  have hg := run_eqGuard_agg (P := Tryz.prog) w' .neq 86 x y (kL k).toArray (kL l).toArray (by kernel_rfl)
  have hne := run_neq_struct (P := Tryz.prog) w' 86 (kL k).toArray (kL l).toArray
  rw [he] at hne
  simp only [ho, hx, hy]
  simp only [Sem.run_bind, hg, hne, Result.andThen_ok, Sem.run_pure]
  exact ⟨rfl, rfl⟩
end Go.Proofs.YtebjlmnhpfoglaaGreatDoor

/-
  Whether two nodes are the same: the document's. Conditions: those that each theorem names.
-/

namespace Go.Proofs.YtebjlmnhpfoglaaGreatDoor
open Go.RowKit

theorem nd_eq {n m : Nd} : n = m ↔ n.vs = m.vs ∧ n.ks = m.ks := by
  obtain ⟨a, b⟩ := n
  obtain ⟨c, d⟩ := m
  simp
theorem take_next {l m : List Kd} {k : Nat} {x y : Kd} (h : l.take k = m.take k) (hx : l[k]? = some x) (hy : m[k]? = some y) (e : x = y) : l.take (k + 1) = m.take (k + 1) := by
  rw [take_snocA hx, take_snocA hy, h, e]
theorem take_ne {l m : List Kd} {k : Nat} {x y : Kd} (hx : l[k]? = some x) (hy : m[k]? = some y) (e : x ≠ y) : l ≠ m := by
  rintro rfl
  rw [hx] at hy
  injection hy with hy
  exact e hy
set_option maxRecDepth 100000 in
set_option maxHeartbeats 4000000 in
theorem refSameN_any (a : Option Addr) (c : Nat) (b : Option Addr) (d : Nat) (n : Nd) (hn : Nok n) (a2 : Option Addr) (c2 : Nat) (b2 : Option Addr) (d2 : Nat) (m : Nd) (hm : Nok m) (w : World) (h : NdAt w n a c b d) (h2 : NdAt w m a2 c2 b2 d2) (D : Bool) (hD : D = true ↔ n = m) :
    Calls Tryz.prog 27 #[.agg (ndL n a c b d).toArray, .agg (ndL m a2 c2 b2 d2).toArray] w fun e w' => e = .returned (.bool D) ∧ Below w.heap.size w w' := by
  have HB0 := hide ((below_alloc' (w := w) (.cells (ndL n a c b d).toArray 52)).alloc (by simp) (.cells (ndL m a2 c2 b2 d2).toArray 52))
  have HR := hide ((VRow.new w 52 (ndL n a c b d)).alloc (.cells (ndL m a2 c2 b2 d2).toArray 52))
  have HT := hide (VRow.newAt (W := w.alloc (.cells (ndL n a c b d).toArray 52)) (T := 52) (n := w.heap.size + 1) (vs := ndL m a2 c2 b2 d2) (by simp))
  have x0 := (unhide HR).cell 0 _ rfl
  have x1 := (unhide HR).cell 1 _ rfl
  have y0 := (unhide HT).cell 0 _ rfl
  have y1 := (unhide HT).cell 1 _ rfl
  obtain ⟨V, hV⟩ := bool_of (n.vs = m.vs)
  have KV := hide (refSameVs_any a a2 c c2 n.vs m.vs hn.few hm.few _ ((h.after (unhide HB0)).sv) ((h2.after (unhide HB0)).sv) V hV)
  rw [nd_eq] at hD
  have HD := hide hD
  have HV := hide hV
  have HS1 := hide h.sk
  have HS2 := hide h2.sk
  have hk1 := hn.kids
  have hk2 := hm.kids
  have HD1 := hide hn.digs
  have HD2 := hide hm.digs
  clear h h2 hD hV hn hm
  unfold ndL at *
  by_cases hl : n.ks.length = m.ks.length
  · have hlb : (((n.ks.length : Nat) : Int) != (m.ks.length : Nat)) = false := by rw [hl]; exact bne_self_eq_false _
    have HL := hide hl
    clear hl
    go_enter Tryz.func27, Tryz.ntmps27
    go_wp2_with fail
    generalize (w.alloc (.cells _ 52)).alloc (.cells _ 52) = w0 at HB0 HR HT KV x0 x1 y0 y1 ⊢
    refine (unhide KV).mono ?_
    rintro e w1 ⟨rfl, hb⟩
    have HB1 := hide (below_grow (unhide HB0) (Nat.le_refl _) hb)
    have HR1 := hide ((unhide HR).after hb)
    have HT1 := hide ((unhide HT).after hb)
    clear hb x0 x1 y0 y1 KV
    cases V with
    | false =>
      have HX : Hid (D = false) := hide (by
        cases D with
        | false => rfl
        | true => exact absurd ((unhide HV).2 ((unhide HD).1 rfl).1) (by simp))
      go_wp2_with fail
      go_ret
      exact ⟨ret_bool (unhide HX).symm, unhide HB1⟩
    | true =>
      have HV2 := hide ((unhide HV).1 rfl)
      go_wp2_with fail
      go_loopw [5] (fun i wr => ∃ k : Nat, k ≤ n.ks.length ∧ i = .int .i64 k ∧ n.ks.take k = m.ks.take k ∧ VRow wr w.heap.size 52 [.slice a n.vs.length c, .slice b n.ks.length d] ∧ VRow wr (w.heap.size + 1) 52 [.slice a2 m.vs.length c2, .slice b2 m.ks.length d2] ∧ Below w.heap.size w wr) (fun i _ => n.ks.length - (intOf i).toNat)
      case atStart => exact ⟨0, Nat.zero_le _, rfl, rfl, unhide HR1, unhide HT1, unhide HB1⟩
      case round =>
        obtain ⟨k, hk, rfl, ht, hr, hs, hb⟩ := hrel
        have HTK := hide ht
        have HRk := hide hr
        have HTk := hide hs
        have HBk := hide hb
        have x1 := hr.cell 1 _ rfl
        have y1 := hs.cell 1 _ rfl
        clear ht hr hs hb
        by_cases hlt : k < n.ks.length
        · have hlt2 : k < m.ks.length := by have := unhide HL; omega
          obtain ⟨x, hx⟩ : ∃ x, n.ks[k]? = some x := ⟨_, List.getElem?_eq_getElem hlt⟩
          obtain ⟨y, hy⟩ : ∃ y, m.ks[k]? = some y := ⟨_, List.getElem?_eq_getElem hlt2⟩
          obtain ⟨g, o, rfl, hg, hc⟩ := (unhide HS1).after (unhide HBk) (by omega)
          obtain ⟨g2, o2, rfl, hg2, hc2⟩ := (unhide HS2).after (unhide HBk) (by omega)
          have HC1 := hide (hc k x hx)
          have HC2 := hide (hc2 k y hy)
          have HX1 := hide (unhide HD1 x (List.mem_of_getElem? hx))
          have HX2 := hide (unhide HD2 y (List.mem_of_getElem? hy))
          have HEQ := hide fun e => take_next (unhide HTK) hx hy e
          have HNE := hide fun e => take_ne hx hy e
          have HSK := hide (sameK_iff x y)
          have HG := hide hg
          have HG2 := hide hg2
          clear hg hg2 hc hc2 hx hy
          obtain ⟨E, hE⟩ : ∃ E, sameK x y = E := ⟨_, rfl⟩
          have HE := hide hE
          go_wp2_with fail
          have x1q : ∀ p : Regrown, (Go.Sort.grow (redrawn wr p.d) p.os).cell? ⟨w.heap.size, 1, none⟩ = some (.slice (some ⟨g, o, none⟩) n.ks.length d) := fun p => ((below_regrown wr p.d p.os).cell (p := ⟨w.heap.size, 1, none⟩) (unhide HRk).lt).trans x1
          have y1q : ∀ p : Regrown, (Go.Sort.grow (redrawn wr p.d) p.os).cell? ⟨w.heap.size + 1, 1, none⟩ = some (.slice (some ⟨g2, o2, none⟩) m.ks.length d2) := fun p => ((below_regrown wr p.d p.os).cell (p := ⟨w.heap.size + 1, 1, none⟩) (unhide HTk).lt).trans y1
          refine wp_region_quiet_below (by kernel_rfl) (by kernel_rfl) ?_
          iterate 4 (quiet_step (fail))
          refine quiet_kid (by rfl) (.tmp 31) (by rfl) g (o + k * 33) (by rfl) x (by rintro w' ⟨p, rfl⟩; exact range_after (unhide HC1) (unhide HG) (below_regrown _ _ _)) (unhide HX1) ?_
          iterate 4 (quiet_step (fail))
          refine quiet_kid (by rfl) (.tmp 36) (by rfl) g2 (o2 + k * 33) (by rfl) y (by rintro w' ⟨p, rfl⟩; exact range_after (unhide HC2) (unhide HG2) (below_regrown _ _ _)) (unhide HX2) ?_
          refine quiet_neqK (by rfl) (.tmp 32) (.tmp 37) (by rfl) x y (by rfl) (by rfl) (unhide HX1) (unhide HX2) ?_
          rw [unhide HE]
          refine wpQuiet_nil ?_
          rintro _ ⟨⟨dq, osq⟩, rfl⟩
          have HBq := hide (below_regrown wr dq osq)
          have HRq := hide ((unhide HRk).after (unhide HBq))
          have HTq := hide ((unhide HTk).after (unhide HBq))
          have HB0q := hide (below_grow (unhide HBk) (Nat.le_refl _) (unhide HBq))
          clear x1 y1 hE
          cases E with
          | true =>
            have HTK2 := hide (unhide HEQ ((unhide HSK).1 (unhide HE)))
            go_wp2_with fail
            go_roundw
            case rel => exact ⟨k + 1, by omega, by go_num, unhide HTK2, unhide HRq, unhide HTq, unhide HB0q⟩
            case measure => simp [intOf]; omega
          | false =>
            have HX : Hid (D = false) := hide (by
              cases D with
              | false => rfl
              | true => exact absurd ((unhide HD).1 rfl).2 (unhide HNE fun e => by have h := (unhide HSK).2 e; rw [unhide HE] at h; cases h))
            go_wp2_with fail
            go_ret
            exact ⟨ret_bool (unhide HX).symm, unhide HB0q⟩
        · obtain rfl : k = n.ks.length := by omega
          have HX : Hid (D = true) := hide ((unhide HD).2 ⟨unhide HV2, by
            have h := unhide HTK
            rw [List.take_length, unhide HL, List.take_length] at h
            exact h⟩)
          go_wp2_with fail
          go_ret
          exact ⟨ret_bool (unhide HX).symm, unhide HBk⟩
  · have hlb : (((n.ks.length : Nat) : Int) != (m.ks.length : Nat)) = true := bne_iff_ne.2 (by omega)
    have HX : Hid (D = false) := hide (by
      cases D with
      | false => rfl
      | true => exact absurd (congrArg List.length ((unhide HD).1 rfl).2) hl)
    go_enter Tryz.func27, Tryz.ntmps27
    go_wp2_with fail
    go_ret
    exact ⟨ret_bool (unhide HX).symm, unhide HB0⟩
end Go.Proofs.YtebjlmnhpfoglaaGreatDoor

/-
  The walk of the statement on the nodes of a tree. Conditions: those that each theorem names.
-/

namespace Go.Proofs.YtebjlmnhpfoglaaGreatDoor
open Go.RowKit

structure StNd (w : World) (q r : Option Addr) (T : List En) (N : Nd) (a : Option Addr) (c : Nat) (b : Option Addr) (d : Nat) (W : World) : Prop where
  s : StOf w q r T W
  n : NdAt W N a c b d
theorem StNd.after {w W W' : World} {q r : Option Addr} {T : List En} {N : Nd} {a : Option Addr} {c : Nat} {b : Option Addr} {d : Nat} (h : StNd w q r T N a c b d W) (hb : Below W.heap.size W W') : StNd w q r T N a c b d W' := ⟨h.s.after hb, h.n.after hb⟩
theorem keepNd {w W W' : World} {q r : Option Addr} {T : List En} {N : Nd} {a : Option Addr} {c : Nat} {b : Option Addr} {d : Nat} {B i j : Nat} {x y : Value} (h : W.cell? ⟨B, i, none⟩ = some x ∧ W.cell? ⟨B, j, none⟩ = some y ∧ StNd w q r T N a c b d W) (hb : Below W.heap.size W W') :
    W'.cell? ⟨B, i, none⟩ = some x ∧ W'.cell? ⟨B, j, none⟩ = some y ∧ StNd w q r T N a c b d W' :=
  ⟨(hb.cell (p := ⟨B, i, none⟩) (block_lt_of_cell h.1)).trans h.1, (hb.cell (p := ⟨B, j, none⟩) (block_lt_of_cell h.2.1)).trans h.2.1, h.2.2.after hb⟩

set_option maxRecDepth 100000 in
set_option maxHeartbeats 1000000 in
theorem nodes_walk (a : Option Addr) (cap : Nat) (l : List En) (hl : l.length ≤ 9223372036854775807) (he : ∀ x ∈ l, EnOk x) (dir : ByteArray) (hdir : dir.size ≤ 9223372036854775807) (w : World) (h : EL w a l) (hE : Env w) :
    Calls Tryz.prog 5 #[.slice a l.length cap, .string dir] w fun e w' => e = .returned (.bool true) ∧ Below w.heap.size w w' := by
  have KG := hide (greatE_any a cap l 20 (by omega) hl (fun x hx => (he x hx).1) w h)
  have HS := hide h
  have HE := hide hE
  have HOK := hide he
  clear h hE he
  go_enter Tryz.func5, Tryz.ntmps5
  go_wp2_with fail
  refine (unhide KG).mono ?_
  rintro e w1 ⟨D, rfl, hD, hb⟩
  have HB1 := hide hb
  have HE1 := hide ((unhide HE).below hb)
  have HS1 := hide ((unhide HS).after hb)
  clear hb KG
  cases D with
  | true =>
    clear hD
    go_wp2_with fail
    refine (awakeT_any w1 (unhide HE1)).mono ?_
    rintro e w2 ⟨rfl, hb⟩
    have HB2 := hide (below_grow (unhide HB1) (Nat.le_refl _) hb)
    clear hb
    go_wp2_with fail
    go_ret
    exact ⟨rfl, unhide HB2⟩
  | false =>
   by_cases hbig : 200 < dir.size
   · have hbd : decide ((200 : Int) < ((dir.size : Nat) : Int)) = true := decide_eq_true (by omega)
     clear hD
     go_wp2_with fail
     refine (awakeT_any w1 (unhide HE1)).mono ?_
     rintro e w2 ⟨rfl, hb⟩
     have HB2 := hide (below_grow (unhide HB1) (Nat.le_refl _) hb)
     clear hb
     go_wp2_with fail
     go_ret
     exact ⟨rfl, unhide HB2⟩
   · have hbd : decide ((200 : Int) < ((dir.size : Nat) : Int)) = false := decide_eq_false (by omega)
     have HDS : Hid (dir.size ≤ 200) := hide (by omega)
     have HEOK := hide (eok_of (hD rfl) (by omega) (unhide HOK))
     have KP := hide (treeOf_any a cap l (unhide HEOK) w1 (unhide HS1))
     have KR := hide fun W h => refOf_any a cap l (unhide HEOK) W h
     have HTR := hide (ofT_tr l)
     generalize ofT l = R at KP KR HTR
     obtain ⟨T, E⟩ := R
     dsimp only at KP KR HTR
     clear hD hbig
     go_wp2_with fail
     refine (unhide KP).mono ?_
     rintro e w2 ⟨q, rfl, ht2, _, hb⟩
     have HB2 := hide (below_grow (unhide HB1) (Nat.le_refl _) hb)
     have HE2 := hide ((unhide HE1).below hb)
     have HS2 := hide ((unhide HS1).after hb)
     have HT2 := hide ht2
     clear hb ht2 KP
     go_wp2_with fail
     refine (unhide KR w2 (unhide HS2)).mono ?_
     rintro e w3 ⟨r, c, rfl, hc, hel, hb⟩
     have HP3 := hide (show StOf w q r T w3 from ⟨below_grow (unhide HB2) (Nat.le_refl _) hb, (unhide HE2).below hb, (unhide HT2).after hb, hel⟩)
     clear hb hel hc KR HB2 HE2 HS2 HT2 hbd
     have KN := hide (treeNode_any q T (unhide HTR) dir (by have := unhide HDS; unfold maxLen; omega) w3 (unhide HP3).t (unhide HP3).e.g (unhide HP3).e.s)
     have KTH := hide fun W (h : StOf w q r T W) => refThere_any r c T (unhide HTR).eok dir (by have := unhide HDS; omega) W h.m
     have KRN := hide fun W (h : StOf w q r T W) => refNodeF_any r c T (unhide HTR).eok dir (by have := unhide HDS; omega) W h.m h.e.k h.e.s
     have HNOK := hide (node_ok (unhide HTR).eok dir).1
     generalize nodeF T dir = NF at KN KRN HNOK
     generalize thereT T dir = TH at KN KTH
     obtain ⟨NN, hNN⟩ : ∃ NN, (if TH = true then NF else ⟨[], []⟩ : Nd) = NN := ⟨_, rfl⟩
     have HNN := hide hNN
     rw [hNN] at KN
     clear hNN
     have hTT : (TH == TH) = true := beq_self_eq_true _
     have hTN : (TH != TH) = false := bne_self_eq_false _
     go_wp2_with fail
     refine (unhide KN).mono ?_
     rintro e w4 ⟨a4, c4, b4, d4, rfl, hat, hb⟩
     have HP4 := hide (show StNd w q r T NN a4 c4 b4 d4 w4 from ⟨(unhide HP3).after hb, hat⟩)
     clear hb hat KN
     go_wp2_with (refine store_row (by rfl) 52 (.tmp 9) (.tmp 33) (by rfl) w4.heap.size (ndL NN a4 c4 b4 d4) (by rfl) (by rfl) 52 zeroN (VRow.newAt rfl) 2 sizeNd rfl rfl (ndL_one _ _ _ _ _) ?_; intro w5 ho hr; have HP5 := hide ((unhide HP4).after ((below_alloc' (w := w4) (.cells zeroN.toArray 52)).trans (ho.below (Nat.le_refl _)))); have R5 := hide hr; clear ho hr)
     refine (unhide KTH _ (unhide HP5).s).mono ?_
     rintro e w6 ⟨rfl, hb⟩
     have HP6 := hide ((unhide HP5).after hb)
     have R6 := hide ((unhide R5).after hb)
     clear hb KTH
     cases TH with
     | false =>
       obtain rfl : (⟨[], []⟩ : Nd) = NN := unhide HNN
       have z0 := (unhide R6).cell 0 _ rfl
       have z1 := (unhide R6).cell 1 _ rfl
       have KA := hide fun W (h : Env W) => awakeT_any W h
       have hS6 : w6.drew.cell? ⟨w4.heap.size, 0, none⟩ = some (.slice a4 0 c4) ∧ w6.drew.cell? ⟨w4.heap.size, 1, none⟩ = some (.slice b4 0 d4) ∧ StNd w q r T ⟨[], []⟩ a4 c4 b4 d4 w6.drew := ⟨z0, z1, (unhide HP6).after (below_drew (Below.refl _ _))⟩
       go_wp2_with fail
       refine wp_region_held_drew (S := fun W => W.cell? ⟨w4.heap.size, 0, none⟩ = some (.slice a4 0 c4) ∧ W.cell? ⟨w4.heap.size, 1, none⟩ = some (.slice b4 0 d4) ∧ StNd w q r T ⟨[], []⟩ a4 c4 b4 d4 W) (by kernel_rfl) hS6 (fun hS => ?_)
       refine wpAnyH_take (i := 0) (oi := { dst := some 40, op := Go.Op.move (Go.Operand.tmp 10), type := 4, pos := "law.go:82", after := #[], guard := none }) (v := .bool false) rfl (by kernel_rfl) (by kernel_rfl) (by kernel_rfl) (fun _ _ _ h => h) (Or.inl ⟨by rfl, ?_⟩) hS ?_
       · intro W hW; obtain ⟨hW1, hW2, _⟩ := hW; first | (go_simp; done) | (go_simp; with_reducible rfl) | (go_simp; decide) | (go_simp; rfl)
       simp only [Act.put, List.setIfInBounds_toArray, List.set_cons_zero, List.set_cons_succ]
       refine wpAnyH_take (i := 1) (oi := { dst := some 41, op := Go.Op.unOp Go.UnOp.not 4 (Go.Operand.tmp 40), type := 4, pos := "law.go:82", after := #[{ on := 0, ground := Go.Ground.data }], guard := none }) (v := .bool true) rfl (by kernel_rfl) (by kernel_rfl) (by kernel_rfl) (fun _ _ _ h => h) (Or.inl ⟨by rfl, ?_⟩) hS ?_
       · intro W hW; obtain ⟨hW1, hW2, _⟩ := hW; first | (go_simp; done) | (go_simp; with_reducible rfl) | (go_simp; decide) | (go_simp; rfl)
       simp only [Act.put, List.setIfInBounds_toArray, List.set_cons_zero, List.set_cons_succ]
       refine wpAnyH_take (i := 2) (oi := { dst := some 42, op := Go.Op.move (Go.Operand.tmp 41), type := 4, pos := "law.go:82", after := #[{ on := 1, ground := Go.Ground.data }], guard := none }) (v := .bool true) rfl (by kernel_rfl) (by kernel_rfl) (by kernel_rfl) (fun _ _ _ h => h) (Or.inl ⟨by rfl, ?_⟩) hS ?_
       · intro W hW; obtain ⟨hW1, hW2, _⟩ := hW; first | (go_simp; done) | (go_simp; with_reducible rfl) | (go_simp; decide) | (go_simp; rfl)
       simp only [Act.put, List.setIfInBounds_toArray, List.set_cons_zero, List.set_cons_succ]
       refine wpAnyH_take (i := 3) (oi := { dst := some 43, op := Go.Op.fieldAddr 52 (Go.Operand.tmp 9) 0, type := 0, pos := "law.go:82", after := #[{ on := 2, ground := Go.Ground.guard }], guard := some (2, true) }) (v := .pointer (some ⟨w4.heap.size, 0, none⟩)) rfl (by kernel_rfl) (by kernel_rfl) (by kernel_rfl) (fun _ _ _ h => h) (Or.inl ⟨by rfl, ?_⟩) hS ?_
       · intro W hW; obtain ⟨hW1, hW2, _⟩ := hW; first | (go_simp; done) | (go_simp; with_reducible rfl) | (go_simp; decide) | (go_simp; rfl)
       simp only [Act.put, List.setIfInBounds_toArray, List.set_cons_zero, List.set_cons_succ]
       refine wpAnyH_take (i := 4) (oi := { dst := some 44, op := Go.Op.load 31 (Go.Operand.tmp 43), type := 31, pos := "law.go:82", after := #[{ on := 3, ground := Go.Ground.data }, { on := 2, ground := Go.Ground.guard }], guard := some (2, true) }) (v := .slice a4 0 c4) rfl (by kernel_rfl) (by kernel_rfl) (by kernel_rfl) (fun _ _ _ h => h) (Or.inl ⟨by rfl, ?_⟩) hS ?_
       · intro W hW; obtain ⟨hW1, hW2, _⟩ := hW; first | (go_simp; done) | (go_simp; with_reducible rfl) | (go_simp; decide) | (go_simp; rfl)
       simp only [Act.put, List.setIfInBounds_toArray, List.set_cons_zero, List.set_cons_succ]
       refine wpAnyH_take (i := 5) (oi := { dst := some 45, op := Go.Op.call { callee := Go.Callee.builtin Go.Builtin.len, args := #[Go.Operand.tmp 44], argTypes := #[31] }, type := 3, pos := "law.go:82", after := #[{ on := 4, ground := Go.Ground.data }, { on := 2, ground := Go.Ground.guard }], guard := some (2, true) }) (v := .int .i64 0) rfl (by kernel_rfl) (by kernel_rfl) (by kernel_rfl) (fun _ _ _ h => h) (Or.inl ⟨by rfl, ?_⟩) hS ?_
       · intro W hW; obtain ⟨hW1, hW2, _⟩ := hW; first | (go_simp; done) | (go_simp; with_reducible rfl) | (go_simp; decide) | (go_simp; rfl)
       simp only [Act.put, List.setIfInBounds_toArray, List.set_cons_zero, List.set_cons_succ]
       refine wpAnyH_take (i := 6) (oi := { dst := some 46, op := Go.Op.fieldAddr 52 (Go.Operand.tmp 9) 1, type := 0, pos := "law.go:82", after := #[{ on := 2, ground := Go.Ground.guard }], guard := some (2, true) }) (v := .pointer (some ⟨w4.heap.size, 1, none⟩)) rfl (by kernel_rfl) (by kernel_rfl) (by kernel_rfl) (fun _ _ _ h => h) (Or.inl ⟨by rfl, ?_⟩) hS ?_
       · intro W hW; obtain ⟨hW1, hW2, _⟩ := hW; first | (go_simp; done) | (go_simp; with_reducible rfl) | (go_simp; decide) | (go_simp; rfl)
       simp only [Act.put, List.setIfInBounds_toArray, List.set_cons_zero, List.set_cons_succ]
       refine wpAnyH_take (i := 7) (oi := { dst := some 47, op := Go.Op.load 50 (Go.Operand.tmp 46), type := 50, pos := "law.go:82", after := #[{ on := 6, ground := Go.Ground.data }, { on := 2, ground := Go.Ground.guard }], guard := some (2, true) }) (v := .slice b4 0 d4) rfl (by kernel_rfl) (by kernel_rfl) (by kernel_rfl) (fun _ _ _ h => h) (Or.inl ⟨by rfl, ?_⟩) hS ?_
       · intro W hW; obtain ⟨hW1, hW2, _⟩ := hW; first | (go_simp; done) | (go_simp; with_reducible rfl) | (go_simp; decide) | (go_simp; rfl)
       simp only [Act.put, List.setIfInBounds_toArray, List.set_cons_zero, List.set_cons_succ]
       refine wpAnyH_take (i := 8) (oi := { dst := some 48, op := Go.Op.call { callee := Go.Callee.builtin Go.Builtin.len, args := #[Go.Operand.tmp 47], argTypes := #[50] }, type := 3, pos := "law.go:82", after := #[{ on := 7, ground := Go.Ground.data }, { on := 2, ground := Go.Ground.guard }], guard := some (2, true) }) (v := .int .i64 0) rfl (by kernel_rfl) (by kernel_rfl) (by kernel_rfl) (fun _ _ _ h => h) (Or.inl ⟨by rfl, ?_⟩) hS ?_
       · intro W hW; obtain ⟨hW1, hW2, _⟩ := hW; first | (go_simp; done) | (go_simp; with_reducible rfl) | (go_simp; decide) | (go_simp; rfl)
       simp only [Act.put, List.setIfInBounds_toArray, List.set_cons_zero, List.set_cons_succ]
       refine wpAnyH_take (i := 9) (oi := { dst := some 49, op := Go.Op.binOp Go.BinOp.add 3 (Go.Operand.tmp 45) (Go.Operand.tmp 48) 3, type := 3, pos := "law.go:82", after := #[{ on := 5, ground := Go.Ground.data }, { on := 8, ground := Go.Ground.data }, { on := 2, ground := Go.Ground.guard }], guard := some (2, true) }) (v := .int .i64 0) rfl (by kernel_rfl) (by kernel_rfl) (by kernel_rfl) (fun _ _ _ h => h) (Or.inl ⟨by rfl, ?_⟩) hS ?_
       · intro W hW; obtain ⟨hW1, hW2, _⟩ := hW; first | (go_simp; done) | (go_simp; with_reducible rfl) | (go_simp; decide) | (go_simp; rfl)
       simp only [Act.put, List.setIfInBounds_toArray, List.set_cons_zero, List.set_cons_succ]
       refine wpAnyH_take (i := 10) (oi := { dst := some 50, op := Go.Op.binOp Go.BinOp.eql 3 (Go.Operand.tmp 49) (Go.Operand.const (Go.Value.int Go.IntKind.i64 0)) 3, type := 4, pos := "law.go:82", after := #[{ on := 9, ground := Go.Ground.data }, { on := 2, ground := Go.Ground.guard }], guard := some (2, true) }) (v := .bool true) rfl (by kernel_rfl) (by kernel_rfl) (by kernel_rfl) (fun _ _ _ h => h) (Or.inl ⟨by rfl, ?_⟩) hS ?_
       · intro W hW; obtain ⟨hW1, hW2, _⟩ := hW; first | (go_simp; done) | (go_simp; with_reducible rfl) | (go_simp; decide) | (go_simp; rfl)
       simp only [Act.put, List.setIfInBounds_toArray, List.set_cons_zero, List.set_cons_succ]
       refine wpAnyH_take (i := 11) (oi := { dst := some 51, op := Go.Op.pick (Go.Operand.tmp 42) (Go.Operand.tmp 50) (Go.Operand.const (Go.Value.bool false)), type := 4, pos := "law.go:82", after := #[{ on := 2, ground := Go.Ground.data }, { on := 10, ground := Go.Ground.data }], guard := none }) (v := .bool true) rfl (by kernel_rfl) (by kernel_rfl) (by kernel_rfl) (fun _ _ _ h => h) (Or.inl ⟨by rfl, ?_⟩) hS ?_
       · intro W hW; obtain ⟨hW1, hW2, _⟩ := hW; first | (go_simp; done) | (go_simp; with_reducible rfl) | (go_simp; decide) | (go_simp; rfl)
       simp only [Act.put, List.setIfInBounds_toArray, List.set_cons_zero, List.set_cons_succ]
       refine wpAnyH_take (i := 12) (oi := { dst := some 52, op := Go.Op.move (Go.Operand.tmp 51), type := 4, pos := "law.go:82", after := #[{ on := 11, ground := Go.Ground.data }, { on := 2, ground := Go.Ground.chain }], guard := none }) (v := .bool true) rfl (by kernel_rfl) (by kernel_rfl) (by kernel_rfl) (fun _ _ _ h => h) (Or.inl ⟨by rfl, ?_⟩) hS ?_
       · intro W hW; obtain ⟨hW1, hW2, _⟩ := hW; first | (go_simp; done) | (go_simp; with_reducible rfl) | (go_simp; decide) | (go_simp; rfl)
       simp only [Act.put, List.setIfInBounds_toArray, List.set_cons_zero, List.set_cons_succ]
       refine wpAnyH_take (i := 13) (oi := { dst := some 53, op := Go.Op.move (Go.Operand.tmp 10), type := 4, pos := "law.go:82", after := #[{ on := 12, ground := Go.Ground.guard }], guard := some (12, false) }) (v := undef) rfl (by kernel_rfl) (by kernel_rfl) (by kernel_rfl) (fun _ _ _ h => h) (Or.inr ⟨by rfl, rfl⟩) hS ?_
       simp only [Act.put, List.setIfInBounds_toArray, List.set_cons_zero, List.set_cons_succ]
       refine wpAnyH_take (i := 14) (oi := { dst := some 54, op := Go.Op.move (Go.Operand.tmp 53), type := 4, pos := "law.go:82", after := #[{ on := 13, ground := Go.Ground.data }, { on := 12, ground := Go.Ground.chain }, { on := 12, ground := Go.Ground.guard }], guard := some (12, false) }) (v := undef) rfl (by kernel_rfl) (by kernel_rfl) (by kernel_rfl) (fun _ _ _ h => h) (Or.inr ⟨by rfl, rfl⟩) hS ?_
       simp only [Act.put, List.setIfInBounds_toArray, List.set_cons_zero, List.set_cons_succ]
       refine wpAnyH_take (i := 15) (oi := { dst := some 55, op := Go.Op.load 52 (Go.Operand.tmp 9), type := 52, pos := "law.go:82", after := #[{ on := 14, ground := Go.Ground.guard }], guard := some (14, true) }) (v := undef) rfl (by kernel_rfl) (by kernel_rfl) (by kernel_rfl) (fun _ _ _ h => h) (Or.inr ⟨by rfl, rfl⟩) hS ?_
       simp only [Act.put, List.setIfInBounds_toArray, List.set_cons_zero, List.set_cons_succ]
       refine wpAnyH_take (i := 16) (oi := { dst := some 56, op := Go.Op.move (Go.Operand.tmp 7), type := 22, pos := "law.go:82", after := #[{ on := 14, ground := Go.Ground.guard }], guard := some (14, true) }) (v := undef) rfl (by kernel_rfl) (by kernel_rfl) (by kernel_rfl) (fun _ _ _ h => h) (Or.inr ⟨by rfl, rfl⟩) hS ?_
       simp only [Act.put, List.setIfInBounds_toArray, List.set_cons_zero, List.set_cons_succ]
       refine wpAnyH_take (i := 17) (oi := { dst := some 57, op := Go.Op.move (Go.Operand.tmp 1), type := 9, pos := "law.go:82", after := #[{ on := 14, ground := Go.Ground.guard }], guard := some (14, true) }) (v := undef) rfl (by kernel_rfl) (by kernel_rfl) (by kernel_rfl) (fun _ _ _ h => h) (Or.inr ⟨by rfl, rfl⟩) hS ?_
       simp only [Act.put, List.setIfInBounds_toArray, List.set_cons_zero, List.set_cons_succ]
       refine wpAnyH_take (i := 18) (oi := { dst := some 58, op := Go.Op.call { callee := Go.Callee.value (Go.Operand.func 28), args := #[Go.Operand.tmp 56, Go.Operand.tmp 57], argTypes := #[22, 9] }, type := 52, pos := "law.go:82", after := #[{ on := 16, ground := Go.Ground.data }, { on := 17, ground := Go.Ground.data }, { on := 14, ground := Go.Ground.chain }, { on := 14, ground := Go.Ground.guard }], guard := some (14, true) }) (v := undef) rfl (by kernel_rfl) (by kernel_rfl) (by kernel_rfl) (fun _ _ _ h => h) (Or.inr ⟨by rfl, rfl⟩) hS ?_
       simp only [Act.put, List.setIfInBounds_toArray, List.set_cons_zero, List.set_cons_succ]
       refine wpAnyH_take (i := 19) (oi := { dst := some 59, op := Go.Op.call { callee := Go.Callee.value (Go.Operand.func 27), args := #[Go.Operand.tmp 55, Go.Operand.tmp 58], argTypes := #[52, 52] }, type := 4, pos := "law.go:82", after := #[{ on := 15, ground := Go.Ground.data }, { on := 18, ground := Go.Ground.data }, { on := 18, ground := Go.Ground.chain }, { on := 14, ground := Go.Ground.guard }], guard := some (14, true) }) (v := undef) rfl (by kernel_rfl) (by kernel_rfl) (by kernel_rfl) (fun _ _ _ h => h) (Or.inr ⟨by rfl, rfl⟩) hS ?_
       simp only [Act.put, List.setIfInBounds_toArray, List.set_cons_zero, List.set_cons_succ]
       refine wpAnyH_take (i := 20) (oi := { dst := some 60, op := Go.Op.pick (Go.Operand.tmp 54) (Go.Operand.tmp 59) (Go.Operand.const (Go.Value.bool false)), type := 4, pos := "law.go:82", after := #[{ on := 14, ground := Go.Ground.data }, { on := 19, ground := Go.Ground.data }, { on := 12, ground := Go.Ground.guard }], guard := some (12, false) }) (v := undef) rfl (by kernel_rfl) (by kernel_rfl) (by kernel_rfl) (fun _ _ _ h => h) (Or.inr ⟨by rfl, rfl⟩) hS ?_
       simp only [Act.put, List.setIfInBounds_toArray, List.set_cons_zero, List.set_cons_succ]
       refine wpAnyH_take (i := 21) (oi := { dst := some 61, op := Go.Op.pick (Go.Operand.tmp 52) (Go.Operand.const (Go.Value.bool true)) (Go.Operand.tmp 60), type := 4, pos := "law.go:82", after := #[{ on := 12, ground := Go.Ground.data }, { on := 20, ground := Go.Ground.data }], guard := none }) (v := .bool true) rfl (by kernel_rfl) (by kernel_rfl) (by kernel_rfl) (fun _ _ _ h => h) (Or.inl ⟨by rfl, ?_⟩) hS ?_
       · intro W hW; obtain ⟨hW1, hW2, _⟩ := hW; first | (go_simp; done) | (go_simp; with_reducible rfl) | (go_simp; decide) | (go_simp; rfl)
       simp only [Act.put, List.setIfInBounds_toArray, List.set_cons_zero, List.set_cons_succ]
       refine wpAnyH_take (i := 22) (oi := { dst := some 62, op := Go.Op.move (Go.Operand.tmp 61), type := 4, pos := "law.go:82", after := #[{ on := 21, ground := Go.Ground.data }, { on := 19, ground := Go.Ground.chain }], guard := none }) (v := .bool true) rfl (by kernel_rfl) (by kernel_rfl) (by kernel_rfl) (fun _ _ _ h => h) (Or.inl ⟨by rfl, ?_⟩) hS ?_
       · intro W hW; obtain ⟨hW1, hW2, _⟩ := hW; first | (go_simp; done) | (go_simp; with_reducible rfl) | (go_simp; decide) | (go_simp; rfl)
       simp only [Act.put, List.setIfInBounds_toArray, List.set_cons_zero, List.set_cons_succ]
       refine wpAnyH_ready (rs := [23]) (by kernel_rfl) (by simp) (AllReadyH.cons (o := { dst := some 63, op := Go.Op.call { callee := Go.Callee.value (Go.Operand.func 10), args := #[], argTypes := #[] }, type := 4, pos := "law.go:82", after := #[{ on := 22, ground := Go.Ground.chain }, { on := 22, ground := Go.Ground.guard }], guard := some (22, true) }) rfl (fun K hK => ?_) AllReadyH.nil)
       go_simp
       refine (unhide KA _ hS.2.2.s.e).mono ?_
       rintro e w9 ⟨rfl, hb9⟩
       replace hS := keepNd hS hb9
       clear hb9
       go_wp2_with fail
       refine hK.out _ _ hS (fun _ => ?_)
       clear hK K
       refine wpAnyH_take (i := 24) (oi := { dst := some 64, op := Go.Op.pick (Go.Operand.tmp 62) (Go.Operand.tmp 63) (Go.Operand.const (Go.Value.bool false)), type := 4, pos := "law.go:82", after := #[{ on := 22, ground := Go.Ground.data }, { on := 23, ground := Go.Ground.data }], guard := none }) (v := .bool true) rfl (by kernel_rfl) (by kernel_rfl) (by kernel_rfl) (fun _ _ _ h => h) (Or.inl ⟨by rfl, ?_⟩) hS ?_
       · intro W hW; obtain ⟨hW1, hW2, _⟩ := hW; first | (go_simp; done) | (go_simp; with_reducible rfl) | (go_simp; decide) | (go_simp; rfl)
       simp only [Act.put, List.setIfInBounds_toArray, List.set_cons_zero, List.set_cons_succ]
       refine wpAnyH_take (i := 25) (oi := { dst := some 4, op := Go.Op.assign (Go.Operand.tmp 64), type := 4, pos := "law.go:82", after := #[{ on := 24, ground := Go.Ground.data }, { on := 23, ground := Go.Ground.chain }, { on := 0, ground := Go.Ground.phase }, { on := 1, ground := Go.Ground.phase }, { on := 2, ground := Go.Ground.phase }, { on := 3, ground := Go.Ground.phase }, { on := 4, ground := Go.Ground.phase }, { on := 5, ground := Go.Ground.phase }, { on := 6, ground := Go.Ground.phase }, { on := 7, ground := Go.Ground.phase }, { on := 8, ground := Go.Ground.phase }, { on := 9, ground := Go.Ground.phase }, { on := 10, ground := Go.Ground.phase }, { on := 11, ground := Go.Ground.phase }, { on := 12, ground := Go.Ground.phase }, { on := 13, ground := Go.Ground.phase }, { on := 14, ground := Go.Ground.phase }, { on := 15, ground := Go.Ground.phase }, { on := 16, ground := Go.Ground.phase }, { on := 17, ground := Go.Ground.phase }, { on := 18, ground := Go.Ground.phase }, { on := 19, ground := Go.Ground.phase }, { on := 20, ground := Go.Ground.phase }, { on := 21, ground := Go.Ground.phase }, { on := 22, ground := Go.Ground.phase }, { on := 23, ground := Go.Ground.phase }, { on := 24, ground := Go.Ground.phase }], guard := none }) (v := .bool true) rfl (by kernel_rfl) (by kernel_rfl) (by kernel_rfl) (fun _ _ _ h => h) (Or.inl ⟨by rfl, ?_⟩) hS ?_
       · intro W hW; obtain ⟨hW1, hW2, _⟩ := hW; first | (go_simp; done) | (go_simp; with_reducible rfl) | (go_simp; decide) | (go_simp; rfl)
       simp only [Act.put, List.setIfInBounds_toArray, List.set_cons_zero, List.set_cons_succ]
       refine wpAnyH_done (by kernel_rfl) ?_ _
       have HF := hide hS.2.2
       clear hS hS6 z0 z1
       go_wp2_with fail
       go_ret
       exact ⟨by first | rfl | simp, (unhide HF).s.b⟩
     | true =>
       obtain rfl : NF = NN := unhide HNN
       have z0 := (unhide R6).cell 0 _ rfl
       have z1 := (unhide R6).cell 1 _ rfl
       have KA := hide fun W (h : Env W) => awakeT_any W h
       have hS6 : w6.drew.cell? ⟨w4.heap.size, 0, none⟩ = some (.slice a4 NF.vs.length c4) ∧ w6.drew.cell? ⟨w4.heap.size, 1, none⟩ = some (.slice b4 NF.ks.length d4) ∧ StNd w q r T NF a4 c4 b4 d4 w6.drew := ⟨z0, z1, (unhide HP6).after (below_drew (Below.refl _ _))⟩
       go_wp2_with fail
       refine wp_region_held_drew (S := fun W => W.cell? ⟨w4.heap.size, 0, none⟩ = some (.slice a4 NF.vs.length c4) ∧ W.cell? ⟨w4.heap.size, 1, none⟩ = some (.slice b4 NF.ks.length d4) ∧ StNd w q r T NF a4 c4 b4 d4 W) (by kernel_rfl) hS6 (fun hS => ?_)
       refine wpAnyH_take (i := 0) (oi := { dst := some 40, op := Go.Op.move (Go.Operand.tmp 10), type := 4, pos := "law.go:82", after := #[], guard := none }) (v := .bool true) rfl (by kernel_rfl) (by kernel_rfl) (by kernel_rfl) (fun _ _ _ h => h) (Or.inl ⟨by rfl, ?_⟩) hS ?_
       · intro W hW; obtain ⟨hW1, hW2, _⟩ := hW; first | (go_simp; done) | (go_simp; with_reducible rfl) | (go_simp; decide) | (go_simp; rfl)
       simp only [Act.put, List.setIfInBounds_toArray, List.set_cons_zero, List.set_cons_succ]
       refine wpAnyH_take (i := 1) (oi := { dst := some 41, op := Go.Op.unOp Go.UnOp.not 4 (Go.Operand.tmp 40), type := 4, pos := "law.go:82", after := #[{ on := 0, ground := Go.Ground.data }], guard := none }) (v := .bool false) rfl (by kernel_rfl) (by kernel_rfl) (by kernel_rfl) (fun _ _ _ h => h) (Or.inl ⟨by rfl, ?_⟩) hS ?_
       · intro W hW; obtain ⟨hW1, hW2, _⟩ := hW; first | (go_simp; done) | (go_simp; with_reducible rfl) | (go_simp; decide) | (go_simp; rfl)
       simp only [Act.put, List.setIfInBounds_toArray, List.set_cons_zero, List.set_cons_succ]
       refine wpAnyH_take (i := 2) (oi := { dst := some 42, op := Go.Op.move (Go.Operand.tmp 41), type := 4, pos := "law.go:82", after := #[{ on := 1, ground := Go.Ground.data }], guard := none }) (v := .bool false) rfl (by kernel_rfl) (by kernel_rfl) (by kernel_rfl) (fun _ _ _ h => h) (Or.inl ⟨by rfl, ?_⟩) hS ?_
       · intro W hW; obtain ⟨hW1, hW2, _⟩ := hW; first | (go_simp; done) | (go_simp; with_reducible rfl) | (go_simp; decide) | (go_simp; rfl)
       simp only [Act.put, List.setIfInBounds_toArray, List.set_cons_zero, List.set_cons_succ]
       refine wpAnyH_take (i := 3) (oi := { dst := some 43, op := Go.Op.fieldAddr 52 (Go.Operand.tmp 9) 0, type := 0, pos := "law.go:82", after := #[{ on := 2, ground := Go.Ground.guard }], guard := some (2, true) }) (v := undef) rfl (by kernel_rfl) (by kernel_rfl) (by kernel_rfl) (fun _ _ _ h => h) (Or.inr ⟨by rfl, rfl⟩) hS ?_
       simp only [Act.put, List.setIfInBounds_toArray, List.set_cons_zero, List.set_cons_succ]
       refine wpAnyH_take (i := 4) (oi := { dst := some 44, op := Go.Op.load 31 (Go.Operand.tmp 43), type := 31, pos := "law.go:82", after := #[{ on := 3, ground := Go.Ground.data }, { on := 2, ground := Go.Ground.guard }], guard := some (2, true) }) (v := undef) rfl (by kernel_rfl) (by kernel_rfl) (by kernel_rfl) (fun _ _ _ h => h) (Or.inr ⟨by rfl, rfl⟩) hS ?_
       simp only [Act.put, List.setIfInBounds_toArray, List.set_cons_zero, List.set_cons_succ]
       refine wpAnyH_take (i := 5) (oi := { dst := some 45, op := Go.Op.call { callee := Go.Callee.builtin Go.Builtin.len, args := #[Go.Operand.tmp 44], argTypes := #[31] }, type := 3, pos := "law.go:82", after := #[{ on := 4, ground := Go.Ground.data }, { on := 2, ground := Go.Ground.guard }], guard := some (2, true) }) (v := undef) rfl (by kernel_rfl) (by kernel_rfl) (by kernel_rfl) (fun _ _ _ h => h) (Or.inr ⟨by rfl, rfl⟩) hS ?_
       simp only [Act.put, List.setIfInBounds_toArray, List.set_cons_zero, List.set_cons_succ]
       refine wpAnyH_take (i := 6) (oi := { dst := some 46, op := Go.Op.fieldAddr 52 (Go.Operand.tmp 9) 1, type := 0, pos := "law.go:82", after := #[{ on := 2, ground := Go.Ground.guard }], guard := some (2, true) }) (v := undef) rfl (by kernel_rfl) (by kernel_rfl) (by kernel_rfl) (fun _ _ _ h => h) (Or.inr ⟨by rfl, rfl⟩) hS ?_
       simp only [Act.put, List.setIfInBounds_toArray, List.set_cons_zero, List.set_cons_succ]
       refine wpAnyH_take (i := 7) (oi := { dst := some 47, op := Go.Op.load 50 (Go.Operand.tmp 46), type := 50, pos := "law.go:82", after := #[{ on := 6, ground := Go.Ground.data }, { on := 2, ground := Go.Ground.guard }], guard := some (2, true) }) (v := undef) rfl (by kernel_rfl) (by kernel_rfl) (by kernel_rfl) (fun _ _ _ h => h) (Or.inr ⟨by rfl, rfl⟩) hS ?_
       simp only [Act.put, List.setIfInBounds_toArray, List.set_cons_zero, List.set_cons_succ]
       refine wpAnyH_take (i := 8) (oi := { dst := some 48, op := Go.Op.call { callee := Go.Callee.builtin Go.Builtin.len, args := #[Go.Operand.tmp 47], argTypes := #[50] }, type := 3, pos := "law.go:82", after := #[{ on := 7, ground := Go.Ground.data }, { on := 2, ground := Go.Ground.guard }], guard := some (2, true) }) (v := undef) rfl (by kernel_rfl) (by kernel_rfl) (by kernel_rfl) (fun _ _ _ h => h) (Or.inr ⟨by rfl, rfl⟩) hS ?_
       simp only [Act.put, List.setIfInBounds_toArray, List.set_cons_zero, List.set_cons_succ]
       refine wpAnyH_take (i := 9) (oi := { dst := some 49, op := Go.Op.binOp Go.BinOp.add 3 (Go.Operand.tmp 45) (Go.Operand.tmp 48) 3, type := 3, pos := "law.go:82", after := #[{ on := 5, ground := Go.Ground.data }, { on := 8, ground := Go.Ground.data }, { on := 2, ground := Go.Ground.guard }], guard := some (2, true) }) (v := undef) rfl (by kernel_rfl) (by kernel_rfl) (by kernel_rfl) (fun _ _ _ h => h) (Or.inr ⟨by rfl, rfl⟩) hS ?_
       simp only [Act.put, List.setIfInBounds_toArray, List.set_cons_zero, List.set_cons_succ]
       refine wpAnyH_take (i := 10) (oi := { dst := some 50, op := Go.Op.binOp Go.BinOp.eql 3 (Go.Operand.tmp 49) (Go.Operand.const (Go.Value.int Go.IntKind.i64 0)) 3, type := 4, pos := "law.go:82", after := #[{ on := 9, ground := Go.Ground.data }, { on := 2, ground := Go.Ground.guard }], guard := some (2, true) }) (v := undef) rfl (by kernel_rfl) (by kernel_rfl) (by kernel_rfl) (fun _ _ _ h => h) (Or.inr ⟨by rfl, rfl⟩) hS ?_
       simp only [Act.put, List.setIfInBounds_toArray, List.set_cons_zero, List.set_cons_succ]
       refine wpAnyH_take (i := 11) (oi := { dst := some 51, op := Go.Op.pick (Go.Operand.tmp 42) (Go.Operand.tmp 50) (Go.Operand.const (Go.Value.bool false)), type := 4, pos := "law.go:82", after := #[{ on := 2, ground := Go.Ground.data }, { on := 10, ground := Go.Ground.data }], guard := none }) (v := .bool false) rfl (by kernel_rfl) (by kernel_rfl) (by kernel_rfl) (fun _ _ _ h => h) (Or.inl ⟨by rfl, ?_⟩) hS ?_
       · intro W hW; obtain ⟨hW1, hW2, _⟩ := hW; first | (go_simp; done) | (go_simp; with_reducible rfl) | (go_simp; decide) | (go_simp; rfl)
       simp only [Act.put, List.setIfInBounds_toArray, List.set_cons_zero, List.set_cons_succ]
       refine wpAnyH_take (i := 12) (oi := { dst := some 52, op := Go.Op.move (Go.Operand.tmp 51), type := 4, pos := "law.go:82", after := #[{ on := 11, ground := Go.Ground.data }, { on := 2, ground := Go.Ground.chain }], guard := none }) (v := .bool false) rfl (by kernel_rfl) (by kernel_rfl) (by kernel_rfl) (fun _ _ _ h => h) (Or.inl ⟨by rfl, ?_⟩) hS ?_
       · intro W hW; obtain ⟨hW1, hW2, _⟩ := hW; first | (go_simp; done) | (go_simp; with_reducible rfl) | (go_simp; decide) | (go_simp; rfl)
       simp only [Act.put, List.setIfInBounds_toArray, List.set_cons_zero, List.set_cons_succ]
       refine wpAnyH_take (i := 13) (oi := { dst := some 53, op := Go.Op.move (Go.Operand.tmp 10), type := 4, pos := "law.go:82", after := #[{ on := 12, ground := Go.Ground.guard }], guard := some (12, false) }) (v := .bool true) rfl (by kernel_rfl) (by kernel_rfl) (by kernel_rfl) (fun _ _ _ h => h) (Or.inl ⟨by rfl, ?_⟩) hS ?_
       · intro W hW; obtain ⟨hW1, hW2, _⟩ := hW; first | (go_simp; done) | (go_simp; with_reducible rfl) | (go_simp; decide) | (go_simp; rfl)
       simp only [Act.put, List.setIfInBounds_toArray, List.set_cons_zero, List.set_cons_succ]
       refine wpAnyH_take (i := 14) (oi := { dst := some 54, op := Go.Op.move (Go.Operand.tmp 53), type := 4, pos := "law.go:82", after := #[{ on := 13, ground := Go.Ground.data }, { on := 12, ground := Go.Ground.chain }, { on := 12, ground := Go.Ground.guard }], guard := some (12, false) }) (v := .bool true) rfl (by kernel_rfl) (by kernel_rfl) (by kernel_rfl) (fun _ _ _ h => h) (Or.inl ⟨by rfl, ?_⟩) hS ?_
       · intro W hW; obtain ⟨hW1, hW2, _⟩ := hW; first | (go_simp; done) | (go_simp; with_reducible rfl) | (go_simp; decide) | (go_simp; rfl)
       simp only [Act.put, List.setIfInBounds_toArray, List.set_cons_zero, List.set_cons_succ]
       refine wpAnyH_take (i := 15) (oi := { dst := some 55, op := Go.Op.load 52 (Go.Operand.tmp 9), type := 52, pos := "law.go:82", after := #[{ on := 14, ground := Go.Ground.guard }], guard := some (14, true) }) (v := .agg #[.slice a4 NF.vs.length c4, .slice b4 NF.ks.length d4]) rfl (by kernel_rfl) (by kernel_rfl) (by kernel_rfl) (fun _ _ _ h => h) (Or.inl ⟨by rfl, ?_⟩) hS ?_
       · intro W hW; obtain ⟨hW1, hW2, _⟩ := hW; first | (go_simp; done) | (go_simp; with_reducible rfl) | (go_simp; decide) | (go_simp; rfl)
       simp only [Act.put, List.setIfInBounds_toArray, List.set_cons_zero, List.set_cons_succ]
       refine wpAnyH_take (i := 16) (oi := { dst := some 56, op := Go.Op.move (Go.Operand.tmp 7), type := 22, pos := "law.go:82", after := #[{ on := 14, ground := Go.Ground.guard }], guard := some (14, true) }) (v := .slice r T.length c) rfl (by kernel_rfl) (by kernel_rfl) (by kernel_rfl) (fun _ _ _ h => h) (Or.inl ⟨by rfl, ?_⟩) hS ?_
       · intro W hW; obtain ⟨hW1, hW2, _⟩ := hW; first | (go_simp; done) | (go_simp; with_reducible rfl) | (go_simp; decide) | (go_simp; rfl)
       simp only [Act.put, List.setIfInBounds_toArray, List.set_cons_zero, List.set_cons_succ]
       refine wpAnyH_take (i := 17) (oi := { dst := some 57, op := Go.Op.move (Go.Operand.tmp 1), type := 9, pos := "law.go:82", after := #[{ on := 14, ground := Go.Ground.guard }], guard := some (14, true) }) (v := .string dir) rfl (by kernel_rfl) (by kernel_rfl) (by kernel_rfl) (fun _ _ _ h => h) (Or.inl ⟨by rfl, ?_⟩) hS ?_
       · intro W hW; obtain ⟨hW1, hW2, _⟩ := hW; first | (go_simp; done) | (go_simp; with_reducible rfl) | (go_simp; decide) | (go_simp; rfl)
       simp only [Act.put, List.setIfInBounds_toArray, List.set_cons_zero, List.set_cons_succ]
       refine wpAnyH_ready (rs := [18]) (by kernel_rfl) (by simp) (AllReadyH.cons (o := { dst := some 58, op := Go.Op.call { callee := Go.Callee.value (Go.Operand.func 28), args := #[Go.Operand.tmp 56, Go.Operand.tmp 57], argTypes := #[22, 9] }, type := 52, pos := "law.go:82", after := #[{ on := 16, ground := Go.Ground.data }, { on := 17, ground := Go.Ground.data }, { on := 14, ground := Go.Ground.chain }, { on := 14, ground := Go.Ground.guard }], guard := some (14, true) }) rfl (fun K hK => ?_) AllReadyH.nil)
       go_simp
       refine (unhide KRN _ hS.2.2.s).mono ?_
       rintro e w7 ⟨a7, c7, b7, d7, rfl, hat7, hb7⟩
       replace hS := keepNd hS hb7
       clear hb7
       go_wp2_with fail
       refine hK.out _ _ hS (fun _ => ?_)
       clear hK K
       refine wpAnyH_ready (rs := [19]) (by kernel_rfl) (by simp) (AllReadyH.cons (o := { dst := some 59, op := Go.Op.call { callee := Go.Callee.value (Go.Operand.func 27), args := #[Go.Operand.tmp 55, Go.Operand.tmp 58], argTypes := #[52, 52] }, type := 4, pos := "law.go:82", after := #[{ on := 15, ground := Go.Ground.data }, { on := 18, ground := Go.Ground.data }, { on := 18, ground := Go.Ground.chain }, { on := 14, ground := Go.Ground.guard }], guard := some (14, true) }) rfl (fun K hK => ?_) AllReadyH.nil)
       go_simp
       refine (refSameN_any a4 c4 b4 d4 NF (unhide HNOK) a7 c7 b7 d7 NF (unhide HNOK) _ hS.2.2.n hat7 true (by simp)).mono ?_
       rintro e w8 ⟨rfl, hb8⟩
       replace hS := keepNd hS hb8
       clear hb8
       go_wp2_with fail
       refine hK.out _ _ hS (fun _ => ?_)
       clear hK K
       refine wpAnyH_take (i := 20) (oi := { dst := some 60, op := Go.Op.pick (Go.Operand.tmp 54) (Go.Operand.tmp 59) (Go.Operand.const (Go.Value.bool false)), type := 4, pos := "law.go:82", after := #[{ on := 14, ground := Go.Ground.data }, { on := 19, ground := Go.Ground.data }, { on := 12, ground := Go.Ground.guard }], guard := some (12, false) }) (v := .bool true) rfl (by kernel_rfl) (by kernel_rfl) (by kernel_rfl) (fun _ _ _ h => h) (Or.inl ⟨by rfl, ?_⟩) hS ?_
       · intro W hW; obtain ⟨hW1, hW2, _⟩ := hW; first | (go_simp; done) | (go_simp; with_reducible rfl) | (go_simp; decide) | (go_simp; rfl)
       simp only [Act.put, List.setIfInBounds_toArray, List.set_cons_zero, List.set_cons_succ]
       refine wpAnyH_take (i := 21) (oi := { dst := some 61, op := Go.Op.pick (Go.Operand.tmp 52) (Go.Operand.const (Go.Value.bool true)) (Go.Operand.tmp 60), type := 4, pos := "law.go:82", after := #[{ on := 12, ground := Go.Ground.data }, { on := 20, ground := Go.Ground.data }], guard := none }) (v := .bool true) rfl (by kernel_rfl) (by kernel_rfl) (by kernel_rfl) (fun _ _ _ h => h) (Or.inl ⟨by rfl, ?_⟩) hS ?_
       · intro W hW; obtain ⟨hW1, hW2, _⟩ := hW; first | (go_simp; done) | (go_simp; with_reducible rfl) | (go_simp; decide) | (go_simp; rfl)
       simp only [Act.put, List.setIfInBounds_toArray, List.set_cons_zero, List.set_cons_succ]
       refine wpAnyH_take (i := 22) (oi := { dst := some 62, op := Go.Op.move (Go.Operand.tmp 61), type := 4, pos := "law.go:82", after := #[{ on := 21, ground := Go.Ground.data }, { on := 19, ground := Go.Ground.chain }], guard := none }) (v := .bool true) rfl (by kernel_rfl) (by kernel_rfl) (by kernel_rfl) (fun _ _ _ h => h) (Or.inl ⟨by rfl, ?_⟩) hS ?_
       · intro W hW; obtain ⟨hW1, hW2, _⟩ := hW; first | (go_simp; done) | (go_simp; with_reducible rfl) | (go_simp; decide) | (go_simp; rfl)
       simp only [Act.put, List.setIfInBounds_toArray, List.set_cons_zero, List.set_cons_succ]
       refine wpAnyH_ready (rs := [23]) (by kernel_rfl) (by simp) (AllReadyH.cons (o := { dst := some 63, op := Go.Op.call { callee := Go.Callee.value (Go.Operand.func 10), args := #[], argTypes := #[] }, type := 4, pos := "law.go:82", after := #[{ on := 22, ground := Go.Ground.chain }, { on := 22, ground := Go.Ground.guard }], guard := some (22, true) }) rfl (fun K hK => ?_) AllReadyH.nil)
       go_simp
       refine (unhide KA _ hS.2.2.s.e).mono ?_
       rintro e w9 ⟨rfl, hb9⟩
       replace hS := keepNd hS hb9
       clear hb9
       go_wp2_with fail
       refine hK.out _ _ hS (fun _ => ?_)
       clear hK K
       refine wpAnyH_take (i := 24) (oi := { dst := some 64, op := Go.Op.pick (Go.Operand.tmp 62) (Go.Operand.tmp 63) (Go.Operand.const (Go.Value.bool false)), type := 4, pos := "law.go:82", after := #[{ on := 22, ground := Go.Ground.data }, { on := 23, ground := Go.Ground.data }], guard := none }) (v := .bool true) rfl (by kernel_rfl) (by kernel_rfl) (by kernel_rfl) (fun _ _ _ h => h) (Or.inl ⟨by rfl, ?_⟩) hS ?_
       · intro W hW; obtain ⟨hW1, hW2, _⟩ := hW; first | (go_simp; done) | (go_simp; with_reducible rfl) | (go_simp; decide) | (go_simp; rfl)
       simp only [Act.put, List.setIfInBounds_toArray, List.set_cons_zero, List.set_cons_succ]
       refine wpAnyH_take (i := 25) (oi := { dst := some 4, op := Go.Op.assign (Go.Operand.tmp 64), type := 4, pos := "law.go:82", after := #[{ on := 24, ground := Go.Ground.data }, { on := 23, ground := Go.Ground.chain }, { on := 0, ground := Go.Ground.phase }, { on := 1, ground := Go.Ground.phase }, { on := 2, ground := Go.Ground.phase }, { on := 3, ground := Go.Ground.phase }, { on := 4, ground := Go.Ground.phase }, { on := 5, ground := Go.Ground.phase }, { on := 6, ground := Go.Ground.phase }, { on := 7, ground := Go.Ground.phase }, { on := 8, ground := Go.Ground.phase }, { on := 9, ground := Go.Ground.phase }, { on := 10, ground := Go.Ground.phase }, { on := 11, ground := Go.Ground.phase }, { on := 12, ground := Go.Ground.phase }, { on := 13, ground := Go.Ground.phase }, { on := 14, ground := Go.Ground.phase }, { on := 15, ground := Go.Ground.phase }, { on := 16, ground := Go.Ground.phase }, { on := 17, ground := Go.Ground.phase }, { on := 18, ground := Go.Ground.phase }, { on := 19, ground := Go.Ground.phase }, { on := 20, ground := Go.Ground.phase }, { on := 21, ground := Go.Ground.phase }, { on := 22, ground := Go.Ground.phase }, { on := 23, ground := Go.Ground.phase }, { on := 24, ground := Go.Ground.phase }], guard := none }) (v := .bool true) rfl (by kernel_rfl) (by kernel_rfl) (by kernel_rfl) (fun _ _ _ h => h) (Or.inl ⟨by rfl, ?_⟩) hS ?_
       · intro W hW; obtain ⟨hW1, hW2, _⟩ := hW; first | (go_simp; done) | (go_simp; with_reducible rfl) | (go_simp; decide) | (go_simp; rfl)
       simp only [Act.put, List.setIfInBounds_toArray, List.set_cons_zero, List.set_cons_succ]
       refine wpAnyH_done (by kernel_rfl) ?_ _
       have HF := hide hS.2.2
       clear hS hS6 z0 z1
       go_wp2_with fail
       go_ret
       exact ⟨by first | rfl | simp, (unhide HF).s.b⟩
end Go.Proofs.YtebjlmnhpfoglaaGreatDoor
