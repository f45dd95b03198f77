/-
  The node of a directory: the document's. Conditions: those that each theorem names.
-/
import Derived.Test.YtebjlmnhpfoglaaGreatDoorB16
import Derived.Test.YtebjlmnhpfoglaaGreatDoorB14
import Derived.Test.YtebjlmnhpfoglaaGreatDoorB17
import Derived.Test.YtebjlmnhpfoglaaGreatDoorB20
import Derived.Deep.AppendLies
import Derived.Deep.RegionHeld3
namespace Go.Proofs.YtebjlmnhpfoglaaGreatDoor
open Go.RowKit

/-- A row of kids of the call's own. -/
def OKid (W : World) (base : Nat) (v : Value) (l : List Kd) : Prop := W.ownsRow base 86 33 v l.length (flatK l)
theorem OKid.nil (W : World) (base : Nat) : OKid W base (.slice none 0 0) [] := World.ownsRow_nil _ _ _ _
theorem OKid.after {W W' : World} {base : Nat} {v : Value} {l : List Kd} (h : OKid W base v l) (hb : Below W.heap.size W W') : OKid W' base v l := by
  refine ⟨h.1, ?_⟩
  rcases h.2 with h2 | ⟨g, cap, cur, e1, e2, e3, e4⟩
  · exact .inl h2
  · exact .inr ⟨g, cap, cur, e1, e2, (hb.block g (Array.getElem?_eq_some_iff.1 e3).1).trans e3, e4⟩
theorem OKid.only {W W' : World} {base B : Nat} {v : Value} {l : List Kd} (h : OKid W base v l) (ho : Only B W W') (hB : B < base) : OKid W' base v l := by
  refine ⟨h.1, ?_⟩
  rcases h.2 with h2 | ⟨g, cap, cur, e1, e2, e3, e4⟩
  · exact .inl h2
  · exact .inr ⟨g, cap, cur, e1, e2, (ho.block g (by omega)).trans e3, e4⟩
theorem exec_buildK (ev : Operand → Value) (o : Oper) (x y : Operand) (ho : o.op = .build 86 #[(0, x), (1, y)]) (s : ByteArray) (d : List UInt8) (hx : ev x = .string s) (hy : ev y = .agg (d.map byteVal).toArray) (hd : d.length = 32) (W : World) :
    (execOp ev o).run Tryz.prog W = .ok (.value (.agg (kL (s, d)).toArray)) W := by
  have hr := run_buildK s d hd W
  rw [← hx, ← hy] at hr
  unfold execOp
  simp only [ho]
  have e : (#[(0, x), (1, y)] : Array (Nat × Operand)).map (fun (i, x) => (i, ev x)) = #[(0, ev x), (1, ev y)] := by simp
  rw [e]
  simp only [Sem.run_bind, hr, Result.andThen_ok]
  rfl
theorem stepR_sliceK {w : World} {ops : Array Oper} {o : Oper} {a : Act} {K : Act → World → Prop} {Q : Exit → Act → World → Prop} {E : Prop} (hgd : o.guard = none) (x : Operand) (ho : o.op = .buildSlice 50 1 #[(0, x)])
    (k : Kd) (hx : a.eval x = .agg (kL k).toArray) (hd : k.2.length = 32)
    (h : K (a.put o.dst (.slice (some ⟨w.heap.size, 0, none⟩) 1 1)) (w.alloc (.cells (kL k).toArray 86))) : if Region.wanted o (yielded ops a.tmps) = true then Oper.wp Tryz.prog o a w K Q else E := by
  rw [if_pos (by simp [Region.wanted, hgd])]
  have hr := run_sliceK k hd w
  rw [← hx] at hr
  unfold Oper.wp execOp
  simp only [ho]
  have e : (#[(0, x)] : Array (Nat × Operand)).map (fun (i, x) => (i, a.eval x)) = #[(0, a.eval x)] := by simp
  rw [e]
  simp only [Sem.run_bind, hr, Result.andThen_ok]
  exact h
theorem stepR_appendK {w : World} {ops : Array Oper} {o : Oper} {a : Act} {K : Act → World → Prop} {Q : Exit → Act → World → Prop} {E : Prop} (hgd : o.guard = none) (s x : Operand)
    (ho : o.op = .call { callee := .builtin .append, args := #[s, x], argTypes := #[50, 50] }) (base : Nat) (v : Value) (l : List Kd) (hs : a.eval s = v) (hown : OKid w base v l)
    (g c : Nat) (k : Kd) (hk : k.2.length = 32) (hx : a.eval x = .slice (some ⟨g, 0, none⟩) 1 c) (hsl : w.rangeAt g 0 (kL k)) (hn : l.length ≤ 150000) (hbase : base ≤ w.heap.size)
    (h : ∀ g' cap w', OKid w' base (.slice (some ⟨g', 0, none⟩) (l.length + 1) cap) (l ++ [k]) → Below base w w' → K (a.put o.dst (.slice (some ⟨g', 0, none⟩) (l.length + 1) cap)) w') :
    if Region.wanted o (yielded ops a.tmps) = true then Oper.wp Tryz.prog o a w K Q else E := by
  obtain ⟨i0, hi, hz0, hz1, hz2⟩ := info_parts infoK
  refine step_append_lies w hgd s x 50 ho base 86 i0 _ 33 48 Tryz.underlying50 hi hz0 hz1 hz2 rfl (by decide) v l.length (flatK l) hs hown ⟨g, 0, none⟩ 1 c (kL k) hx (by rw [kL_len hk]) ?_ (kL_one k) (by decide) (by unfold maxLen; omega) (by omega) hbase w.heap.size rfl ?_
  · intro j u hu
    rw [addr_add]
    exact hsl j u hu
  · intro g' cap w' g1 g2 _ _
    refine h g' cap w' ?_ (grown_below hown g2 hbase)
    unfold OKid
    rw [List.length_append, flatK_append]
    have e : flatK [k] = kL k := by simp [flatK]
    rw [e]
    exact g1
theorem OKid.sk {W : World} {base : Nat} {v : Value} {l : List Kd} (hd : Digs l) (h : OKid W base v l) : ∃ a cap, v = .slice a l.length cap ∧ l.length ≤ cap ∧ SK W a l := by
  obtain ⟨a, cap, h1, h2, h3, _⟩ := own_sk hd h
  exact ⟨a, cap, h1, h2, h3⟩
def NodeMade (w : World) (n : Nd) (e : Ending) (w' : World) : Prop := ∃ a c b d, e = .returned (.agg (ndL n a c b d).toArray) ∧ NdAt w' n a c b d ∧ Below w.heap.size w w'
theorem node_ok {t : List En} (ht : Eok t) (d : ByteArray) : Nok (nodeF t d) ∧ (∀ v ∈ (nodeF t d).vs, v.data.size ≤ 9223372036854775807) := by
  have hd := node_digs t d
  rw [nodeF_eq] at hd ⊢
  have hl := len_names t d
  have h5 := ht.len
  refine ⟨⟨?_, by simp only [List.length_map]; omega, hd, fun k hk => ?_⟩, ?_⟩
  · by_cases e : getT t d = []
    · rw [e]
      exact ⟨by simp, fun _ h => by cases h⟩
    · exact ht.few _ (getT_some e)
  · obtain ⟨s, hs, rfl⟩ := List.mem_map.1 hk
    have := isN_size (names_isN s hs)
    exact Nat.le_trans this (by omega)
  · by_cases e : getT t d = []
    · intro v hv
      rw [show (⟨getT t d, _⟩ : Nd).vs = getT t d from rfl, e] at hv
      cases hv
    · exact ht.data _ (getT_some e)
theorem results_node {fn : Func} (hf : fn.results = #[.cell 4 52]) (tmps : Array Value) (w : World) (g : Nat) (vs : List Value) (hp : tmps.getD 4 undef = .pointer (some ⟨g, 0, none⟩)) (hr : VRow w g 52 vs) (hn : vs.length = 2) :
    (results fn tmps).run Tryz.prog w = .ok (.agg vs.toArray) w := by
  have hp' : tmps[4]?.getD undef = .pointer (some ⟨g, 0, none⟩) := by simpa using hp
  have hl := run_loadVar_row (P := Tryz.prog) w g 52 52 vs.toArray (0, 0) _ hr Tryz.underlying52 rfl (by rw [sizeNd]; simp [hn])
  simp [results, hf, hp', asAddr, hl]
def kidsT (t : List En) (d : ByteArray) (l : List ByteArray) : List Kd := l.map fun s => (s, sumN (nodeF t (downE d s)))
theorem kids_digs (t : List En) (d : ByteArray) (l : List ByteArray) : Digs (kidsT t d l) := by
  intro k hk
  obtain ⟨s, _, rfl⟩ := List.mem_map.1 hk
  exact sumN_len _
theorem kids_snoc (t : List En) (d : ByteArray) (l : List ByteArray) (j : Nat) (s : ByteArray) (h : l[j]? = some s) : kidsT t d (l.take (j + 1)) = kidsT t d (l.take j) ++ [(s, sumN (nodeF t (downE d s)))] := by
  unfold kidsT
  rw [List.take_add_one, h]
  simp

/-- What the walk keeps: the two nodes' blocks, the kids so far, the names. -/
structure NS (w : World) (base : Nat) (V KV : Value) (ks : List Kd) (a4 : Option Addr) (N : List ByteArray) (W : World) : Prop where
  r4 : VRow W w.heap.size 52 zeroN
  r5 : VRow W (w.heap.size + 1) 52 [V, KV]
  ow : OKid W base KV ks
  sl : Pth.Sl W a4 N
  fr : ∀ g o, a4 = some ⟨g, o, none⟩ → 0 < N.length → w.heap.size + 2 ≤ g ∧ g < base
  bl : Below w.heap.size w W
  sz : base ≤ W.heap.size
  b2 : w.heap.size + 2 ≤ base
section
variable {w W W' : World} {base : Nat} {V KV : Value} {ks : List Kd} {a4 : Option Addr} {N : List ByteArray}
theorem NS.after (h : NS w base V KV ks a4 N W) (hb : Below W.heap.size W W') : NS w base V KV ks a4 N W' :=
  ⟨h.r4.after hb, h.r5.after hb, h.ow.after hb, h.sl.after hb, h.fr, below_grow h.bl (Nat.le_refl _) hb, Nat.le_trans h.sz hb.size, h.b2⟩
theorem NS.put (h : NS w base V KV ks a4 N W) {v' : Value} {ks' : List Kd} (ho : OKid W' base v' ks') (hb : Below base W W') : NS w base V v' ks' a4 N (W'.setCell ⟨w.heap.size + 1, 1, none⟩ v') := by
  have h2 := h.b2
  have hon := only_set W' (w.heap.size + 1) 1 v'
  have r5 := (h.r5.below hb (by omega)).set 1 v'
  have r4 : VRow (W'.setCell ⟨w.heap.size + 1, 1, none⟩ v') w.heap.size 52 zeroN := (h.r4.below hb (show w.heap.size < base by omega)).only hon (by omega)
  have o5 : OKid (W'.setCell ⟨w.heap.size + 1, 1, none⟩ v') base v' ks' := ho.only hon (show w.heap.size + 1 < base by omega)
  have b5 : Below w.heap.size w (W'.setCell ⟨w.heap.size + 1, 1, none⟩ v') := (h.bl.trans (hb.mono (show w.heap.size ≤ base by omega))).trans (hon.below (Nat.le_succ _))
  refine ⟨r4, r5, o5, fun h0 => ?_, h.fr, b5, ?_, h2⟩
  · obtain ⟨g, o, e, hg, hc⟩ := h.sl h0
    obtain ⟨f1, f2⟩ := h.fr g o e h0
    refine ⟨g, o, e, ?_, fun j b hj => ?_⟩
    · rw [hon.size]
      exact Nat.lt_of_lt_of_le hg hb.size
    · have h3 := (hb.cell (p := ⟨g, o + j, none⟩) f2).trans (hc j b hj)
      exact (World.cell?_of_block (hon.block g (by omega))).trans h3
  · rw [hon.size]
    exact Nat.le_trans h.sz hb.size
theorem NS.cell (h : NS w base V KV ks a4 N W) : W.cell? ⟨w.heap.size + 1, 1, none⟩ = some KV ∧ W.frozen? ⟨w.heap.size + 1, 1, none⟩ = false := ⟨h.r5.cell 1 _ rfl, h.r5.frozen 1⟩
theorem NS.cellB (h : NS w base V KV ks a4 N W) (hb : Below base W W') : W'.cell? ⟨w.heap.size + 1, 1, none⟩ = some KV ∧ W'.frozen? ⟨w.heap.size + 1, 1, none⟩ = false :=
  have h2 := h.b2
  ⟨(h.r5.below hb (by omega)).cell 1 _ rfl, (h.r5.below hb (by omega)).frozen 1⟩
end

set_option maxRecDepth 100000 in
set_option maxHeartbeats 4000000 in
theorem refNode_step (a : Option Addr) (cap : Nat) (t : List En) (ht : Eok t) (d : ByteArray) (hd : d.size ≤ 1000) (w : World) (h : EL w a t) (hG : Hsh.RefKeys w) (h3 : 3 < w.heap.size)
    (ih : ∀ s ∈ namesT t d, ∀ W, EL W a t → Hsh.RefKeys W → 3 < W.heap.size → Calls Tryz.prog 28 #[.slice a t.length cap, .string (downE d s)] W (NodeMade W (nodeF t (downE d s)))) :
    Calls Tryz.prog 28 #[.slice a t.length cap, .string d] w (NodeMade w (nodeF t d)) := by
  have KG := hide fun W (hb : Below w.heap.size w W) => refGetT_any a cap t (by have := ht.len; omega) d w W hb h
  have KN := hide fun W (h : EL W a t) => refNames_any a cap t ht d hd W h
  have HS := hide h
  have HG := hide hG
  have HB0 := hide (below_alloc' (w := w) (.cells zeroN.toArray 52))
  have HPB := hide (fun s (hs : s ∈ namesT t d) => isN_size (parts_below (t := t) hs).2.1)
  have IH := hide ih
  have HOKN := hide (fun q => node_ok ht q)
  have HKS := hide (fun l j s h => kids_snoc t d l j s h)
  have HKD := hide (fun l => kids_digs t d l)
  have HNL := hide (len_names t d)
  have htl := ht.len
  have HNF := hide (nodeF_eq t d)
  obtain ⟨NF, hNF⟩ : ∃ NF, nodeF t d = NF := ⟨_, rfl⟩
  rw [hNF] at HNF ⊢
  obtain ⟨N, hN⟩ : ∃ N, namesT t d = N := ⟨_, rfl⟩
  rw [hN] at HNF KN HPB HNL IH
  obtain ⟨G, hG2⟩ : ∃ G, getT t d = G := ⟨_, rfl⟩
  rw [hG2] at HNF KG
  clear h hG ih ht hNF hN hG2
  unfold zeroN at HB0
  go_enter Tryz.func28, Tryz.ntmps28
  go_wp2_with fail
  refine (unhide KG _ (unhide HB0)).mono ?_
  rintro e w1 ⟨r1, c1, rfl, hc1, hs1, rfl⟩
  have HS1 := hide hs1
  clear hs1
  go_wp2_with fail
  have HR4 := hide ((VRow.new w 52 zeroN).alloc (.cells #[.slice r1 G.length c1, .slice none 0 0] 52))
  have HR5 := hide (VRow.newAt (W := w.alloc (.cells zeroN.toArray 52)) (T := 52) (n := w.heap.size + 1) (vs := [.slice r1 G.length c1, .slice none 0 0]) (by simp))
  have HB2 := hide ((unhide HB0).alloc (by simp) (.cells #[.slice r1 G.length c1, .slice none 0 0] 52))
  have HZ2 : Hid (((w.alloc (.cells zeroN.toArray 52)).alloc (.cells #[.slice r1 G.length c1, .slice none 0 0] 52)).heap.size = w.heap.size + 2) := hide (by simp)
  unfold zeroN at HR4 HR5 HZ2
  generalize (w.alloc (.cells _ 52)).alloc (.cells _ 52) = W2 at HR4 HR5 HB2 HZ2 ⊢
  refine (unhide KN _ ((unhide HS).after (unhide HB2))).mono ?_
  rintro e w3 ⟨a4, c4, rfl, hc4, hsl4, hfr4, hb3⟩
  have HNS0 : Hid (NS w w3.heap.size (.slice r1 G.length c1) (.slice none 0 0) [] a4 N w3) := hide ⟨(unhide HR4).after hb3, (unhide HR5).after hb3, OKid.nil _ _, hsl4, fun g o e h0 => by
      have h1 := hfr4 g o e
      obtain ⟨g', o', e', hg', _⟩ := hsl4 h0
      rw [e] at e'
      injection e' with e'
      injection e' with e1
      rw [unhide HZ2] at h1
      exact ⟨h1, by rw [e1]; exact hg'⟩, below_grow (unhide HB2) (Nat.le_refl _) hb3, Nat.le_refl _, by have := hb3.size; rw [unhide HZ2] at this; exact this⟩
  have HNT : Hid (N.length ≤ 50000) := hide (by have := unhide HNL; omega)
  clear hsl4 hfr4 hb3 HR4 HR5 HB2 HZ2 HB0 KN KG HNL
  go_wp2_with fail
  go_loopw [7] (fun i wr => ∃ (j : Nat) (KV : Value), j ≤ N.length ∧ i = .int .i64 j ∧ NS w w3.heap.size (.slice r1 G.length c1) KV (kidsT t d (N.take j)) a4 N wr) (fun i _ => N.length - (intOf i).toNat)
  case atStart => exact ⟨0, _, Nat.zero_le _, rfl, unhide HNS0⟩
  case round =>
    obtain ⟨j, KV, hj, rfl, hns⟩ := hrel
    have hnt := unhide HNT
    have HN := hide hns
    by_cases hlt : j < N.length
    · obtain ⟨s, hs⟩ : ∃ s, N[j]? = some s := ⟨_, List.getElem?_eq_getElem hlt⟩
      obtain ⟨g, o, rfl, hg, hcell⟩ := hns.sl (by omega)
      have z0 := hcell j s hs
      have hsm := List.mem_of_getElem? hs
      have HSN := hide (unhide HKS N j s hs)
      have HI := hide (unhide IH s hsm)
      have hss := unhide HPB s hsm
      have HOK := hide (unhide HOKN (downE d s))
      have hkl : (kidsT t d (N.take j)).length ≤ 50000 := by unfold kidsT; rw [List.length_map, List.length_take]; have := unhide HNT; omega
      have HD32 : Hid ((sumN (nodeF t (downE d s))).length = 32) := hide (sumN_len _)
      generalize kidsT t d (N.take j) = KS at HN HSN hkl
      have HSUM := hide (fun (A : Option Addr) (C : Nat) (B : Option Addr) (D : Nat) (W : World) (hat : NdAt W (nodeF t (downE d s)) A C B D) (hk : Hsh.RefKeys W) (h3 : 3 < W.heap.size) => refSumN_any A C B D _ (unhide HOK).1 (unhide HOK).2 W hat hk h3)
      generalize nodeF t (downE d s) = M at HI HSN HSUM HOK HD32
      generalize sumN M = S at HSN HSUM HD32
      have KD := hide (fun W => refDown_any d s (by omega) (by omega) W)
      generalize downE d s = E at KD HI
      clear hns hcell hs hsm hg hss HOK
      go_wp2_with fail
      refine wp_region_held_drew (S := fun W => W.cell? ⟨g, o + j, none⟩ = some (.string s)) (by kernel_rfl) z0 (fun hS => ?_)
      have HN0 := hide (show NS w w3.heap.size (.slice r1 G.length c1) KV KS (some ⟨g, o, none⟩) N wr.drew from (unhide HN).after (below_drew (Below.refl _ _)))
      clear HN
      obtain ⟨k0, f0⟩ := (unhide HN0).cell
      refine wpAnyH_take (i := 0) (oi := { dst := some 21, op := Go.Op.fieldAddr 52 (Go.Operand.tmp 5) 1, type := 0, pos := "ref.go:92", after := #[], guard := none }) (v := .pointer (some ⟨w.heap.size + 1, 1, none⟩)) rfl (by kernel_rfl) (by kernel_rfl) (by kernel_rfl) (fun _ _ _ h => h) (Or.inl ⟨by rfl, ?_⟩) hS ?_
      · intro W hW; first | (go_simp; done) | (go_simp; with_reducible rfl)
      simp only [Act.put, List.setIfInBounds_toArray, List.set_cons_zero, List.set_cons_succ]
      refine wpAnyH_take (i := 2) (oi := { dst := some 23, op := Go.Op.move (Go.Operand.tmp 6), type := 67, pos := "ref.go:92", after := #[], guard := none }) (v := .slice (some ⟨g, o, none⟩) N.length c4) rfl (by kernel_rfl) (by kernel_rfl) (by kernel_rfl) (fun _ _ _ h => h) (Or.inl ⟨by rfl, ?_⟩) hS ?_
      · intro W hW; first | (go_simp; done) | (go_simp; with_reducible rfl)
      simp only [Act.put, List.setIfInBounds_toArray, List.set_cons_zero, List.set_cons_succ]
      refine wpAnyH_take (i := 3) (oi := { dst := some 24, op := Go.Op.move (Go.Operand.tmp 7), type := 3, pos := "ref.go:92", after := #[], guard := none }) (v := .int .i64 j) rfl (by kernel_rfl) (by kernel_rfl) (by kernel_rfl) (fun _ _ _ h => h) (Or.inl ⟨by rfl, ?_⟩) hS ?_
      · intro W hW; first | (go_simp; done) | (go_simp; with_reducible rfl)
      simp only [Act.put, List.setIfInBounds_toArray, List.set_cons_zero, List.set_cons_succ]
      refine wpAnyH_take (i := 4) (oi := { dst := some 25, op := Go.Op.indexAddr 67 (Go.Operand.tmp 23) (Go.Operand.tmp 24), type := 0, pos := "ref.go:92", after := #[{ on := 2, ground := Go.Ground.data }, { on := 3, ground := Go.Ground.data }], guard := none }) (v := .pointer (some ⟨g, o + j, none⟩)) rfl (by kernel_rfl) (by kernel_rfl) (by kernel_rfl) (fun _ _ _ h => h) (Or.inl ⟨by rfl, ?_⟩) hS ?_
      · intro W hW; first | (go_simp; done) | (go_simp; with_reducible rfl)
      simp only [Act.put, List.setIfInBounds_toArray, List.set_cons_zero, List.set_cons_succ]
      refine wpAnyH_take (i := 5) (oi := { dst := some 26, op := Go.Op.load 9 (Go.Operand.tmp 25), type := 9, pos := "ref.go:92", after := #[{ on := 4, ground := Go.Ground.data }], guard := none }) (v := .string s) rfl (by kernel_rfl) (by kernel_rfl) (by kernel_rfl) (fun _ _ _ h => h) (Or.inl ⟨by rfl, ?_⟩) hS ?_
      · intro W hW; first | (go_simp; done) | (go_simp; with_reducible rfl)
      simp only [Act.put, List.setIfInBounds_toArray, List.set_cons_zero, List.set_cons_succ]
      refine wpAnyH_take (i := 6) (oi := { dst := some 27, op := Go.Op.move (Go.Operand.tmp 0), type := 22, pos := "ref.go:92", after := #[], guard := none }) (v := .slice a t.length cap) rfl (by kernel_rfl) (by kernel_rfl) (by kernel_rfl) (fun _ _ _ h => h) (Or.inl ⟨by rfl, ?_⟩) hS ?_
      · intro W hW; first | (go_simp; done) | (go_simp; with_reducible rfl)
      simp only [Act.put, List.setIfInBounds_toArray, List.set_cons_zero, List.set_cons_succ]
      refine wpAnyH_take (i := 7) (oi := { dst := some 28, op := Go.Op.move (Go.Operand.tmp 1), type := 9, pos := "ref.go:92", after := #[], guard := none }) (v := .string d) rfl (by kernel_rfl) (by kernel_rfl) (by kernel_rfl) (fun _ _ _ h => h) (Or.inl ⟨by rfl, ?_⟩) hS ?_
      · intro W hW; first | (go_simp; done) | (go_simp; with_reducible rfl)
      simp only [Act.put, List.setIfInBounds_toArray, List.set_cons_zero, List.set_cons_succ]
      refine wpAnyH_take (i := 8) (oi := { dst := some 29, op := Go.Op.move (Go.Operand.tmp 6), type := 67, pos := "ref.go:92", after := #[], guard := none }) (v := .slice (some ⟨g, o, none⟩) N.length c4) rfl (by kernel_rfl) (by kernel_rfl) (by kernel_rfl) (fun _ _ _ h => h) (Or.inl ⟨by rfl, ?_⟩) hS ?_
      · intro W hW; first | (go_simp; done) | (go_simp; with_reducible rfl)
      simp only [Act.put, List.setIfInBounds_toArray, List.set_cons_zero, List.set_cons_succ]
      refine wpAnyH_take (i := 9) (oi := { dst := some 30, op := Go.Op.move (Go.Operand.tmp 7), type := 3, pos := "ref.go:92", after := #[], guard := none }) (v := .int .i64 j) rfl (by kernel_rfl) (by kernel_rfl) (by kernel_rfl) (fun _ _ _ h => h) (Or.inl ⟨by rfl, ?_⟩) hS ?_
      · intro W hW; first | (go_simp; done) | (go_simp; with_reducible rfl)
      simp only [Act.put, List.setIfInBounds_toArray, List.set_cons_zero, List.set_cons_succ]
      refine wpAnyH_take (i := 10) (oi := { dst := some 31, op := Go.Op.indexAddr 67 (Go.Operand.tmp 29) (Go.Operand.tmp 30), type := 0, pos := "ref.go:92", after := #[{ on := 8, ground := Go.Ground.data }, { on := 9, ground := Go.Ground.data }], guard := none }) (v := .pointer (some ⟨g, o + j, none⟩)) rfl (by kernel_rfl) (by kernel_rfl) (by kernel_rfl) (fun _ _ _ h => h) (Or.inl ⟨by rfl, ?_⟩) hS ?_
      · intro W hW; first | (go_simp; done) | (go_simp; with_reducible rfl)
      simp only [Act.put, List.setIfInBounds_toArray, List.set_cons_zero, List.set_cons_succ]
      refine wpAnyH_take (i := 11) (oi := { dst := some 32, op := Go.Op.load 9 (Go.Operand.tmp 31), type := 9, pos := "ref.go:92", after := #[{ on := 10, ground := Go.Ground.data }], guard := none }) (v := .string s) rfl (by kernel_rfl) (by kernel_rfl) (by kernel_rfl) (fun _ _ _ h => h) (Or.inl ⟨by rfl, ?_⟩) hS ?_
      · intro W hW; first | (go_simp; done) | (go_simp; with_reducible rfl)
      simp only [Act.put, List.setIfInBounds_toArray, List.set_cons_zero, List.set_cons_succ]
      refine wpAnyH_ready (rs := [1, 12]) (by kernel_rfl) (by simp) (AllReadyH.cons (o := { dst := some 22, op := Go.Op.load 50 (Go.Operand.tmp 21), type := 50, pos := "ref.go:92", after := #[{ on := 0, ground := Go.Ground.data }], guard := none }) rfl (fun K hK => ?_) (AllReadyH.cons (o := { dst := some 33, op := Go.Op.call { callee := Go.Callee.value (Go.Operand.func 53), args := #[Go.Operand.tmp 28, Go.Operand.tmp 32], argTypes := #[9, 9] }, type := 9, pos := "ref.go:92", after := #[{ on := 7, ground := Go.Ground.data }, { on := 11, ground := Go.Ground.data }], guard := none }) rfl (fun K hK => ?_) AllReadyH.nil))
      · go_simp
        refine hK.out _ _ hS (fun _ => ?_)
        clear hK K
        refine wpAnyH_ready (rs := [12]) (by kernel_rfl) (by simp) (AllReadyH.cons (o := { dst := some 33, op := Go.Op.call { callee := Go.Callee.value (Go.Operand.func 53), args := #[Go.Operand.tmp 28, Go.Operand.tmp 32], argTypes := #[9, 9] }, type := 9, pos := "ref.go:92", after := #[{ on := 7, ground := Go.Ground.data }, { on := 11, ground := Go.Ground.data }], guard := none }) rfl (fun K hK => ?_) AllReadyH.nil)
        go_simp
        refine (unhide KD _).mono ?_
        rintro e w5 ⟨rfl, rfl⟩
        go_wp2_with fail
        refine hK.out _ _ hS (fun _ => ?_)
        clear hK K
        refine wpAnyH_ready (rs := [13]) (by kernel_rfl) (by simp) (AllReadyH.cons (o := { dst := some 34, op := Go.Op.call { callee := Go.Callee.value (Go.Operand.func 28), args := #[Go.Operand.tmp 27, Go.Operand.tmp 33], argTypes := #[22, 9] }, type := 52, pos := "ref.go:92", after := #[{ on := 6, ground := Go.Ground.data }, { on := 12, ground := Go.Ground.data }, { on := 12, ground := Go.Ground.chain }], guard := none }) rfl (fun K hK => ?_) AllReadyH.nil)
        go_simp
        refine (unhide HI _ ((unhide HS).after (unhide HN0).bl) ((unhide HG).below (unhide HN0).bl (by omega)) (Nat.lt_of_lt_of_le h3 (unhide HN0).bl.size)).mono ?_
        rintro e w6 ⟨a6, c6, b6, d6, rfl, hat6, hb6⟩
        have hS6 := (hb6.cell (p := ⟨g, o + j, none⟩) (block_lt_of_cell hS)).trans hS
        have HN6 := hide ((unhide HN0).after hb6)
        have HAT6 := hide hat6
        clear hb6 hat6 k0 f0
        obtain ⟨k0, f0⟩ := (unhide HN6).cell
        go_wp2_with fail
        refine hK.out _ _ hS6 (fun hS => ?_)
        clear hK K
        refine wpAnyH_ready (rs := [14]) (by kernel_rfl) (by simp) (AllReadyH.cons (o := { dst := some 35, op := Go.Op.call { callee := Go.Callee.value (Go.Operand.func 47), args := #[Go.Operand.tmp 34], argTypes := #[52] }, type := 46, pos := "ref.go:92", after := #[{ on := 13, ground := Go.Ground.data }, { on := 13, ground := Go.Ground.chain }], guard := none }) rfl (fun K hK => ?_) AllReadyH.nil)
        go_simp
        refine (unhide HSUM _ _ _ _ _ (unhide HAT6) ((unhide HG).below (unhide HN6).bl (by omega)) (Nat.lt_of_lt_of_le h3 (unhide HN6).bl.size)).mono ?_
        rintro e w7 ⟨rfl, hb7⟩
        have hS7 := (hb7.cell (p := ⟨g, o + j, none⟩) (block_lt_of_cell hS6)).trans hS6
        have HN7 := hide ((unhide HN6).after hb7)
        clear hb7 k0 f0
        obtain ⟨k0, f0⟩ := (unhide HN7).cell
        go_wp2_with fail
        refine hK.out _ _ hS7 (fun hS => ?_)
        clear hK K
        refine wpAnyH_take (i := 15) (oi := { dst := some 36, op := Go.Op.build 86 #[(0, Go.Operand.tmp 26), (1, Go.Operand.tmp 35)], type := 86, pos := "ref.go:92", after := #[{ on := 5, ground := Go.Ground.data }, { on := 14, ground := Go.Ground.data }], guard := none }) (v := .agg (kL (s, S)).toArray) rfl (by kernel_rfl) (by kernel_rfl) (by kernel_rfl) (fun _ _ _ h => h) (Or.inl ⟨by rfl, ?_⟩) hS7 ?_
        · intro W hW; exact exec_buildK _ _ _ _ (by rfl) s S (by rfl) (by rfl) (unhide HD32) W
        simp only [Act.put, List.setIfInBounds_toArray, List.set_cons_zero, List.set_cons_succ]
        refine wpAnyH_ready (rs := [16]) (by kernel_rfl) (by simp) (AllReadyH.cons (o := { dst := some 37, op := Go.Op.buildSlice 50 1 #[(0, Go.Operand.tmp 36)], type := 50, pos := "ref.go:92", after := #[{ on := 15, ground := Go.Ground.data }], guard := none }) rfl (fun K hK => ?_) AllReadyH.nil)
        refine stepR_sliceK rfl _ (by rfl) (s, S) (by rfl) (unhide HD32) ?_
        have HA8 := hide (below_alloc' (w := w7) (.cells (kL (s, S)).toArray 86))
        have HN8 := hide ((unhide HN7).after (unhide HA8))
        have HV8 := hide (VRow.new w7 86 (kL (s, S)))
        have hS8 := ((unhide HA8).cell (p := ⟨g, o + j, none⟩) (block_lt_of_cell hS7)).trans hS7
        clear k0 f0
        obtain ⟨k0, f0⟩ := (unhide HN8).cell
        refine hK.out _ _ hS8 (fun _ => ?_)
        clear hK K
        simp only [Act.put, List.setIfInBounds_toArray, List.set_cons_zero, List.set_cons_succ]
        refine wpAnyH_ready (rs := [17]) (by kernel_rfl) (by simp) (AllReadyH.cons (o := { dst := some 38, op := Go.Op.call { callee := Go.Callee.builtin Go.Builtin.append, args := #[Go.Operand.tmp 22, Go.Operand.tmp 37], argTypes := #[50, 50] }, type := 50, pos := "ref.go:92", after := #[{ on := 1, ground := Go.Ground.data }, { on := 16, ground := Go.Ground.data }, { on := 14, ground := Go.Ground.chain }], guard := none }) rfl (fun K hK => ?_) AllReadyH.nil)
        refine stepR_appendK rfl _ _ (by rfl) w3.heap.size KV KS (by rfl) (unhide HN8).ow w7.heap.size 1 (s, S) (unhide HD32) (by rfl) (unhide HV8).range (by omega) (unhide HN8).sz ?_
        intro g9 c9 w9 hok9 hb9
        have hfr := (unhide HN8).fr g o rfl (by omega)
        have hS9 := (hb9.cell (p := ⟨g, o + j, none⟩) hfr.2).trans hS8
        have HN9 := hide ((unhide HN8).put hok9 hb9)
        clear k0 f0
        obtain ⟨k0, f0⟩ := (unhide HN8).cellB hb9
        refine hK.out _ _ hS9 (fun _ => ?_)
        clear hK K hok9 hb9
        simp only [Act.put, List.setIfInBounds_toArray, List.set_cons_zero, List.set_cons_succ]
        refine wpAnyH_take (i := 18) (oi := { dst := some 39, op := Go.Op.fieldAddr 52 (Go.Operand.tmp 5) 1, type := 0, pos := "ref.go:92", after := #[{ on := 0, ground := Go.Ground.phase }, { on := 1, ground := Go.Ground.phase }, { on := 2, ground := Go.Ground.phase }, { on := 3, ground := Go.Ground.phase }, { on := 4, ground := Go.Ground.phase }, { on := 5, ground := Go.Ground.phase }, { on := 6, ground := Go.Ground.phase }, { on := 7, ground := Go.Ground.phase }, { on := 8, ground := Go.Ground.phase }, { on := 9, ground := Go.Ground.phase }, { on := 10, ground := Go.Ground.phase }, { on := 11, ground := Go.Ground.phase }, { on := 12, ground := Go.Ground.phase }, { on := 13, ground := Go.Ground.phase }, { on := 14, ground := Go.Ground.phase }, { on := 15, ground := Go.Ground.phase }, { on := 16, ground := Go.Ground.phase }, { on := 17, ground := Go.Ground.phase }], guard := none }) (v := .pointer (some ⟨w.heap.size + 1, 1, none⟩)) rfl (by kernel_rfl) (by kernel_rfl) (by kernel_rfl) (fun _ _ _ h => h) (Or.inl ⟨by rfl, ?_⟩) hS9 ?_
        · intro W hW; first | (go_simp; done) | (go_simp; with_reducible rfl)
        simp only [Act.put, List.setIfInBounds_toArray, List.set_cons_zero, List.set_cons_succ]
        refine wpAnyH_ready (rs := [19]) (by kernel_rfl) (by simp) (AllReadyH.cons (o := { dst := none, op := Go.Op.store 50 (Go.Operand.tmp 39) (Go.Operand.tmp 38), type := 0, pos := "ref.go:92", after := #[{ on := 18, ground := Go.Ground.data }, { on := 17, ground := Go.Ground.data }, { on := 17, ground := Go.Ground.chain }, { on := 0, ground := Go.Ground.phase }, { on := 1, ground := Go.Ground.phase }, { on := 2, ground := Go.Ground.phase }, { on := 3, ground := Go.Ground.phase }, { on := 4, ground := Go.Ground.phase }, { on := 5, ground := Go.Ground.phase }, { on := 6, ground := Go.Ground.phase }, { on := 7, ground := Go.Ground.phase }, { on := 8, ground := Go.Ground.phase }, { on := 9, ground := Go.Ground.phase }, { on := 10, ground := Go.Ground.phase }, { on := 11, ground := Go.Ground.phase }, { on := 12, ground := Go.Ground.phase }, { on := 13, ground := Go.Ground.phase }, { on := 14, ground := Go.Ground.phase }, { on := 15, ground := Go.Ground.phase }, { on := 16, ground := Go.Ground.phase }, { on := 17, ground := Go.Ground.phase }], guard := none }) rfl (fun K hK => ?_) AllReadyH.nil)
        go_simp
        refine hK.out _ _ ?_ (fun _ => ?_)
        · exact (World.cell?_of_block ((only_set w9 (w.heap.size + 1) 1 _).block g (by omega))).trans hS9
        clear hK K
        refine wpAnyH_done (by kernel_rfl) ?_ _
        clear k0 f0 z0 hS hS6 hS7 hS8 hS9
        go_wp2_with fail
        go_roundw
        case rel => exact ⟨j + 1, _, by omega, by go_num, by rw [unhide HSN]; exact unhide HN9⟩
        case measure => simp [intOf]; omega
      · go_simp
        refine (unhide KD _).mono ?_
        rintro e w5 ⟨rfl, rfl⟩
        go_wp2_with fail
        refine hK.out _ _ hS (fun _ => ?_)
        clear hK K
        refine wpAnyH_ready (rs := [1, 13]) (by kernel_rfl) (by simp) (AllReadyH.cons (o := { dst := some 22, op := Go.Op.load 50 (Go.Operand.tmp 21), type := 50, pos := "ref.go:92", after := #[{ on := 0, ground := Go.Ground.data }], guard := none }) rfl (fun K hK => ?_) (AllReadyH.cons (o := { dst := some 34, op := Go.Op.call { callee := Go.Callee.value (Go.Operand.func 28), args := #[Go.Operand.tmp 27, Go.Operand.tmp 33], argTypes := #[22, 9] }, type := 52, pos := "ref.go:92", after := #[{ on := 6, ground := Go.Ground.data }, { on := 12, ground := Go.Ground.data }, { on := 12, ground := Go.Ground.chain }], guard := none }) rfl (fun K hK => ?_) AllReadyH.nil))
        · go_simp
          refine hK.out _ _ hS (fun _ => ?_)
          clear hK K
          refine wpAnyH_ready (rs := [13]) (by kernel_rfl) (by simp) (AllReadyH.cons (o := { dst := some 34, op := Go.Op.call { callee := Go.Callee.value (Go.Operand.func 28), args := #[Go.Operand.tmp 27, Go.Operand.tmp 33], argTypes := #[22, 9] }, type := 52, pos := "ref.go:92", after := #[{ on := 6, ground := Go.Ground.data }, { on := 12, ground := Go.Ground.data }, { on := 12, ground := Go.Ground.chain }], guard := none }) rfl (fun K hK => ?_) AllReadyH.nil)
          go_simp
          refine (unhide HI _ ((unhide HS).after (unhide HN0).bl) ((unhide HG).below (unhide HN0).bl (by omega)) (Nat.lt_of_lt_of_le h3 (unhide HN0).bl.size)).mono ?_
          rintro e w6 ⟨a6, c6, b6, d6, rfl, hat6, hb6⟩
          have hS6 := (hb6.cell (p := ⟨g, o + j, none⟩) (block_lt_of_cell hS)).trans hS
          have HN6 := hide ((unhide HN0).after hb6)
          have HAT6 := hide hat6
          clear hb6 hat6 k0 f0
          obtain ⟨k0, f0⟩ := (unhide HN6).cell
          go_wp2_with fail
          refine hK.out _ _ hS6 (fun hS => ?_)
          clear hK K
          refine wpAnyH_ready (rs := [14]) (by kernel_rfl) (by simp) (AllReadyH.cons (o := { dst := some 35, op := Go.Op.call { callee := Go.Callee.value (Go.Operand.func 47), args := #[Go.Operand.tmp 34], argTypes := #[52] }, type := 46, pos := "ref.go:92", after := #[{ on := 13, ground := Go.Ground.data }, { on := 13, ground := Go.Ground.chain }], guard := none }) rfl (fun K hK => ?_) AllReadyH.nil)
          go_simp
          refine (unhide HSUM _ _ _ _ _ (unhide HAT6) ((unhide HG).below (unhide HN6).bl (by omega)) (Nat.lt_of_lt_of_le h3 (unhide HN6).bl.size)).mono ?_
          rintro e w7 ⟨rfl, hb7⟩
          have hS7 := (hb7.cell (p := ⟨g, o + j, none⟩) (block_lt_of_cell hS6)).trans hS6
          have HN7 := hide ((unhide HN6).after hb7)
          clear hb7 k0 f0
          obtain ⟨k0, f0⟩ := (unhide HN7).cell
          go_wp2_with fail
          refine hK.out _ _ hS7 (fun hS => ?_)
          clear hK K
          refine wpAnyH_take (i := 15) (oi := { dst := some 36, op := Go.Op.build 86 #[(0, Go.Operand.tmp 26), (1, Go.Operand.tmp 35)], type := 86, pos := "ref.go:92", after := #[{ on := 5, ground := Go.Ground.data }, { on := 14, ground := Go.Ground.data }], guard := none }) (v := .agg (kL (s, S)).toArray) rfl (by kernel_rfl) (by kernel_rfl) (by kernel_rfl) (fun _ _ _ h => h) (Or.inl ⟨by rfl, ?_⟩) hS7 ?_
          · intro W hW; exact exec_buildK _ _ _ _ (by rfl) s S (by rfl) (by rfl) (unhide HD32) W
          simp only [Act.put, List.setIfInBounds_toArray, List.set_cons_zero, List.set_cons_succ]
          refine wpAnyH_ready (rs := [16]) (by kernel_rfl) (by simp) (AllReadyH.cons (o := { dst := some 37, op := Go.Op.buildSlice 50 1 #[(0, Go.Operand.tmp 36)], type := 50, pos := "ref.go:92", after := #[{ on := 15, ground := Go.Ground.data }], guard := none }) rfl (fun K hK => ?_) AllReadyH.nil)
          refine stepR_sliceK rfl _ (by rfl) (s, S) (by rfl) (unhide HD32) ?_
          have HA8 := hide (below_alloc' (w := w7) (.cells (kL (s, S)).toArray 86))
          have HN8 := hide ((unhide HN7).after (unhide HA8))
          have HV8 := hide (VRow.new w7 86 (kL (s, S)))
          have hS8 := ((unhide HA8).cell (p := ⟨g, o + j, none⟩) (block_lt_of_cell hS7)).trans hS7
          clear k0 f0
          obtain ⟨k0, f0⟩ := (unhide HN8).cell
          refine hK.out _ _ hS8 (fun _ => ?_)
          clear hK K
          simp only [Act.put, List.setIfInBounds_toArray, List.set_cons_zero, List.set_cons_succ]
          refine wpAnyH_ready (rs := [17]) (by kernel_rfl) (by simp) (AllReadyH.cons (o := { dst := some 38, op := Go.Op.call { callee := Go.Callee.builtin Go.Builtin.append, args := #[Go.Operand.tmp 22, Go.Operand.tmp 37], argTypes := #[50, 50] }, type := 50, pos := "ref.go:92", after := #[{ on := 1, ground := Go.Ground.data }, { on := 16, ground := Go.Ground.data }, { on := 14, ground := Go.Ground.chain }], guard := none }) rfl (fun K hK => ?_) AllReadyH.nil)
          refine stepR_appendK rfl _ _ (by rfl) w3.heap.size KV KS (by rfl) (unhide HN8).ow w7.heap.size 1 (s, S) (unhide HD32) (by rfl) (unhide HV8).range (by omega) (unhide HN8).sz ?_
          intro g9 c9 w9 hok9 hb9
          have hfr := (unhide HN8).fr g o rfl (by omega)
          have hS9 := (hb9.cell (p := ⟨g, o + j, none⟩) hfr.2).trans hS8
          have HN9 := hide ((unhide HN8).put hok9 hb9)
          clear k0 f0
          obtain ⟨k0, f0⟩ := (unhide HN8).cellB hb9
          refine hK.out _ _ hS9 (fun _ => ?_)
          clear hK K hok9 hb9
          simp only [Act.put, List.setIfInBounds_toArray, List.set_cons_zero, List.set_cons_succ]
          refine wpAnyH_take (i := 18) (oi := { dst := some 39, op := Go.Op.fieldAddr 52 (Go.Operand.tmp 5) 1, type := 0, pos := "ref.go:92", after := #[{ on := 0, ground := Go.Ground.phase }, { on := 1, ground := Go.Ground.phase }, { on := 2, ground := Go.Ground.phase }, { on := 3, ground := Go.Ground.phase }, { on := 4, ground := Go.Ground.phase }, { on := 5, ground := Go.Ground.phase }, { on := 6, ground := Go.Ground.phase }, { on := 7, ground := Go.Ground.phase }, { on := 8, ground := Go.Ground.phase }, { on := 9, ground := Go.Ground.phase }, { on := 10, ground := Go.Ground.phase }, { on := 11, ground := Go.Ground.phase }, { on := 12, ground := Go.Ground.phase }, { on := 13, ground := Go.Ground.phase }, { on := 14, ground := Go.Ground.phase }, { on := 15, ground := Go.Ground.phase }, { on := 16, ground := Go.Ground.phase }, { on := 17, ground := Go.Ground.phase }], guard := none }) (v := .pointer (some ⟨w.heap.size + 1, 1, none⟩)) rfl (by kernel_rfl) (by kernel_rfl) (by kernel_rfl) (fun _ _ _ h => h) (Or.inl ⟨by rfl, ?_⟩) hS9 ?_
          · intro W hW; first | (go_simp; done) | (go_simp; with_reducible rfl)
          simp only [Act.put, List.setIfInBounds_toArray, List.set_cons_zero, List.set_cons_succ]
          refine wpAnyH_ready (rs := [19]) (by kernel_rfl) (by simp) (AllReadyH.cons (o := { dst := none, op := Go.Op.store 50 (Go.Operand.tmp 39) (Go.Operand.tmp 38), type := 0, pos := "ref.go:92", after := #[{ on := 18, ground := Go.Ground.data }, { on := 17, ground := Go.Ground.data }, { on := 17, ground := Go.Ground.chain }, { on := 0, ground := Go.Ground.phase }, { on := 1, ground := Go.Ground.phase }, { on := 2, ground := Go.Ground.phase }, { on := 3, ground := Go.Ground.phase }, { on := 4, ground := Go.Ground.phase }, { on := 5, ground := Go.Ground.phase }, { on := 6, ground := Go.Ground.phase }, { on := 7, ground := Go.Ground.phase }, { on := 8, ground := Go.Ground.phase }, { on := 9, ground := Go.Ground.phase }, { on := 10, ground := Go.Ground.phase }, { on := 11, ground := Go.Ground.phase }, { on := 12, ground := Go.Ground.phase }, { on := 13, ground := Go.Ground.phase }, { on := 14, ground := Go.Ground.phase }, { on := 15, ground := Go.Ground.phase }, { on := 16, ground := Go.Ground.phase }, { on := 17, ground := Go.Ground.phase }], guard := none }) rfl (fun K hK => ?_) AllReadyH.nil)
          go_simp
          refine hK.out _ _ ?_ (fun _ => ?_)
          · exact (World.cell?_of_block ((only_set w9 (w.heap.size + 1) 1 _).block g (by omega))).trans hS9
          clear hK K
          refine wpAnyH_done (by kernel_rfl) ?_ _
          clear k0 f0 z0 hS hS6 hS7 hS8 hS9
          go_wp2_with fail
          go_roundw
          case rel => exact ⟨j + 1, _, by omega, by go_num, by rw [unhide HSN]; exact unhide HN9⟩
          case measure => simp [intOf]; omega
        · go_simp
          refine (unhide HI _ ((unhide HS).after (unhide HN0).bl) ((unhide HG).below (unhide HN0).bl (by omega)) (Nat.lt_of_lt_of_le h3 (unhide HN0).bl.size)).mono ?_
          rintro e w6 ⟨a6, c6, b6, d6, rfl, hat6, hb6⟩
          have hS6 := (hb6.cell (p := ⟨g, o + j, none⟩) (block_lt_of_cell hS)).trans hS
          have HN6 := hide ((unhide HN0).after hb6)
          have HAT6 := hide hat6
          clear hb6 hat6 k0 f0
          obtain ⟨k0, f0⟩ := (unhide HN6).cell
          go_wp2_with fail
          refine hK.out _ _ hS6 (fun hS => ?_)
          clear hK K
          refine wpAnyH_ready (rs := [1, 14]) (by kernel_rfl) (by simp) (AllReadyH.cons (o := { dst := some 22, op := Go.Op.load 50 (Go.Operand.tmp 21), type := 50, pos := "ref.go:92", after := #[{ on := 0, ground := Go.Ground.data }], guard := none }) rfl (fun K hK => ?_) (AllReadyH.cons (o := { dst := some 35, op := Go.Op.call { callee := Go.Callee.value (Go.Operand.func 47), args := #[Go.Operand.tmp 34], argTypes := #[52] }, type := 46, pos := "ref.go:92", after := #[{ on := 13, ground := Go.Ground.data }, { on := 13, ground := Go.Ground.chain }], guard := none }) rfl (fun K hK => ?_) AllReadyH.nil))
          · go_simp
            refine hK.out _ _ hS (fun _ => ?_)
            clear hK K
            refine wpAnyH_ready (rs := [14]) (by kernel_rfl) (by simp) (AllReadyH.cons (o := { dst := some 35, op := Go.Op.call { callee := Go.Callee.value (Go.Operand.func 47), args := #[Go.Operand.tmp 34], argTypes := #[52] }, type := 46, pos := "ref.go:92", after := #[{ on := 13, ground := Go.Ground.data }, { on := 13, ground := Go.Ground.chain }], guard := none }) rfl (fun K hK => ?_) AllReadyH.nil)
            go_simp
            refine (unhide HSUM _ _ _ _ _ (unhide HAT6) ((unhide HG).below (unhide HN6).bl (by omega)) (Nat.lt_of_lt_of_le h3 (unhide HN6).bl.size)).mono ?_
            rintro e w7 ⟨rfl, hb7⟩
            have hS7 := (hb7.cell (p := ⟨g, o + j, none⟩) (block_lt_of_cell hS6)).trans hS6
            have HN7 := hide ((unhide HN6).after hb7)
            clear hb7 k0 f0
            obtain ⟨k0, f0⟩ := (unhide HN7).cell
            go_wp2_with fail
            refine hK.out _ _ hS7 (fun hS => ?_)
            clear hK K
            refine wpAnyH_take (i := 15) (oi := { dst := some 36, op := Go.Op.build 86 #[(0, Go.Operand.tmp 26), (1, Go.Operand.tmp 35)], type := 86, pos := "ref.go:92", after := #[{ on := 5, ground := Go.Ground.data }, { on := 14, ground := Go.Ground.data }], guard := none }) (v := .agg (kL (s, S)).toArray) rfl (by kernel_rfl) (by kernel_rfl) (by kernel_rfl) (fun _ _ _ h => h) (Or.inl ⟨by rfl, ?_⟩) hS7 ?_
            · intro W hW; exact exec_buildK _ _ _ _ (by rfl) s S (by rfl) (by rfl) (unhide HD32) W
            simp only [Act.put, List.setIfInBounds_toArray, List.set_cons_zero, List.set_cons_succ]
            refine wpAnyH_ready (rs := [16]) (by kernel_rfl) (by simp) (AllReadyH.cons (o := { dst := some 37, op := Go.Op.buildSlice 50 1 #[(0, Go.Operand.tmp 36)], type := 50, pos := "ref.go:92", after := #[{ on := 15, ground := Go.Ground.data }], guard := none }) rfl (fun K hK => ?_) AllReadyH.nil)
            refine stepR_sliceK rfl _ (by rfl) (s, S) (by rfl) (unhide HD32) ?_
            have HA8 := hide (below_alloc' (w := w7) (.cells (kL (s, S)).toArray 86))
            have HN8 := hide ((unhide HN7).after (unhide HA8))
            have HV8 := hide (VRow.new w7 86 (kL (s, S)))
            have hS8 := ((unhide HA8).cell (p := ⟨g, o + j, none⟩) (block_lt_of_cell hS7)).trans hS7
            clear k0 f0
            obtain ⟨k0, f0⟩ := (unhide HN8).cell
            refine hK.out _ _ hS8 (fun _ => ?_)
            clear hK K
            simp only [Act.put, List.setIfInBounds_toArray, List.set_cons_zero, List.set_cons_succ]
            refine wpAnyH_ready (rs := [17]) (by kernel_rfl) (by simp) (AllReadyH.cons (o := { dst := some 38, op := Go.Op.call { callee := Go.Callee.builtin Go.Builtin.append, args := #[Go.Operand.tmp 22, Go.Operand.tmp 37], argTypes := #[50, 50] }, type := 50, pos := "ref.go:92", after := #[{ on := 1, ground := Go.Ground.data }, { on := 16, ground := Go.Ground.data }, { on := 14, ground := Go.Ground.chain }], guard := none }) rfl (fun K hK => ?_) AllReadyH.nil)
            refine stepR_appendK rfl _ _ (by rfl) w3.heap.size KV KS (by rfl) (unhide HN8).ow w7.heap.size 1 (s, S) (unhide HD32) (by rfl) (unhide HV8).range (by omega) (unhide HN8).sz ?_
            intro g9 c9 w9 hok9 hb9
            have hfr := (unhide HN8).fr g o rfl (by omega)
            have hS9 := (hb9.cell (p := ⟨g, o + j, none⟩) hfr.2).trans hS8
            have HN9 := hide ((unhide HN8).put hok9 hb9)
            clear k0 f0
            obtain ⟨k0, f0⟩ := (unhide HN8).cellB hb9
            refine hK.out _ _ hS9 (fun _ => ?_)
            clear hK K hok9 hb9
            simp only [Act.put, List.setIfInBounds_toArray, List.set_cons_zero, List.set_cons_succ]
            refine wpAnyH_take (i := 18) (oi := { dst := some 39, op := Go.Op.fieldAddr 52 (Go.Operand.tmp 5) 1, type := 0, pos := "ref.go:92", after := #[{ on := 0, ground := Go.Ground.phase }, { on := 1, ground := Go.Ground.phase }, { on := 2, ground := Go.Ground.phase }, { on := 3, ground := Go.Ground.phase }, { on := 4, ground := Go.Ground.phase }, { on := 5, ground := Go.Ground.phase }, { on := 6, ground := Go.Ground.phase }, { on := 7, ground := Go.Ground.phase }, { on := 8, ground := Go.Ground.phase }, { on := 9, ground := Go.Ground.phase }, { on := 10, ground := Go.Ground.phase }, { on := 11, ground := Go.Ground.phase }, { on := 12, ground := Go.Ground.phase }, { on := 13, ground := Go.Ground.phase }, { on := 14, ground := Go.Ground.phase }, { on := 15, ground := Go.Ground.phase }, { on := 16, ground := Go.Ground.phase }, { on := 17, ground := Go.Ground.phase }], guard := none }) (v := .pointer (some ⟨w.heap.size + 1, 1, none⟩)) rfl (by kernel_rfl) (by kernel_rfl) (by kernel_rfl) (fun _ _ _ h => h) (Or.inl ⟨by rfl, ?_⟩) hS9 ?_
            · intro W hW; first | (go_simp; done) | (go_simp; with_reducible rfl)
            simp only [Act.put, List.setIfInBounds_toArray, List.set_cons_zero, List.set_cons_succ]
            refine wpAnyH_ready (rs := [19]) (by kernel_rfl) (by simp) (AllReadyH.cons (o := { dst := none, op := Go.Op.store 50 (Go.Operand.tmp 39) (Go.Operand.tmp 38), type := 0, pos := "ref.go:92", after := #[{ on := 18, ground := Go.Ground.data }, { on := 17, ground := Go.Ground.data }, { on := 17, ground := Go.Ground.chain }, { on := 0, ground := Go.Ground.phase }, { on := 1, ground := Go.Ground.phase }, { on := 2, ground := Go.Ground.phase }, { on := 3, ground := Go.Ground.phase }, { on := 4, ground := Go.Ground.phase }, { on := 5, ground := Go.Ground.phase }, { on := 6, ground := Go.Ground.phase }, { on := 7, ground := Go.Ground.phase }, { on := 8, ground := Go.Ground.phase }, { on := 9, ground := Go.Ground.phase }, { on := 10, ground := Go.Ground.phase }, { on := 11, ground := Go.Ground.phase }, { on := 12, ground := Go.Ground.phase }, { on := 13, ground := Go.Ground.phase }, { on := 14, ground := Go.Ground.phase }, { on := 15, ground := Go.Ground.phase }, { on := 16, ground := Go.Ground.phase }, { on := 17, ground := Go.Ground.phase }], guard := none }) rfl (fun K hK => ?_) AllReadyH.nil)
            go_simp
            refine hK.out _ _ ?_ (fun _ => ?_)
            · exact (World.cell?_of_block ((only_set w9 (w.heap.size + 1) 1 _).block g (by omega))).trans hS9
            clear hK K
            refine wpAnyH_done (by kernel_rfl) ?_ _
            clear k0 f0 z0 hS hS6 hS7 hS8 hS9
            go_wp2_with fail
            go_roundw
            case rel => exact ⟨j + 1, _, by omega, by go_num, by rw [unhide HSN]; exact unhide HN9⟩
            case measure => simp [intOf]; omega
          · go_simp
            refine (unhide HSUM _ _ _ _ _ (unhide HAT6) ((unhide HG).below (unhide HN6).bl (by omega)) (Nat.lt_of_lt_of_le h3 (unhide HN6).bl.size)).mono ?_
            rintro e w7 ⟨rfl, hb7⟩
            have hS7 := (hb7.cell (p := ⟨g, o + j, none⟩) (block_lt_of_cell hS6)).trans hS6
            have HN7 := hide ((unhide HN6).after hb7)
            clear hb7 k0 f0
            obtain ⟨k0, f0⟩ := (unhide HN7).cell
            go_wp2_with fail
            refine hK.out _ _ hS7 (fun hS => ?_)
            clear hK K
            refine wpAnyH_take (i := 15) (oi := { dst := some 36, op := Go.Op.build 86 #[(0, Go.Operand.tmp 26), (1, Go.Operand.tmp 35)], type := 86, pos := "ref.go:92", after := #[{ on := 5, ground := Go.Ground.data }, { on := 14, ground := Go.Ground.data }], guard := none }) (v := .agg (kL (s, S)).toArray) rfl (by kernel_rfl) (by kernel_rfl) (by kernel_rfl) (fun _ _ _ h => h) (Or.inl ⟨by rfl, ?_⟩) hS7 ?_
            · intro W hW; exact exec_buildK _ _ _ _ (by rfl) s S (by rfl) (by rfl) (unhide HD32) W
            simp only [Act.put, List.setIfInBounds_toArray, List.set_cons_zero, List.set_cons_succ]
            refine wpAnyH_ready (rs := [1, 16]) (by kernel_rfl) (by simp) (AllReadyH.cons (o := { dst := some 22, op := Go.Op.load 50 (Go.Operand.tmp 21), type := 50, pos := "ref.go:92", after := #[{ on := 0, ground := Go.Ground.data }], guard := none }) rfl (fun K hK => ?_) (AllReadyH.cons (o := { dst := some 37, op := Go.Op.buildSlice 50 1 #[(0, Go.Operand.tmp 36)], type := 50, pos := "ref.go:92", after := #[{ on := 15, ground := Go.Ground.data }], guard := none }) rfl (fun K hK => ?_) AllReadyH.nil))
            · go_simp
              refine hK.out _ _ hS7 (fun _ => ?_)
              clear hK K
              refine wpAnyH_ready (rs := [16]) (by kernel_rfl) (by simp) (AllReadyH.cons (o := { dst := some 37, op := Go.Op.buildSlice 50 1 #[(0, Go.Operand.tmp 36)], type := 50, pos := "ref.go:92", after := #[{ on := 15, ground := Go.Ground.data }], guard := none }) rfl (fun K hK => ?_) AllReadyH.nil)
              refine stepR_sliceK rfl _ (by rfl) (s, S) (by rfl) (unhide HD32) ?_
              have HA8 := hide (below_alloc' (w := w7) (.cells (kL (s, S)).toArray 86))
              have HN8 := hide ((unhide HN7).after (unhide HA8))
              have HV8 := hide (VRow.new w7 86 (kL (s, S)))
              have hS8 := ((unhide HA8).cell (p := ⟨g, o + j, none⟩) (block_lt_of_cell hS7)).trans hS7
              clear k0 f0
              obtain ⟨k0, f0⟩ := (unhide HN8).cell
              refine hK.out _ _ hS8 (fun _ => ?_)
              clear hK K
              simp only [Act.put, List.setIfInBounds_toArray, List.set_cons_zero, List.set_cons_succ]
              refine wpAnyH_ready (rs := [17]) (by kernel_rfl) (by simp) (AllReadyH.cons (o := { dst := some 38, op := Go.Op.call { callee := Go.Callee.builtin Go.Builtin.append, args := #[Go.Operand.tmp 22, Go.Operand.tmp 37], argTypes := #[50, 50] }, type := 50, pos := "ref.go:92", after := #[{ on := 1, ground := Go.Ground.data }, { on := 16, ground := Go.Ground.data }, { on := 14, ground := Go.Ground.chain }], guard := none }) rfl (fun K hK => ?_) AllReadyH.nil)
              refine stepR_appendK rfl _ _ (by rfl) w3.heap.size KV KS (by rfl) (unhide HN8).ow w7.heap.size 1 (s, S) (unhide HD32) (by rfl) (unhide HV8).range (by omega) (unhide HN8).sz ?_
              intro g9 c9 w9 hok9 hb9
              have hfr := (unhide HN8).fr g o rfl (by omega)
              have hS9 := (hb9.cell (p := ⟨g, o + j, none⟩) hfr.2).trans hS8
              have HN9 := hide ((unhide HN8).put hok9 hb9)
              clear k0 f0
              obtain ⟨k0, f0⟩ := (unhide HN8).cellB hb9
              refine hK.out _ _ hS9 (fun _ => ?_)
              clear hK K hok9 hb9
              simp only [Act.put, List.setIfInBounds_toArray, List.set_cons_zero, List.set_cons_succ]
              refine wpAnyH_take (i := 18) (oi := { dst := some 39, op := Go.Op.fieldAddr 52 (Go.Operand.tmp 5) 1, type := 0, pos := "ref.go:92", after := #[{ on := 0, ground := Go.Ground.phase }, { on := 1, ground := Go.Ground.phase }, { on := 2, ground := Go.Ground.phase }, { on := 3, ground := Go.Ground.phase }, { on := 4, ground := Go.Ground.phase }, { on := 5, ground := Go.Ground.phase }, { on := 6, ground := Go.Ground.phase }, { on := 7, ground := Go.Ground.phase }, { on := 8, ground := Go.Ground.phase }, { on := 9, ground := Go.Ground.phase }, { on := 10, ground := Go.Ground.phase }, { on := 11, ground := Go.Ground.phase }, { on := 12, ground := Go.Ground.phase }, { on := 13, ground := Go.Ground.phase }, { on := 14, ground := Go.Ground.phase }, { on := 15, ground := Go.Ground.phase }, { on := 16, ground := Go.Ground.phase }, { on := 17, ground := Go.Ground.phase }], guard := none }) (v := .pointer (some ⟨w.heap.size + 1, 1, none⟩)) rfl (by kernel_rfl) (by kernel_rfl) (by kernel_rfl) (fun _ _ _ h => h) (Or.inl ⟨by rfl, ?_⟩) hS9 ?_
              · intro W hW; first | (go_simp; done) | (go_simp; with_reducible rfl)
              simp only [Act.put, List.setIfInBounds_toArray, List.set_cons_zero, List.set_cons_succ]
              refine wpAnyH_ready (rs := [19]) (by kernel_rfl) (by simp) (AllReadyH.cons (o := { dst := none, op := Go.Op.store 50 (Go.Operand.tmp 39) (Go.Operand.tmp 38), type := 0, pos := "ref.go:92", after := #[{ on := 18, ground := Go.Ground.data }, { on := 17, ground := Go.Ground.data }, { on := 17, ground := Go.Ground.chain }, { on := 0, ground := Go.Ground.phase }, { on := 1, ground := Go.Ground.phase }, { on := 2, ground := Go.Ground.phase }, { on := 3, ground := Go.Ground.phase }, { on := 4, ground := Go.Ground.phase }, { on := 5, ground := Go.Ground.phase }, { on := 6, ground := Go.Ground.phase }, { on := 7, ground := Go.Ground.phase }, { on := 8, ground := Go.Ground.phase }, { on := 9, ground := Go.Ground.phase }, { on := 10, ground := Go.Ground.phase }, { on := 11, ground := Go.Ground.phase }, { on := 12, ground := Go.Ground.phase }, { on := 13, ground := Go.Ground.phase }, { on := 14, ground := Go.Ground.phase }, { on := 15, ground := Go.Ground.phase }, { on := 16, ground := Go.Ground.phase }, { on := 17, ground := Go.Ground.phase }], guard := none }) rfl (fun K hK => ?_) AllReadyH.nil)
              go_simp
              refine hK.out _ _ ?_ (fun _ => ?_)
              · exact (World.cell?_of_block ((only_set w9 (w.heap.size + 1) 1 _).block g (by omega))).trans hS9
              clear hK K
              refine wpAnyH_done (by kernel_rfl) ?_ _
              clear k0 f0 z0 hS hS6 hS7 hS8 hS9
              go_wp2_with fail
              go_roundw
              case rel => exact ⟨j + 1, _, by omega, by go_num, by rw [unhide HSN]; exact unhide HN9⟩
              case measure => simp [intOf]; omega
            · refine stepR_sliceK rfl _ (by rfl) (s, S) (by rfl) (unhide HD32) ?_
              have HA8 := hide (below_alloc' (w := w7) (.cells (kL (s, S)).toArray 86))
              have HN8 := hide ((unhide HN7).after (unhide HA8))
              have HV8 := hide (VRow.new w7 86 (kL (s, S)))
              have hS8 := ((unhide HA8).cell (p := ⟨g, o + j, none⟩) (block_lt_of_cell hS7)).trans hS7
              clear k0 f0
              obtain ⟨k0, f0⟩ := (unhide HN8).cell
              refine hK.out _ _ hS8 (fun _ => ?_)
              clear hK K
              simp only [Act.put, List.setIfInBounds_toArray, List.set_cons_zero, List.set_cons_succ]
              refine wpAnyH_ready (rs := [1]) (by kernel_rfl) (by simp) (AllReadyH.cons (o := { dst := some 22, op := Go.Op.load 50 (Go.Operand.tmp 21), type := 50, pos := "ref.go:92", after := #[{ on := 0, ground := Go.Ground.data }], guard := none }) rfl (fun K hK => ?_) AllReadyH.nil)
              go_simp
              refine hK.out _ _ hS8 (fun _ => ?_)
              clear hK K
              refine wpAnyH_ready (rs := [17]) (by kernel_rfl) (by simp) (AllReadyH.cons (o := { dst := some 38, op := Go.Op.call { callee := Go.Callee.builtin Go.Builtin.append, args := #[Go.Operand.tmp 22, Go.Operand.tmp 37], argTypes := #[50, 50] }, type := 50, pos := "ref.go:92", after := #[{ on := 1, ground := Go.Ground.data }, { on := 16, ground := Go.Ground.data }, { on := 14, ground := Go.Ground.chain }], guard := none }) rfl (fun K hK => ?_) AllReadyH.nil)
              refine stepR_appendK rfl _ _ (by rfl) w3.heap.size KV KS (by rfl) (unhide HN8).ow w7.heap.size 1 (s, S) (unhide HD32) (by rfl) (unhide HV8).range (by omega) (unhide HN8).sz ?_
              intro g9 c9 w9 hok9 hb9
              have hfr := (unhide HN8).fr g o rfl (by omega)
              have hS9 := (hb9.cell (p := ⟨g, o + j, none⟩) hfr.2).trans hS8
              have HN9 := hide ((unhide HN8).put hok9 hb9)
              clear k0 f0
              obtain ⟨k0, f0⟩ := (unhide HN8).cellB hb9
              refine hK.out _ _ hS9 (fun _ => ?_)
              clear hK K hok9 hb9
              simp only [Act.put, List.setIfInBounds_toArray, List.set_cons_zero, List.set_cons_succ]
              refine wpAnyH_take (i := 18) (oi := { dst := some 39, op := Go.Op.fieldAddr 52 (Go.Operand.tmp 5) 1, type := 0, pos := "ref.go:92", after := #[{ on := 0, ground := Go.Ground.phase }, { on := 1, ground := Go.Ground.phase }, { on := 2, ground := Go.Ground.phase }, { on := 3, ground := Go.Ground.phase }, { on := 4, ground := Go.Ground.phase }, { on := 5, ground := Go.Ground.phase }, { on := 6, ground := Go.Ground.phase }, { on := 7, ground := Go.Ground.phase }, { on := 8, ground := Go.Ground.phase }, { on := 9, ground := Go.Ground.phase }, { on := 10, ground := Go.Ground.phase }, { on := 11, ground := Go.Ground.phase }, { on := 12, ground := Go.Ground.phase }, { on := 13, ground := Go.Ground.phase }, { on := 14, ground := Go.Ground.phase }, { on := 15, ground := Go.Ground.phase }, { on := 16, ground := Go.Ground.phase }, { on := 17, ground := Go.Ground.phase }], guard := none }) (v := .pointer (some ⟨w.heap.size + 1, 1, none⟩)) rfl (by kernel_rfl) (by kernel_rfl) (by kernel_rfl) (fun _ _ _ h => h) (Or.inl ⟨by rfl, ?_⟩) hS9 ?_
              · intro W hW; first | (go_simp; done) | (go_simp; with_reducible rfl)
              simp only [Act.put, List.setIfInBounds_toArray, List.set_cons_zero, List.set_cons_succ]
              refine wpAnyH_ready (rs := [19]) (by kernel_rfl) (by simp) (AllReadyH.cons (o := { dst := none, op := Go.Op.store 50 (Go.Operand.tmp 39) (Go.Operand.tmp 38), type := 0, pos := "ref.go:92", after := #[{ on := 18, ground := Go.Ground.data }, { on := 17, ground := Go.Ground.data }, { on := 17, ground := Go.Ground.chain }, { on := 0, ground := Go.Ground.phase }, { on := 1, ground := Go.Ground.phase }, { on := 2, ground := Go.Ground.phase }, { on := 3, ground := Go.Ground.phase }, { on := 4, ground := Go.Ground.phase }, { on := 5, ground := Go.Ground.phase }, { on := 6, ground := Go.Ground.phase }, { on := 7, ground := Go.Ground.phase }, { on := 8, ground := Go.Ground.phase }, { on := 9, ground := Go.Ground.phase }, { on := 10, ground := Go.Ground.phase }, { on := 11, ground := Go.Ground.phase }, { on := 12, ground := Go.Ground.phase }, { on := 13, ground := Go.Ground.phase }, { on := 14, ground := Go.Ground.phase }, { on := 15, ground := Go.Ground.phase }, { on := 16, ground := Go.Ground.phase }, { on := 17, ground := Go.Ground.phase }], guard := none }) rfl (fun K hK => ?_) AllReadyH.nil)
              go_simp
              refine hK.out _ _ ?_ (fun _ => ?_)
              · exact (World.cell?_of_block ((only_set w9 (w.heap.size + 1) 1 _).block g (by omega))).trans hS9
              clear hK K
              refine wpAnyH_done (by kernel_rfl) ?_ _
              clear k0 f0 z0 hS hS6 hS7 hS8 hS9
              go_wp2_with fail
              go_roundw
              case rel => exact ⟨j + 1, _, by omega, by go_num, by rw [unhide HSN]; exact unhide HN9⟩
              case measure => simp [intOf]; omega
    · obtain rfl : j = N.length := by omega
      rw [List.take_length] at HN
      clear hns
      have HKN := hide (unhide HKD N)
      obtain ⟨b, dd, rfl, hbd, hsk, hfk⟩ := own_sk (unhide HKN) (unhide HN).ow
      have hNF : NF = ⟨G, kidsT t d N⟩ := unhide HNF
      generalize kidsT t d N = KS at HN HKN hsk hfk hbd hNF
      subst hNF
      have HR4 := hide (unhide HN).r4
      have HR5 := hide (unhide HN).r5
      have HSK := hide hsk
      have HFK := hide hfk
      have HBL := hide (unhide HN).bl
      have HB2 := hide (unhide HN).b2
      clear hsk hfk HN
      go_wp2_with (first
        | (refine load_node (by rfl) (.tmp 5) (by rfl) (w.heap.size + 1) (by rfl) (ndL ⟨G, KS⟩ r1 c1 b dd) (unhide HR5) rfl ?_)
        | (refine store_row (by rfl) 52 (.tmp 4) (.tmp 40) (by rfl) w.heap.size (ndL ⟨G, KS⟩ r1 c1 b dd) (by rfl) (by rfl) 52 zeroN (unhide HR4) 2 sizeNd rfl rfl (ndL_one _ _ _ _ _) ?_; intro w9 ho9 hr9; have HO9 := hide ho9; have HR9 := hide hr9; clear ho9 hr9))
      refine bodyPost_ret (v := .agg (ndL ⟨G, KS⟩ r1 c1 b dd).toArray) ?_ rfl ?_
      · exact results_node rfl _ _ w.heap.size _ rfl (unhide HR9) rfl
      · have hb9 := (unhide HBL).trans ((unhide HO9).below (Nat.le_refl _))
        exact ⟨r1, c1, b, dd, rfl, ⟨hc1, hbd, (unhide HS1).after hb9, (unhide HSK).only (unhide HO9) (fun ad e h0 => by have h1 := unhide HFK ad e h0; have h2 := unhide HB2; omega)⟩, hb9⟩
theorem refNode_any (a : Option Addr) (cap : Nat) (t : List En) (ht : Eok t) : ∀ (f : Nat) (d : ByteArray), 4 ≤ (partsE d).length + f → d.size ≤ 1000 → ∀ (w : World), EL w a t → Hsh.RefKeys w → 3 < w.heap.size →
    Calls Tryz.prog 28 #[.slice a t.length cap, .string d] w (NodeMade w (nodeF t d))
  | 0, d, h4, hd, w, h, hG, h3 => refNode_step a cap t ht d hd w h hG h3 fun s hs => by
      rw [names_deep (by omega)] at hs
      cases hs
  | f + 1, d, h4, hd, w, h, hG, h3 => refNode_step a cap t ht d hd w h hG h3 fun s hs W h' hG' h3' => by
      have h1 := (parts_below hs).2.2
      have h2 := Pth.Pt.path_length _ h1.2
      rw [size_data] at h2
      exact refNode_any a cap t ht f (downE d s) (by omega) (by omega) W h' hG' h3'
theorem refNodeF_any (a : Option Addr) (cap : Nat) (t : List En) (ht : Eok t) (d : ByteArray) (hd : d.size ≤ 1000) (w : World) (h : EL w a t) (hG : Hsh.RefKeys w) (h3 : 3 < w.heap.size) :
    Calls Tryz.prog 28 #[.slice a t.length cap, .string d] w (NodeMade w (nodeF t d)) := refNode_any a cap t ht 4 d (by omega) hd w h hG h3
end Go.Proofs.YtebjlmnhpfoglaaGreatDoor
