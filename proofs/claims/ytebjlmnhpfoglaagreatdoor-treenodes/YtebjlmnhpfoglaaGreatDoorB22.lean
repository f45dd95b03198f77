/-
  What a walk over a directory's kids keeps; one kid more. Conditions: those that each theorem names.
-/
import Derived.Test.YtebjlmnhpfoglaaGreatDoorB16
import Derived.Test.YtebjlmnhpfoglaaGreatDoorB21
namespace Go.Proofs.YtebjlmnhpfoglaaGreatDoor
open Go.RowKit Go.Shelf

attribute [local go_sem] Oper.semAt_some

/-- What the walk keeps: the two nodes' blocks, the kids so far. -/
structure NP (w : World) (base : Nat) (V KV : Value) (ks : List Kd) (W : World) : Prop where
  r4 : VRow W w.heap.size 52 zeroN
  r5 : VRow W (w.heap.size + 1) 52 [V, KV]
  ow : OKid W base KV ks
  bl : Below w.heap.size w W
  sz : base ≤ W.heap.size
  b2 : w.heap.size + 4 ≤ base
section
variable {w W W' : World} {base : Nat} {V KV : Value} {ks : List Kd}
theorem NP.after (h : NP w base V KV ks W) (hb : Below W.heap.size W W') : NP w base V KV ks W' :=
  ⟨h.r4.after hb, h.r5.after hb, h.ow.after hb, below_grow h.bl (Nat.le_refl _) hb, Nat.le_trans h.sz hb.size, h.b2⟩
theorem NP.put (h : NP w base V KV ks W) {v' : Value} {ks' : List Kd} (ho : OKid W' base v' ks') (hb : Below base W W') : NP w base V v' ks' (W'.setCell ⟨w.heap.size + 1, 1, none⟩ v') := by
  have h2 := h.b2
  have hon := only_set W' (w.heap.size + 1) 1 v'
  refine ⟨(h.r4.below hb (show w.heap.size < base by omega)).only hon (by omega), (h.r5.below hb (by omega)).set 1 v', ho.only hon (show w.heap.size + 1 < base by omega), (h.bl.trans (hb.mono (show w.heap.size ≤ base by omega))).trans (hon.below (Nat.le_succ _)), ?_, h2⟩
  rw [hon.size]
  exact Nat.le_trans h.sz hb.size
theorem KB.refl (n B : Nat) (W : World) : KB n B W W := ⟨Below.refl _ _, rfl⟩
theorem NP.cell (h : NP w base V KV ks W) : W.cell? ⟨w.heap.size + 1, 1, none⟩ = some KV ∧ W.frozen? ⟨w.heap.size + 1, 1, none⟩ = false := ⟨h.r5.cell 1 _ rfl, h.r5.frozen 1⟩
theorem NP.cellB (h : NP w base V KV ks W) (hb : Below base W W') : W'.cell? ⟨w.heap.size + 1, 1, none⟩ = some KV ∧ W'.frozen? ⟨w.heap.size + 1, 1, none⟩ = false :=
  have h2 := h.b2
  ⟨(h.r5.below hb (by omega)).cell 1 _ rfl, (h.r5.below hb (by omega)).frozen 1⟩
/-- A walk's own block turned, it is as it was. -/
theorem NP.grown (h : NP w base V KV ks W) {row : Option Nat} (hg : W.grownBy W' row) (hr : ∀ r, row = some r → base ≤ r ∧ ∃ o : Obj, W.heap[r]? = some o ∧ o.isCells = false) : NP w base V KV ks W' := by
  have h2 := h.b2
  have ne : ∀ k, k < base → some k ≠ row := fun k hk e => by have := (hr k e.symm).1; omega
  refine ⟨(hg.block _ h.r4.lt (ne _ (by omega))).trans h.r4, (hg.block _ h.r5.lt (ne _ (by omega))).trans h.r5, ⟨h.ow.1, ?_⟩, h.bl.grown hg h.bl.size (fun k e => by have := (hr k e).1; omega), Nat.le_trans h.sz hg.size, h2⟩
  rcases h.ow.2 with h3 | ⟨g, cap, cur, e1, e2, e3, e4⟩
  · exact .inl h3
  · refine .inr ⟨g, cap, cur, e1, e2, (hg.block g (Array.getElem?_eq_some_iff.1 e3).1 (fun e => ?_)).trans e3, e4⟩
    obtain ⟨o, ho, hc⟩ := (hr g e.symm).2
    rw [e3] at ho
    injection ho with ho
    subst ho
    cases hc
end
/-- The kids of what has come. -/
def kidsG {w : World} {t : List En} {d : ByteArray} (l : List (GK w t d)) : List Kd := l.map fun x => (lastE x.1.1, sumN (nodeF t x.1.1))
theorem kidsG_all {w : World} {t : List En} {d : ByteArray} {zs : List (GK w t d)} (h : zs.map (·.1.1) = (namesT t d).map (downE d)) : kidsG zs = kidsT t d (namesT t d) := by
  have e : kidsG zs = (zs.map (·.1.1)).map fun p => (lastE p, sumN (nodeF t p)) := by unfold kidsG; rw [List.map_map]; rfl
  rw [e, h, List.map_map]
  unfold kidsT
  refine List.map_congr_left fun s hs => ?_
  obtain ⟨hd, hn, h4⟩ := names_dir hs
  show (lastE (downE d s), sumN (nodeF t (downE d s))) = _
  rw [(up_of_down hd hn h4).2]
theorem kidsG_digs {w : World} {t : List En} {d : ByteArray} (l : List (GK w t d)) : Digs (kidsG l) := by
  intro k hk
  obtain ⟨s, _, rfl⟩ := List.mem_map.1 hk
  exact sumN_len _

theorem stepR_appendKG {w : World} {ops : Array Oper} {o : Oper} {a : Act} {K : Act → World → Prop} {Q : Exit → Act → World → Prop} {E : Prop} (hgd : o.guard = none) (s x : Operand)
    (ho : o.op = .call { callee := .builtin .append, args := #[s, x], argTypes := #[50, 50] }) (base : Nat) (v : Value) (l : List Kd) (hs : a.eval s = v) (hown : OKid w base v l)
    (g c : Nat) (k : Kd) (hk : k.2.length = 32) (hx : a.eval x = .slice (some ⟨g, 0, none⟩) 1 c) (hsl : w.rangeAt g 0 (kL k)) (hn : l.length ≤ 150000) (hbase : base ≤ w.heap.size)
    (h : ∀ g' cap w', OKid w' base (.slice (some ⟨g', 0, none⟩) (l.length + 1) cap) (l ++ [k]) → Below base w w' → w.grownBy w' v.ownBlock → K (a.put o.dst (.slice (some ⟨g', 0, none⟩) (l.length + 1) cap)) w') :
    if Region.wanted o (yielded ops a.tmps) = true then Oper.wp Tryz.prog o a w K Q else E := by
  obtain ⟨i0, hi, hz0, hz1, hz2⟩ := info_parts infoK
  refine step_append_lies w hgd s x 50 ho base 86 i0 _ 33 48 Tryz.underlying50 hi hz0 hz1 hz2 rfl (by decide) v l.length (flatK l) hs hown ⟨g, 0, none⟩ 1 c (kL k) hx (by rw [kL_len hk]) ?_ (kL_one k) (by decide) (by unfold maxLen; omega) (by omega) hbase w.heap.size rfl ?_
  · intro j u hu
    rw [addr_add]
    exact hsl j u hu
  · intro g' cap w' g1 g2 _ _
    refine h g' cap w' ?_ (grown_below hown g2 hbase) g2
    unfold OKid
    rw [List.length_append, flatK_append]
    have e : flatK [k] = kL k := by simp [flatK]
    rw [e]
    exact g1
theorem keeps_grown {base : Nat} {W w w' : World} {v : Value} {l : List Kd} (hf : KeepsFrom base W w) (hown : OKid w base v l) (hg : w.grownBy w' v.ownBlock) : KeepsFrom base W w' := by
  refine ⟨Nat.le_trans hf.size hg.size, fun k o hk h1 h2 => ?_⟩
  have h4 := hf.same k o hk h1 h2
  refine (hg.block k (Array.getElem?_eq_some_iff.1 h4).1 (fun e => ?_)).trans h4
  rcases hown.2 with ⟨rfl, _⟩ | ⟨g, cap, cur, rfl, _, e3, _⟩
  · cases e
  · injection e with e
    subst e
    rw [h4] at e3
    injection e3 with e3
    subst e3
    cases h2
theorem turn_kb {w W0 W' : World} {base : Nat} {v' : Value} (hb : Below base W0 W') (h2 : w.heap.size + 4 ≤ base) (B : Nat) (hB : B < base) (hB2 : w.heap.size + 1 ≠ B) :
    KB w.heap.size B W0 (W'.setCell ⟨w.heap.size + 1, 1, none⟩ v') := by
  have hon := only_set W' (w.heap.size + 1) 1 v'
  exact ⟨(hb.mono (by omega)).trans (hon.below (Nat.le_succ _)), (hon.block B (fun e => hB2 e.symm)).trans (hb.block B hB)⟩
theorem turn_keeps {w W0 W' : World} {base : Nat} {v' : Value} (hk : KeepsFrom base W0 W') (h2 : w.heap.size + 4 ≤ base) : KeepsFrom base W0 (W'.setCell ⟨w.heap.size + 1, 1, none⟩ v') := by
  have hon := only_set W' (w.heap.size + 1) 1 v'
  refine ⟨?_, fun k o hb hk2 hc => (hon.block k (by omega)).trans (hk.same k o hb hk2 hc)⟩
  rw [hon.size]
  exact hk.size

set_option maxRecDepth 100000 in
set_option maxHeartbeats 4000000 in
theorem node_region (w : World) (base : Nat) (V KV : Value) (KS : List Kd) (W : World) (hnp : NP w base V KV KS W) (E s : ByteArray) (SV7 : Value) (M : Nd) (S : List UInt8) (Q : Exit → Act → World → Prop) (hkl : KS.length ≤ 50000)
    (HP : Hid (∀ c a w, ¬ Q (.panic c) a w)) (hd32 : S.length = 32) (h3 : 3 < w.heap.size) (hg : Hsh.Glob w)
    (KD : Hid (∀ W, Calls Tryz.prog 81 #[.string E] W fun e w' => e = .returned (.string s) ∧ Below W.heap.size W w'))
    (HI : Hid (∀ W, Below w.heap.size w W → Calls Tryz.prog 51 #[.string E, SV7] W (NodeMade W M)))
    (HSUM : Hid (∀ (A : Option Addr) (C : Nat) (B : Option Addr) (D : Nat) (W : World), NdAt W M A C B D → Hsh.Glob W → 3 < W.heap.size → Calls Tryz.prog 76 #[.agg (ndL M A C B D).toArray] W fun e w' => e = .returned (.agg (S.map byteVal).toArray) ∧ Below W.heap.size W w'))
    (HQ : Hid (∀ a' W' v', OKid W' base v' (KS ++ [(s, S)]) → Below base W W' → KeepsFrom base W W' → Q .normal a' (W'.setCell ⟨w.heap.size + 1, 1, none⟩ v')))
    (u0 u1 u2 u3 u8 u9 u10 u11 u12 u13 u14 u15 u16 u17 u18 u19 u20 u21 u22 u23 u24 u25 u26 u27 u28 u29 u30 u31 u32 u33 u34 u35 u36 u37 u38 u39 u40 u41 u42 u43 : Value) :
    wpAnyH Tryz.prog .any #[{ dst := some 31, op := Go.Op.fieldAddr 52 (Go.Operand.tmp 5) 1, type := 0, pos := "tree.go:146", after := #[], guard := none }, { dst := some 32, op := Go.Op.load 50 (Go.Operand.tmp 31), type := 50, pos := "tree.go:146", after := #[{ on := 0, ground := Go.Ground.data }], guard := none }, { dst := some 33, op := Go.Op.move (Go.Operand.tmp 6), type := 9, pos := "tree.go:146", after := #[], guard := none }, { dst := some 34, op := Go.Op.call { callee := Go.Callee.value (Go.Operand.func 81), args := #[Go.Operand.tmp 33], argTypes := #[9] }, type := 9, pos := "tree.go:146", after := #[{ on := 2, ground := Go.Ground.data }], guard := none }, { dst := some 35, op := Go.Op.move (Go.Operand.tmp 6), type := 9, pos := "tree.go:146", after := #[], guard := none }, { dst := some 36, op := Go.Op.move (Go.Operand.tmp 7), type := 22, pos := "tree.go:146", after := #[], guard := none }, { dst := some 37, op := Go.Op.call { callee := Go.Callee.value (Go.Operand.func 51), args := #[Go.Operand.tmp 35, Go.Operand.tmp 36], argTypes := #[9, 22] }, type := 52, pos := "tree.go:146", after := #[{ on := 4, ground := Go.Ground.data }, { on := 5, ground := Go.Ground.data }, { on := 3, ground := Go.Ground.chain }], guard := none }, { dst := some 38, op := Go.Op.call { callee := Go.Callee.value (Go.Operand.func 76), args := #[Go.Operand.tmp 37], argTypes := #[52] }, type := 46, pos := "tree.go:146", after := #[{ on := 6, ground := Go.Ground.data }, { on := 6, ground := Go.Ground.chain }], guard := none }, { dst := some 39, op := Go.Op.build 86 #[(0, Go.Operand.tmp 34), (1, Go.Operand.tmp 38)], type := 86, pos := "tree.go:146", after := #[{ on := 3, ground := Go.Ground.data }, { on := 7, ground := Go.Ground.data }], guard := none }, { dst := some 40, op := Go.Op.buildSlice 50 1 #[(0, Go.Operand.tmp 39)], type := 50, pos := "tree.go:146", after := #[{ on := 8, ground := Go.Ground.data }], guard := none }, { dst := some 41, op := Go.Op.call { callee := Go.Callee.builtin Go.Builtin.append, args := #[Go.Operand.tmp 32, Go.Operand.tmp 40], argTypes := #[50, 50] }, type := 50, pos := "tree.go:146", after := #[{ on := 1, ground := Go.Ground.data }, { on := 9, ground := Go.Ground.data }, { on := 7, ground := Go.Ground.chain }], guard := none }, { dst := some 42, op := Go.Op.fieldAddr 52 (Go.Operand.tmp 5) 1, type := 0, pos := "tree.go:146", after := #[{ on := 0, ground := Go.Ground.phase }, { on := 1, ground := Go.Ground.phase }, { on := 2, ground := Go.Ground.phase }, { on := 3, ground := Go.Ground.phase }, { on := 4, ground := Go.Ground.phase }, { on := 5, ground := Go.Ground.phase }, { on := 6, ground := Go.Ground.phase }, { on := 7, ground := Go.Ground.phase }, { on := 8, ground := Go.Ground.phase }, { on := 9, ground := Go.Ground.phase }, { on := 10, ground := Go.Ground.phase }], guard := none }, { dst := none, op := Go.Op.store 50 (Go.Operand.tmp 42) (Go.Operand.tmp 41), type := 0, pos := "tree.go:146", after := #[{ on := 11, ground := Go.Ground.data }, { on := 10, ground := Go.Ground.data }, { on := 10, ground := Go.Ground.chain }, { on := 0, ground := Go.Ground.phase }, { on := 1, ground := Go.Ground.phase }, { on := 2, ground := Go.Ground.phase }, { on := 3, ground := Go.Ground.phase }, { on := 4, ground := Go.Ground.phase }, { on := 5, ground := Go.Ground.phase }, { on := 6, ground := Go.Ground.phase }, { on := 7, ground := Go.Ground.phase }, { on := 8, ground := Go.Ground.phase }, { on := 9, ground := Go.Ground.phase }, { on := 10, ground := Go.Ground.phase }], guard := none }] Q (fun _ => True) 13 (Array.replicate 13 false) { tmps := #[u0, u1, u2, u3, .pointer (some ⟨w.heap.size, 0, none⟩), .pointer (some ⟨w.heap.size + 1, 0, none⟩), .string E, SV7, u8, u9, u10, u11, u12, u13, u14, u15, u16, u17, u18, u19, u20, u21, u22, u23, u24, u25, u26, u27, u28, u29, u30, u31, u32, u33, u34, u35, u36, u37, u38, u39, u40, u41, u42, u43], defers := [] } W.drew := by
  have HG := hide hg
  have HD32 := hide hd32
  have hS : True := trivial
  have hb2 := hnp.b2
  have HN0 := hide (show NP w base V KV KS W.drew from hnp.after (below_drew (Below.refl _ _)))
  have HK0 : Hid (Below base W W.drew) := hide (below_drew (Below.refl _ _))
  have HF0 : Hid (KeepsFrom base W W.drew) := hide (keepsFrom_of_below base (below_drew (Below.refl _ _)))
  clear hnp hg hd32
  obtain ⟨k0, f0⟩ := (unhide HN0).cell
  refine wpAnyH_take (i := 0) (oi := { dst := some 31, op := Go.Op.fieldAddr 52 (Go.Operand.tmp 5) 1, type := 0, pos := "tree.go:146", after := #[], guard := none }) (v := .pointer (some ⟨w.heap.size + 1, 1, none⟩)) rfl (by kernel_rfl) (by kernel_rfl) (by kernel_rfl) (fun _ _ _ h => absurd h (unhide HP _ _ _)) (Or.inl ⟨by rfl, ?_⟩) hS ?_
  · intro W hW; first | (go_simp; done) | (go_simp; with_reducible rfl)
  simp only [Act.put, List.setIfInBounds_toArray, List.set_cons_zero, List.set_cons_succ]
  refine wpAnyH_take (i := 2) (oi := { dst := some 33, op := Go.Op.move (Go.Operand.tmp 6), type := 9, pos := "tree.go:146", after := #[], guard := none }) (v := .string E) rfl (by kernel_rfl) (by kernel_rfl) (by kernel_rfl) (fun _ _ _ h => absurd h (unhide HP _ _ _)) (Or.inl ⟨by rfl, ?_⟩) hS ?_
  · intro W hW; first | (go_simp; done) | (go_simp; with_reducible rfl)
  simp only [Act.put, List.setIfInBounds_toArray, List.set_cons_zero, List.set_cons_succ]
  refine wpAnyH_take (i := 4) (oi := { dst := some 35, op := Go.Op.move (Go.Operand.tmp 6), type := 9, pos := "tree.go:146", after := #[], guard := none }) (v := .string E) rfl (by kernel_rfl) (by kernel_rfl) (by kernel_rfl) (fun _ _ _ h => absurd h (unhide HP _ _ _)) (Or.inl ⟨by rfl, ?_⟩) hS ?_
  · intro W hW; first | (go_simp; done) | (go_simp; with_reducible rfl)
  simp only [Act.put, List.setIfInBounds_toArray, List.set_cons_zero, List.set_cons_succ]
  refine wpAnyH_take (i := 5) (oi := { dst := some 36, op := Go.Op.move (Go.Operand.tmp 7), type := 22, pos := "tree.go:146", after := #[], guard := none }) (v := SV7) rfl (by kernel_rfl) (by kernel_rfl) (by kernel_rfl) (fun _ _ _ h => absurd h (unhide HP _ _ _)) (Or.inl ⟨by rfl, ?_⟩) hS ?_
  · intro W hW; first | (go_simp; done) | (go_simp; with_reducible rfl)
  simp only [Act.put, List.setIfInBounds_toArray, List.set_cons_zero, List.set_cons_succ]
  refine wpAnyH_ready (rs := [1, 3]) (by kernel_rfl) (by simp) (AllReadyH.cons (o := { dst := some 32, op := Go.Op.load 50 (Go.Operand.tmp 31), type := 50, pos := "tree.go:146", after := #[{ on := 0, ground := Go.Ground.data }], guard := none }) rfl (fun K hK => ?_) (AllReadyH.cons (o := { dst := some 34, op := Go.Op.call { callee := Go.Callee.value (Go.Operand.func 81), args := #[Go.Operand.tmp 33], argTypes := #[9] }, type := 9, pos := "tree.go:146", after := #[{ on := 2, ground := Go.Ground.data }], guard := none }) rfl (fun K hK => ?_) AllReadyH.nil))
  · go_simp
    refine hK.out _ _ trivial (fun _ => ?_)
    clear hK K
    refine wpAnyH_ready (rs := [3]) (by kernel_rfl) (by simp) (AllReadyH.cons (o := { dst := some 34, op := Go.Op.call { callee := Go.Callee.value (Go.Operand.func 81), args := #[Go.Operand.tmp 33], argTypes := #[9] }, type := 9, pos := "tree.go:146", after := #[{ on := 2, ground := Go.Ground.data }], guard := none }) rfl (fun K hK => ?_) AllReadyH.nil)
    go_simp
    refine (unhide KD _).mono ?_
    rintro e w5 ⟨rfl, hb5⟩
    have HN5 := hide ((unhide HN0).after hb5)
    have HK5 := hide ((unhide HK0).trans (hb5.mono (unhide HN0).sz))
    have HF5 : Hid (KeepsFrom base W w5) := hide ⟨Nat.le_trans (unhide HF0).size hb5.size, fun k o hk h1 h2 => (keepsFrom_of_below base hb5).same k o hk ((unhide HF0).same k o hk h1 h2) h2⟩
    clear hb5 k0 f0
    obtain ⟨k0, f0⟩ := (unhide HN5).cell
    go_wp2_with fail
    refine hK.out _ _ trivial (fun _ => ?_)
    clear hK K
    refine wpAnyH_ready (rs := [6]) (by kernel_rfl) (by simp) (AllReadyH.cons (o := { dst := some 37, op := Go.Op.call { callee := Go.Callee.value (Go.Operand.func 51), args := #[Go.Operand.tmp 35, Go.Operand.tmp 36], argTypes := #[9, 22] }, type := 52, pos := "tree.go:146", after := #[{ on := 4, ground := Go.Ground.data }, { on := 5, ground := Go.Ground.data }, { on := 3, ground := Go.Ground.chain }], guard := none }) rfl (fun K hK => ?_) AllReadyH.nil)
    go_simp
    refine (unhide HI _ (unhide HN5).bl).mono ?_
    rintro e w6 ⟨a6, c6, b6, d6, rfl, hat6, hb6⟩
    have HAT6 := hide hat6
    clear hat6
    have HN6 := hide ((unhide HN5).after hb6)
    have HK6 := hide ((unhide HK5).trans (hb6.mono (unhide HN5).sz))
    have HF6 : Hid (KeepsFrom base W w6) := hide ⟨Nat.le_trans (unhide HF5).size hb6.size, fun k o hk h1 h2 => (keepsFrom_of_below base hb6).same k o hk ((unhide HF5).same k o hk h1 h2) h2⟩
    clear hb6 k0 f0
    obtain ⟨k0, f0⟩ := (unhide HN6).cell
    go_wp2_with fail
    refine hK.out _ _ trivial (fun _ => ?_)
    clear hK K
    refine wpAnyH_ready (rs := [7]) (by kernel_rfl) (by simp) (AllReadyH.cons (o := { dst := some 38, op := Go.Op.call { callee := Go.Callee.value (Go.Operand.func 76), args := #[Go.Operand.tmp 37], argTypes := #[52] }, type := 46, pos := "tree.go:146", after := #[{ on := 6, ground := Go.Ground.data }, { on := 6, ground := Go.Ground.chain }], guard := none }) rfl (fun K hK => ?_) AllReadyH.nil)
    go_simp
    refine (unhide HSUM _ _ _ _ _ (unhide HAT6) ((unhide HG).below (unhide HN6).bl h3) (Nat.lt_of_lt_of_le h3 (unhide HN6).bl.size)).mono ?_
    rintro e w7 ⟨rfl, hb7⟩
    have HN7 := hide ((unhide HN6).after hb7)
    have HK7 := hide ((unhide HK6).trans (hb7.mono (unhide HN6).sz))
    have HF7 : Hid (KeepsFrom base W w7) := hide ⟨Nat.le_trans (unhide HF6).size hb7.size, fun k o hk h1 h2 => (keepsFrom_of_below base hb7).same k o hk ((unhide HF6).same k o hk h1 h2) h2⟩
    clear hb7 k0 f0
    obtain ⟨k0, f0⟩ := (unhide HN7).cell
    go_wp2_with fail
    refine hK.out _ _ trivial (fun _ => ?_)
    clear hK K
    refine wpAnyH_take (i := 8) (oi := { dst := some 39, op := Go.Op.build 86 #[(0, Go.Operand.tmp 34), (1, Go.Operand.tmp 38)], type := 86, pos := "tree.go:146", after := #[{ on := 3, ground := Go.Ground.data }, { on := 7, ground := Go.Ground.data }], guard := none }) (v := .agg (kL (s, S)).toArray) rfl (by kernel_rfl) (by kernel_rfl) (by kernel_rfl) (fun _ _ _ h => absurd h (unhide HP _ _ _)) (Or.inl ⟨by rfl, ?_⟩) hS ?_
    · intro W hW; exact exec_buildK _ _ _ _ (by rfl) s S (by rfl) (by rfl) (unhide HD32) W
    simp only [Act.put, List.setIfInBounds_toArray, List.set_cons_zero, List.set_cons_succ]
    refine wpAnyH_ready (rs := [9]) (by kernel_rfl) (by simp) (AllReadyH.cons (o := { dst := some 40, op := Go.Op.buildSlice 50 1 #[(0, Go.Operand.tmp 39)], type := 50, pos := "tree.go:146", after := #[{ on := 8, ground := Go.Ground.data }], guard := none }) rfl (fun K hK => ?_) AllReadyH.nil)
    refine stepR_sliceK rfl _ (by rfl) (s, S) (by rfl) (unhide HD32) ?_
    have HA8 := hide (below_alloc' (w := w7) (.cells (kL (s, S)).toArray 86))
    have HN8 := hide ((unhide HN7).after (unhide HA8))
    have HK8 := hide ((unhide HK7).trans ((unhide HA8).mono (unhide HN7).sz))
    have HF8 : Hid (KeepsFrom base W (w7.alloc (.cells (kL (s, S)).toArray 86))) := hide ⟨Nat.le_trans (unhide HF7).size (unhide HA8).size, fun k o hk h1 h2 => (keepsFrom_of_below base (unhide HA8)).same k o hk ((unhide HF7).same k o hk h1 h2) h2⟩
    have HV8 := hide (VRow.new w7 86 (kL (s, S)))
    clear k0 f0
    obtain ⟨k0, f0⟩ := (unhide HN8).cell
    refine hK.out _ _ trivial (fun _ => ?_)
    clear hK K
    simp only [Act.put, List.setIfInBounds_toArray, List.set_cons_zero, List.set_cons_succ]
    refine wpAnyH_ready (rs := [10]) (by kernel_rfl) (by simp) (AllReadyH.cons (o := { dst := some 41, op := Go.Op.call { callee := Go.Callee.builtin Go.Builtin.append, args := #[Go.Operand.tmp 32, Go.Operand.tmp 40], argTypes := #[50, 50] }, type := 50, pos := "tree.go:146", after := #[{ on := 1, ground := Go.Ground.data }, { on := 9, ground := Go.Ground.data }, { on := 7, ground := Go.Ground.chain }], guard := none }) rfl (fun K hK => ?_) AllReadyH.nil)
    refine stepR_appendKG rfl _ _ (by rfl) base KV KS (by rfl) (unhide HN8).ow w7.heap.size 1 (s, S) (unhide HD32) (by rfl) (unhide HV8).range (by omega) (unhide HN8).sz ?_
    intro g9 c9 w9 hok9 hb9 hg9
    have HOK9 := hide hok9
    have HK9 := hide ((unhide HK8).trans hb9)
    have HF9 := hide (keeps_grown (unhide HF8) (unhide HN8).ow hg9)
    clear k0 f0
    obtain ⟨k0, f0⟩ := (unhide HN8).cellB hb9
    refine hK.out _ _ trivial (fun _ => ?_)
    clear hK K hok9 hb9 hg9
    simp only [Act.put, List.setIfInBounds_toArray, List.set_cons_zero, List.set_cons_succ]
    refine wpAnyH_take (i := 11) (oi := { dst := some 42, op := Go.Op.fieldAddr 52 (Go.Operand.tmp 5) 1, type := 0, pos := "tree.go:146", after := #[{ on := 0, ground := Go.Ground.phase }, { on := 1, ground := Go.Ground.phase }, { on := 2, ground := Go.Ground.phase }, { on := 3, ground := Go.Ground.phase }, { on := 4, ground := Go.Ground.phase }, { on := 5, ground := Go.Ground.phase }, { on := 6, ground := Go.Ground.phase }, { on := 7, ground := Go.Ground.phase }, { on := 8, ground := Go.Ground.phase }, { on := 9, ground := Go.Ground.phase }, { on := 10, ground := Go.Ground.phase }], guard := none }) (v := .pointer (some ⟨w.heap.size + 1, 1, none⟩)) rfl (by kernel_rfl) (by kernel_rfl) (by kernel_rfl) (fun _ _ _ h => absurd h (unhide HP _ _ _)) (Or.inl ⟨by rfl, ?_⟩) hS ?_
    · intro W hW; first | (go_simp; done) | (go_simp; with_reducible rfl)
    simp only [Act.put, List.setIfInBounds_toArray, List.set_cons_zero, List.set_cons_succ]
    refine wpAnyH_ready (rs := [12]) (by kernel_rfl) (by simp) (AllReadyH.cons (o := { dst := none, op := Go.Op.store 50 (Go.Operand.tmp 42) (Go.Operand.tmp 41), type := 0, pos := "tree.go:146", after := #[{ on := 11, ground := Go.Ground.data }, { on := 10, ground := Go.Ground.data }, { on := 10, ground := Go.Ground.chain }, { on := 0, ground := Go.Ground.phase }, { on := 1, ground := Go.Ground.phase }, { on := 2, ground := Go.Ground.phase }, { on := 3, ground := Go.Ground.phase }, { on := 4, ground := Go.Ground.phase }, { on := 5, ground := Go.Ground.phase }, { on := 6, ground := Go.Ground.phase }, { on := 7, ground := Go.Ground.phase }, { on := 8, ground := Go.Ground.phase }, { on := 9, ground := Go.Ground.phase }, { on := 10, ground := Go.Ground.phase }], guard := none }) rfl (fun K hK => ?_) AllReadyH.nil)
    go_simp
    refine hK.out _ _ trivial (fun _ => ?_)
    clear hK K
    refine wpAnyH_done (by kernel_rfl) ?_ _
    exact unhide HQ _ _ _ (unhide HOK9) (unhide HK9) (unhide HF9)
  · go_simp
    refine (unhide KD _).mono ?_
    rintro e w5 ⟨rfl, hb5⟩
    have HN5 := hide ((unhide HN0).after hb5)
    have HK5 := hide ((unhide HK0).trans (hb5.mono (unhide HN0).sz))
    have HF5 : Hid (KeepsFrom base W w5) := hide ⟨Nat.le_trans (unhide HF0).size hb5.size, fun k o hk h1 h2 => (keepsFrom_of_below base hb5).same k o hk ((unhide HF0).same k o hk h1 h2) h2⟩
    clear hb5 k0 f0
    obtain ⟨k0, f0⟩ := (unhide HN5).cell
    go_wp2_with fail
    refine hK.out _ _ trivial (fun _ => ?_)
    clear hK K
    refine wpAnyH_ready (rs := [1, 6]) (by kernel_rfl) (by simp) (AllReadyH.cons (o := { dst := some 32, op := Go.Op.load 50 (Go.Operand.tmp 31), type := 50, pos := "tree.go:146", after := #[{ on := 0, ground := Go.Ground.data }], guard := none }) rfl (fun K hK => ?_) (AllReadyH.cons (o := { dst := some 37, op := Go.Op.call { callee := Go.Callee.value (Go.Operand.func 51), args := #[Go.Operand.tmp 35, Go.Operand.tmp 36], argTypes := #[9, 22] }, type := 52, pos := "tree.go:146", after := #[{ on := 4, ground := Go.Ground.data }, { on := 5, ground := Go.Ground.data }, { on := 3, ground := Go.Ground.chain }], guard := none }) rfl (fun K hK => ?_) AllReadyH.nil))
    · go_simp
      refine hK.out _ _ trivial (fun _ => ?_)
      clear hK K
      refine wpAnyH_ready (rs := [6]) (by kernel_rfl) (by simp) (AllReadyH.cons (o := { dst := some 37, op := Go.Op.call { callee := Go.Callee.value (Go.Operand.func 51), args := #[Go.Operand.tmp 35, Go.Operand.tmp 36], argTypes := #[9, 22] }, type := 52, pos := "tree.go:146", after := #[{ on := 4, ground := Go.Ground.data }, { on := 5, ground := Go.Ground.data }, { on := 3, ground := Go.Ground.chain }], guard := none }) rfl (fun K hK => ?_) AllReadyH.nil)
      go_simp
      refine (unhide HI _ (unhide HN5).bl).mono ?_
      rintro e w6 ⟨a6, c6, b6, d6, rfl, hat6, hb6⟩
      have HAT6 := hide hat6
      clear hat6
      have HN6 := hide ((unhide HN5).after hb6)
      have HK6 := hide ((unhide HK5).trans (hb6.mono (unhide HN5).sz))
      have HF6 : Hid (KeepsFrom base W w6) := hide ⟨Nat.le_trans (unhide HF5).size hb6.size, fun k o hk h1 h2 => (keepsFrom_of_below base hb6).same k o hk ((unhide HF5).same k o hk h1 h2) h2⟩
      clear hb6 k0 f0
      obtain ⟨k0, f0⟩ := (unhide HN6).cell
      go_wp2_with fail
      refine hK.out _ _ trivial (fun _ => ?_)
      clear hK K
      refine wpAnyH_ready (rs := [7]) (by kernel_rfl) (by simp) (AllReadyH.cons (o := { dst := some 38, op := Go.Op.call { callee := Go.Callee.value (Go.Operand.func 76), args := #[Go.Operand.tmp 37], argTypes := #[52] }, type := 46, pos := "tree.go:146", after := #[{ on := 6, ground := Go.Ground.data }, { on := 6, ground := Go.Ground.chain }], guard := none }) rfl (fun K hK => ?_) AllReadyH.nil)
      go_simp
      refine (unhide HSUM _ _ _ _ _ (unhide HAT6) ((unhide HG).below (unhide HN6).bl h3) (Nat.lt_of_lt_of_le h3 (unhide HN6).bl.size)).mono ?_
      rintro e w7 ⟨rfl, hb7⟩
      have HN7 := hide ((unhide HN6).after hb7)
      have HK7 := hide ((unhide HK6).trans (hb7.mono (unhide HN6).sz))
      have HF7 : Hid (KeepsFrom base W w7) := hide ⟨Nat.le_trans (unhide HF6).size hb7.size, fun k o hk h1 h2 => (keepsFrom_of_below base hb7).same k o hk ((unhide HF6).same k o hk h1 h2) h2⟩
      clear hb7 k0 f0
      obtain ⟨k0, f0⟩ := (unhide HN7).cell
      go_wp2_with fail
      refine hK.out _ _ trivial (fun _ => ?_)
      clear hK K
      refine wpAnyH_take (i := 8) (oi := { dst := some 39, op := Go.Op.build 86 #[(0, Go.Operand.tmp 34), (1, Go.Operand.tmp 38)], type := 86, pos := "tree.go:146", after := #[{ on := 3, ground := Go.Ground.data }, { on := 7, ground := Go.Ground.data }], guard := none }) (v := .agg (kL (s, S)).toArray) rfl (by kernel_rfl) (by kernel_rfl) (by kernel_rfl) (fun _ _ _ h => absurd h (unhide HP _ _ _)) (Or.inl ⟨by rfl, ?_⟩) hS ?_
      · intro W hW; exact exec_buildK _ _ _ _ (by rfl) s S (by rfl) (by rfl) (unhide HD32) W
      simp only [Act.put, List.setIfInBounds_toArray, List.set_cons_zero, List.set_cons_succ]
      refine wpAnyH_ready (rs := [9]) (by kernel_rfl) (by simp) (AllReadyH.cons (o := { dst := some 40, op := Go.Op.buildSlice 50 1 #[(0, Go.Operand.tmp 39)], type := 50, pos := "tree.go:146", after := #[{ on := 8, ground := Go.Ground.data }], guard := none }) rfl (fun K hK => ?_) AllReadyH.nil)
      refine stepR_sliceK rfl _ (by rfl) (s, S) (by rfl) (unhide HD32) ?_
      have HA8 := hide (below_alloc' (w := w7) (.cells (kL (s, S)).toArray 86))
      have HN8 := hide ((unhide HN7).after (unhide HA8))
      have HK8 := hide ((unhide HK7).trans ((unhide HA8).mono (unhide HN7).sz))
      have HF8 : Hid (KeepsFrom base W (w7.alloc (.cells (kL (s, S)).toArray 86))) := hide ⟨Nat.le_trans (unhide HF7).size (unhide HA8).size, fun k o hk h1 h2 => (keepsFrom_of_below base (unhide HA8)).same k o hk ((unhide HF7).same k o hk h1 h2) h2⟩
      have HV8 := hide (VRow.new w7 86 (kL (s, S)))
      clear k0 f0
      obtain ⟨k0, f0⟩ := (unhide HN8).cell
      refine hK.out _ _ trivial (fun _ => ?_)
      clear hK K
      simp only [Act.put, List.setIfInBounds_toArray, List.set_cons_zero, List.set_cons_succ]
      refine wpAnyH_ready (rs := [10]) (by kernel_rfl) (by simp) (AllReadyH.cons (o := { dst := some 41, op := Go.Op.call { callee := Go.Callee.builtin Go.Builtin.append, args := #[Go.Operand.tmp 32, Go.Operand.tmp 40], argTypes := #[50, 50] }, type := 50, pos := "tree.go:146", after := #[{ on := 1, ground := Go.Ground.data }, { on := 9, ground := Go.Ground.data }, { on := 7, ground := Go.Ground.chain }], guard := none }) rfl (fun K hK => ?_) AllReadyH.nil)
      refine stepR_appendKG rfl _ _ (by rfl) base KV KS (by rfl) (unhide HN8).ow w7.heap.size 1 (s, S) (unhide HD32) (by rfl) (unhide HV8).range (by omega) (unhide HN8).sz ?_
      intro g9 c9 w9 hok9 hb9 hg9
      have HOK9 := hide hok9
      have HK9 := hide ((unhide HK8).trans hb9)
      have HF9 := hide (keeps_grown (unhide HF8) (unhide HN8).ow hg9)
      clear k0 f0
      obtain ⟨k0, f0⟩ := (unhide HN8).cellB hb9
      refine hK.out _ _ trivial (fun _ => ?_)
      clear hK K hok9 hb9 hg9
      simp only [Act.put, List.setIfInBounds_toArray, List.set_cons_zero, List.set_cons_succ]
      refine wpAnyH_take (i := 11) (oi := { dst := some 42, op := Go.Op.fieldAddr 52 (Go.Operand.tmp 5) 1, type := 0, pos := "tree.go:146", after := #[{ on := 0, ground := Go.Ground.phase }, { on := 1, ground := Go.Ground.phase }, { on := 2, ground := Go.Ground.phase }, { on := 3, ground := Go.Ground.phase }, { on := 4, ground := Go.Ground.phase }, { on := 5, ground := Go.Ground.phase }, { on := 6, ground := Go.Ground.phase }, { on := 7, ground := Go.Ground.phase }, { on := 8, ground := Go.Ground.phase }, { on := 9, ground := Go.Ground.phase }, { on := 10, ground := Go.Ground.phase }], guard := none }) (v := .pointer (some ⟨w.heap.size + 1, 1, none⟩)) rfl (by kernel_rfl) (by kernel_rfl) (by kernel_rfl) (fun _ _ _ h => absurd h (unhide HP _ _ _)) (Or.inl ⟨by rfl, ?_⟩) hS ?_
      · intro W hW; first | (go_simp; done) | (go_simp; with_reducible rfl)
      simp only [Act.put, List.setIfInBounds_toArray, List.set_cons_zero, List.set_cons_succ]
      refine wpAnyH_ready (rs := [12]) (by kernel_rfl) (by simp) (AllReadyH.cons (o := { dst := none, op := Go.Op.store 50 (Go.Operand.tmp 42) (Go.Operand.tmp 41), type := 0, pos := "tree.go:146", after := #[{ on := 11, ground := Go.Ground.data }, { on := 10, ground := Go.Ground.data }, { on := 10, ground := Go.Ground.chain }, { on := 0, ground := Go.Ground.phase }, { on := 1, ground := Go.Ground.phase }, { on := 2, ground := Go.Ground.phase }, { on := 3, ground := Go.Ground.phase }, { on := 4, ground := Go.Ground.phase }, { on := 5, ground := Go.Ground.phase }, { on := 6, ground := Go.Ground.phase }, { on := 7, ground := Go.Ground.phase }, { on := 8, ground := Go.Ground.phase }, { on := 9, ground := Go.Ground.phase }, { on := 10, ground := Go.Ground.phase }], guard := none }) rfl (fun K hK => ?_) AllReadyH.nil)
      go_simp
      refine hK.out _ _ trivial (fun _ => ?_)
      clear hK K
      refine wpAnyH_done (by kernel_rfl) ?_ _
      exact unhide HQ _ _ _ (unhide HOK9) (unhide HK9) (unhide HF9)
    · go_simp
      refine (unhide HI _ (unhide HN5).bl).mono ?_
      rintro e w6 ⟨a6, c6, b6, d6, rfl, hat6, hb6⟩
      have HAT6 := hide hat6
      clear hat6
      have HN6 := hide ((unhide HN5).after hb6)
      have HK6 := hide ((unhide HK5).trans (hb6.mono (unhide HN5).sz))
      have HF6 : Hid (KeepsFrom base W w6) := hide ⟨Nat.le_trans (unhide HF5).size hb6.size, fun k o hk h1 h2 => (keepsFrom_of_below base hb6).same k o hk ((unhide HF5).same k o hk h1 h2) h2⟩
      clear hb6 k0 f0
      obtain ⟨k0, f0⟩ := (unhide HN6).cell
      go_wp2_with fail
      refine hK.out _ _ trivial (fun _ => ?_)
      clear hK K
      refine wpAnyH_ready (rs := [1, 7]) (by kernel_rfl) (by simp) (AllReadyH.cons (o := { dst := some 32, op := Go.Op.load 50 (Go.Operand.tmp 31), type := 50, pos := "tree.go:146", after := #[{ on := 0, ground := Go.Ground.data }], guard := none }) rfl (fun K hK => ?_) (AllReadyH.cons (o := { dst := some 38, op := Go.Op.call { callee := Go.Callee.value (Go.Operand.func 76), args := #[Go.Operand.tmp 37], argTypes := #[52] }, type := 46, pos := "tree.go:146", after := #[{ on := 6, ground := Go.Ground.data }, { on := 6, ground := Go.Ground.chain }], guard := none }) rfl (fun K hK => ?_) AllReadyH.nil))
      · go_simp
        refine hK.out _ _ trivial (fun _ => ?_)
        clear hK K
        refine wpAnyH_ready (rs := [7]) (by kernel_rfl) (by simp) (AllReadyH.cons (o := { dst := some 38, op := Go.Op.call { callee := Go.Callee.value (Go.Operand.func 76), args := #[Go.Operand.tmp 37], argTypes := #[52] }, type := 46, pos := "tree.go:146", after := #[{ on := 6, ground := Go.Ground.data }, { on := 6, ground := Go.Ground.chain }], guard := none }) rfl (fun K hK => ?_) AllReadyH.nil)
        go_simp
        refine (unhide HSUM _ _ _ _ _ (unhide HAT6) ((unhide HG).below (unhide HN6).bl h3) (Nat.lt_of_lt_of_le h3 (unhide HN6).bl.size)).mono ?_
        rintro e w7 ⟨rfl, hb7⟩
        have HN7 := hide ((unhide HN6).after hb7)
        have HK7 := hide ((unhide HK6).trans (hb7.mono (unhide HN6).sz))
        have HF7 : Hid (KeepsFrom base W w7) := hide ⟨Nat.le_trans (unhide HF6).size hb7.size, fun k o hk h1 h2 => (keepsFrom_of_below base hb7).same k o hk ((unhide HF6).same k o hk h1 h2) h2⟩
        clear hb7 k0 f0
        obtain ⟨k0, f0⟩ := (unhide HN7).cell
        go_wp2_with fail
        refine hK.out _ _ trivial (fun _ => ?_)
        clear hK K
        refine wpAnyH_take (i := 8) (oi := { dst := some 39, op := Go.Op.build 86 #[(0, Go.Operand.tmp 34), (1, Go.Operand.tmp 38)], type := 86, pos := "tree.go:146", after := #[{ on := 3, ground := Go.Ground.data }, { on := 7, ground := Go.Ground.data }], guard := none }) (v := .agg (kL (s, S)).toArray) rfl (by kernel_rfl) (by kernel_rfl) (by kernel_rfl) (fun _ _ _ h => absurd h (unhide HP _ _ _)) (Or.inl ⟨by rfl, ?_⟩) hS ?_
        · intro W hW; exact exec_buildK _ _ _ _ (by rfl) s S (by rfl) (by rfl) (unhide HD32) W
        simp only [Act.put, List.setIfInBounds_toArray, List.set_cons_zero, List.set_cons_succ]
        refine wpAnyH_ready (rs := [9]) (by kernel_rfl) (by simp) (AllReadyH.cons (o := { dst := some 40, op := Go.Op.buildSlice 50 1 #[(0, Go.Operand.tmp 39)], type := 50, pos := "tree.go:146", after := #[{ on := 8, ground := Go.Ground.data }], guard := none }) rfl (fun K hK => ?_) AllReadyH.nil)
        refine stepR_sliceK rfl _ (by rfl) (s, S) (by rfl) (unhide HD32) ?_
        have HA8 := hide (below_alloc' (w := w7) (.cells (kL (s, S)).toArray 86))
        have HN8 := hide ((unhide HN7).after (unhide HA8))
        have HK8 := hide ((unhide HK7).trans ((unhide HA8).mono (unhide HN7).sz))
        have HF8 : Hid (KeepsFrom base W (w7.alloc (.cells (kL (s, S)).toArray 86))) := hide ⟨Nat.le_trans (unhide HF7).size (unhide HA8).size, fun k o hk h1 h2 => (keepsFrom_of_below base (unhide HA8)).same k o hk ((unhide HF7).same k o hk h1 h2) h2⟩
        have HV8 := hide (VRow.new w7 86 (kL (s, S)))
        clear k0 f0
        obtain ⟨k0, f0⟩ := (unhide HN8).cell
        refine hK.out _ _ trivial (fun _ => ?_)
        clear hK K
        simp only [Act.put, List.setIfInBounds_toArray, List.set_cons_zero, List.set_cons_succ]
        refine wpAnyH_ready (rs := [10]) (by kernel_rfl) (by simp) (AllReadyH.cons (o := { dst := some 41, op := Go.Op.call { callee := Go.Callee.builtin Go.Builtin.append, args := #[Go.Operand.tmp 32, Go.Operand.tmp 40], argTypes := #[50, 50] }, type := 50, pos := "tree.go:146", after := #[{ on := 1, ground := Go.Ground.data }, { on := 9, ground := Go.Ground.data }, { on := 7, ground := Go.Ground.chain }], guard := none }) rfl (fun K hK => ?_) AllReadyH.nil)
        refine stepR_appendKG rfl _ _ (by rfl) base KV KS (by rfl) (unhide HN8).ow w7.heap.size 1 (s, S) (unhide HD32) (by rfl) (unhide HV8).range (by omega) (unhide HN8).sz ?_
        intro g9 c9 w9 hok9 hb9 hg9
        have HOK9 := hide hok9
        have HK9 := hide ((unhide HK8).trans hb9)
        have HF9 := hide (keeps_grown (unhide HF8) (unhide HN8).ow hg9)
        clear k0 f0
        obtain ⟨k0, f0⟩ := (unhide HN8).cellB hb9
        refine hK.out _ _ trivial (fun _ => ?_)
        clear hK K hok9 hb9 hg9
        simp only [Act.put, List.setIfInBounds_toArray, List.set_cons_zero, List.set_cons_succ]
        refine wpAnyH_take (i := 11) (oi := { dst := some 42, op := Go.Op.fieldAddr 52 (Go.Operand.tmp 5) 1, type := 0, pos := "tree.go:146", after := #[{ on := 0, ground := Go.Ground.phase }, { on := 1, ground := Go.Ground.phase }, { on := 2, ground := Go.Ground.phase }, { on := 3, ground := Go.Ground.phase }, { on := 4, ground := Go.Ground.phase }, { on := 5, ground := Go.Ground.phase }, { on := 6, ground := Go.Ground.phase }, { on := 7, ground := Go.Ground.phase }, { on := 8, ground := Go.Ground.phase }, { on := 9, ground := Go.Ground.phase }, { on := 10, ground := Go.Ground.phase }], guard := none }) (v := .pointer (some ⟨w.heap.size + 1, 1, none⟩)) rfl (by kernel_rfl) (by kernel_rfl) (by kernel_rfl) (fun _ _ _ h => absurd h (unhide HP _ _ _)) (Or.inl ⟨by rfl, ?_⟩) hS ?_
        · intro W hW; first | (go_simp; done) | (go_simp; with_reducible rfl)
        simp only [Act.put, List.setIfInBounds_toArray, List.set_cons_zero, List.set_cons_succ]
        refine wpAnyH_ready (rs := [12]) (by kernel_rfl) (by simp) (AllReadyH.cons (o := { dst := none, op := Go.Op.store 50 (Go.Operand.tmp 42) (Go.Operand.tmp 41), type := 0, pos := "tree.go:146", after := #[{ on := 11, ground := Go.Ground.data }, { on := 10, ground := Go.Ground.data }, { on := 10, ground := Go.Ground.chain }, { on := 0, ground := Go.Ground.phase }, { on := 1, ground := Go.Ground.phase }, { on := 2, ground := Go.Ground.phase }, { on := 3, ground := Go.Ground.phase }, { on := 4, ground := Go.Ground.phase }, { on := 5, ground := Go.Ground.phase }, { on := 6, ground := Go.Ground.phase }, { on := 7, ground := Go.Ground.phase }, { on := 8, ground := Go.Ground.phase }, { on := 9, ground := Go.Ground.phase }, { on := 10, ground := Go.Ground.phase }], guard := none }) rfl (fun K hK => ?_) AllReadyH.nil)
        go_simp
        refine hK.out _ _ trivial (fun _ => ?_)
        clear hK K
        refine wpAnyH_done (by kernel_rfl) ?_ _
        exact unhide HQ _ _ _ (unhide HOK9) (unhide HK9) (unhide HF9)
      · go_simp
        refine (unhide HSUM _ _ _ _ _ (unhide HAT6) ((unhide HG).below (unhide HN6).bl h3) (Nat.lt_of_lt_of_le h3 (unhide HN6).bl.size)).mono ?_
        rintro e w7 ⟨rfl, hb7⟩
        have HN7 := hide ((unhide HN6).after hb7)
        have HK7 := hide ((unhide HK6).trans (hb7.mono (unhide HN6).sz))
        have HF7 : Hid (KeepsFrom base W w7) := hide ⟨Nat.le_trans (unhide HF6).size hb7.size, fun k o hk h1 h2 => (keepsFrom_of_below base hb7).same k o hk ((unhide HF6).same k o hk h1 h2) h2⟩
        clear hb7 k0 f0
        obtain ⟨k0, f0⟩ := (unhide HN7).cell
        go_wp2_with fail
        refine hK.out _ _ trivial (fun _ => ?_)
        clear hK K
        refine wpAnyH_take (i := 8) (oi := { dst := some 39, op := Go.Op.build 86 #[(0, Go.Operand.tmp 34), (1, Go.Operand.tmp 38)], type := 86, pos := "tree.go:146", after := #[{ on := 3, ground := Go.Ground.data }, { on := 7, ground := Go.Ground.data }], guard := none }) (v := .agg (kL (s, S)).toArray) rfl (by kernel_rfl) (by kernel_rfl) (by kernel_rfl) (fun _ _ _ h => absurd h (unhide HP _ _ _)) (Or.inl ⟨by rfl, ?_⟩) hS ?_
        · intro W hW; exact exec_buildK _ _ _ _ (by rfl) s S (by rfl) (by rfl) (unhide HD32) W
        simp only [Act.put, List.setIfInBounds_toArray, List.set_cons_zero, List.set_cons_succ]
        refine wpAnyH_ready (rs := [1, 9]) (by kernel_rfl) (by simp) (AllReadyH.cons (o := { dst := some 32, op := Go.Op.load 50 (Go.Operand.tmp 31), type := 50, pos := "tree.go:146", after := #[{ on := 0, ground := Go.Ground.data }], guard := none }) rfl (fun K hK => ?_) (AllReadyH.cons (o := { dst := some 40, op := Go.Op.buildSlice 50 1 #[(0, Go.Operand.tmp 39)], type := 50, pos := "tree.go:146", after := #[{ on := 8, ground := Go.Ground.data }], guard := none }) rfl (fun K hK => ?_) AllReadyH.nil))
        · go_simp
          refine hK.out _ _ trivial (fun _ => ?_)
          clear hK K
          refine wpAnyH_ready (rs := [9]) (by kernel_rfl) (by simp) (AllReadyH.cons (o := { dst := some 40, op := Go.Op.buildSlice 50 1 #[(0, Go.Operand.tmp 39)], type := 50, pos := "tree.go:146", after := #[{ on := 8, ground := Go.Ground.data }], guard := none }) rfl (fun K hK => ?_) AllReadyH.nil)
          refine stepR_sliceK rfl _ (by rfl) (s, S) (by rfl) (unhide HD32) ?_
          have HA8 := hide (below_alloc' (w := w7) (.cells (kL (s, S)).toArray 86))
          have HN8 := hide ((unhide HN7).after (unhide HA8))
          have HK8 := hide ((unhide HK7).trans ((unhide HA8).mono (unhide HN7).sz))
          have HF8 : Hid (KeepsFrom base W (w7.alloc (.cells (kL (s, S)).toArray 86))) := hide ⟨Nat.le_trans (unhide HF7).size (unhide HA8).size, fun k o hk h1 h2 => (keepsFrom_of_below base (unhide HA8)).same k o hk ((unhide HF7).same k o hk h1 h2) h2⟩
          have HV8 := hide (VRow.new w7 86 (kL (s, S)))
          clear k0 f0
          obtain ⟨k0, f0⟩ := (unhide HN8).cell
          refine hK.out _ _ trivial (fun _ => ?_)
          clear hK K
          simp only [Act.put, List.setIfInBounds_toArray, List.set_cons_zero, List.set_cons_succ]
          refine wpAnyH_ready (rs := [10]) (by kernel_rfl) (by simp) (AllReadyH.cons (o := { dst := some 41, op := Go.Op.call { callee := Go.Callee.builtin Go.Builtin.append, args := #[Go.Operand.tmp 32, Go.Operand.tmp 40], argTypes := #[50, 50] }, type := 50, pos := "tree.go:146", after := #[{ on := 1, ground := Go.Ground.data }, { on := 9, ground := Go.Ground.data }, { on := 7, ground := Go.Ground.chain }], guard := none }) rfl (fun K hK => ?_) AllReadyH.nil)
          refine stepR_appendKG rfl _ _ (by rfl) base KV KS (by rfl) (unhide HN8).ow w7.heap.size 1 (s, S) (unhide HD32) (by rfl) (unhide HV8).range (by omega) (unhide HN8).sz ?_
          intro g9 c9 w9 hok9 hb9 hg9
          have HOK9 := hide hok9
          have HK9 := hide ((unhide HK8).trans hb9)
          have HF9 := hide (keeps_grown (unhide HF8) (unhide HN8).ow hg9)
          clear k0 f0
          obtain ⟨k0, f0⟩ := (unhide HN8).cellB hb9
          refine hK.out _ _ trivial (fun _ => ?_)
          clear hK K hok9 hb9 hg9
          simp only [Act.put, List.setIfInBounds_toArray, List.set_cons_zero, List.set_cons_succ]
          refine wpAnyH_take (i := 11) (oi := { dst := some 42, op := Go.Op.fieldAddr 52 (Go.Operand.tmp 5) 1, type := 0, pos := "tree.go:146", after := #[{ on := 0, ground := Go.Ground.phase }, { on := 1, ground := Go.Ground.phase }, { on := 2, ground := Go.Ground.phase }, { on := 3, ground := Go.Ground.phase }, { on := 4, ground := Go.Ground.phase }, { on := 5, ground := Go.Ground.phase }, { on := 6, ground := Go.Ground.phase }, { on := 7, ground := Go.Ground.phase }, { on := 8, ground := Go.Ground.phase }, { on := 9, ground := Go.Ground.phase }, { on := 10, ground := Go.Ground.phase }], guard := none }) (v := .pointer (some ⟨w.heap.size + 1, 1, none⟩)) rfl (by kernel_rfl) (by kernel_rfl) (by kernel_rfl) (fun _ _ _ h => absurd h (unhide HP _ _ _)) (Or.inl ⟨by rfl, ?_⟩) hS ?_
          · intro W hW; first | (go_simp; done) | (go_simp; with_reducible rfl)
          simp only [Act.put, List.setIfInBounds_toArray, List.set_cons_zero, List.set_cons_succ]
          refine wpAnyH_ready (rs := [12]) (by kernel_rfl) (by simp) (AllReadyH.cons (o := { dst := none, op := Go.Op.store 50 (Go.Operand.tmp 42) (Go.Operand.tmp 41), type := 0, pos := "tree.go:146", after := #[{ on := 11, ground := Go.Ground.data }, { on := 10, ground := Go.Ground.data }, { on := 10, ground := Go.Ground.chain }, { on := 0, ground := Go.Ground.phase }, { on := 1, ground := Go.Ground.phase }, { on := 2, ground := Go.Ground.phase }, { on := 3, ground := Go.Ground.phase }, { on := 4, ground := Go.Ground.phase }, { on := 5, ground := Go.Ground.phase }, { on := 6, ground := Go.Ground.phase }, { on := 7, ground := Go.Ground.phase }, { on := 8, ground := Go.Ground.phase }, { on := 9, ground := Go.Ground.phase }, { on := 10, ground := Go.Ground.phase }], guard := none }) rfl (fun K hK => ?_) AllReadyH.nil)
          go_simp
          refine hK.out _ _ trivial (fun _ => ?_)
          clear hK K
          refine wpAnyH_done (by kernel_rfl) ?_ _
          exact unhide HQ _ _ _ (unhide HOK9) (unhide HK9) (unhide HF9)
        · refine stepR_sliceK rfl _ (by rfl) (s, S) (by rfl) (unhide HD32) ?_
          have HA8 := hide (below_alloc' (w := w7) (.cells (kL (s, S)).toArray 86))
          have HN8 := hide ((unhide HN7).after (unhide HA8))
          have HK8 := hide ((unhide HK7).trans ((unhide HA8).mono (unhide HN7).sz))
          have HF8 : Hid (KeepsFrom base W (w7.alloc (.cells (kL (s, S)).toArray 86))) := hide ⟨Nat.le_trans (unhide HF7).size (unhide HA8).size, fun k o hk h1 h2 => (keepsFrom_of_below base (unhide HA8)).same k o hk ((unhide HF7).same k o hk h1 h2) h2⟩
          have HV8 := hide (VRow.new w7 86 (kL (s, S)))
          clear k0 f0
          obtain ⟨k0, f0⟩ := (unhide HN8).cell
          refine hK.out _ _ trivial (fun _ => ?_)
          clear hK K
          simp only [Act.put, List.setIfInBounds_toArray, List.set_cons_zero, List.set_cons_succ]
          refine wpAnyH_ready (rs := [1]) (by kernel_rfl) (by simp) (AllReadyH.cons (o := { dst := some 32, op := Go.Op.load 50 (Go.Operand.tmp 31), type := 50, pos := "tree.go:146", after := #[{ on := 0, ground := Go.Ground.data }], guard := none }) rfl (fun K hK => ?_) AllReadyH.nil)
          go_simp
          refine hK.out _ _ trivial (fun _ => ?_)
          clear hK K
          refine wpAnyH_ready (rs := [10]) (by kernel_rfl) (by simp) (AllReadyH.cons (o := { dst := some 41, op := Go.Op.call { callee := Go.Callee.builtin Go.Builtin.append, args := #[Go.Operand.tmp 32, Go.Operand.tmp 40], argTypes := #[50, 50] }, type := 50, pos := "tree.go:146", after := #[{ on := 1, ground := Go.Ground.data }, { on := 9, ground := Go.Ground.data }, { on := 7, ground := Go.Ground.chain }], guard := none }) rfl (fun K hK => ?_) AllReadyH.nil)
          refine stepR_appendKG rfl _ _ (by rfl) base KV KS (by rfl) (unhide HN8).ow w7.heap.size 1 (s, S) (unhide HD32) (by rfl) (unhide HV8).range (by omega) (unhide HN8).sz ?_
          intro g9 c9 w9 hok9 hb9 hg9
          have HOK9 := hide hok9
          have HK9 := hide ((unhide HK8).trans hb9)
          have HF9 := hide (keeps_grown (unhide HF8) (unhide HN8).ow hg9)
          clear k0 f0
          obtain ⟨k0, f0⟩ := (unhide HN8).cellB hb9
          refine hK.out _ _ trivial (fun _ => ?_)
          clear hK K hok9 hb9 hg9
          simp only [Act.put, List.setIfInBounds_toArray, List.set_cons_zero, List.set_cons_succ]
          refine wpAnyH_take (i := 11) (oi := { dst := some 42, op := Go.Op.fieldAddr 52 (Go.Operand.tmp 5) 1, type := 0, pos := "tree.go:146", after := #[{ on := 0, ground := Go.Ground.phase }, { on := 1, ground := Go.Ground.phase }, { on := 2, ground := Go.Ground.phase }, { on := 3, ground := Go.Ground.phase }, { on := 4, ground := Go.Ground.phase }, { on := 5, ground := Go.Ground.phase }, { on := 6, ground := Go.Ground.phase }, { on := 7, ground := Go.Ground.phase }, { on := 8, ground := Go.Ground.phase }, { on := 9, ground := Go.Ground.phase }, { on := 10, ground := Go.Ground.phase }], guard := none }) (v := .pointer (some ⟨w.heap.size + 1, 1, none⟩)) rfl (by kernel_rfl) (by kernel_rfl) (by kernel_rfl) (fun _ _ _ h => absurd h (unhide HP _ _ _)) (Or.inl ⟨by rfl, ?_⟩) hS ?_
          · intro W hW; first | (go_simp; done) | (go_simp; with_reducible rfl)
          simp only [Act.put, List.setIfInBounds_toArray, List.set_cons_zero, List.set_cons_succ]
          refine wpAnyH_ready (rs := [12]) (by kernel_rfl) (by simp) (AllReadyH.cons (o := { dst := none, op := Go.Op.store 50 (Go.Operand.tmp 42) (Go.Operand.tmp 41), type := 0, pos := "tree.go:146", after := #[{ on := 11, ground := Go.Ground.data }, { on := 10, ground := Go.Ground.data }, { on := 10, ground := Go.Ground.chain }, { on := 0, ground := Go.Ground.phase }, { on := 1, ground := Go.Ground.phase }, { on := 2, ground := Go.Ground.phase }, { on := 3, ground := Go.Ground.phase }, { on := 4, ground := Go.Ground.phase }, { on := 5, ground := Go.Ground.phase }, { on := 6, ground := Go.Ground.phase }, { on := 7, ground := Go.Ground.phase }, { on := 8, ground := Go.Ground.phase }, { on := 9, ground := Go.Ground.phase }, { on := 10, ground := Go.Ground.phase }], guard := none }) rfl (fun K hK => ?_) AllReadyH.nil)
          go_simp
          refine hK.out _ _ trivial (fun _ => ?_)
          clear hK K
          refine wpAnyH_done (by kernel_rfl) ?_ _
          exact unhide HQ _ _ _ (unhide HOK9) (unhide HK9) (unhide HF9)
end Go.Proofs.YtebjlmnhpfoglaaGreatDoor
