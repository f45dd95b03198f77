/-
  What the program's Parts answers: a path's names. Conditions: those that each theorem names.
-/
import Derived.Test.YtpfighkafmammaaC02
import Derived.Test.YtpfighkafmammaaB05
import Derived.Test.YtpfighkafmammaaB06
import Derived.Test.YtpfighkafmammaaF02
import Derived.Shelf.Slices.CompactS
import Derived.Lib.RowBridge
import Derived.Test.YtpfighkafmammaaProg
import Derived.Test.YtpfighkafmammaaE01
import Derived.Deep.AppendLies
namespace Go.Proofs.Ytpfighkafmammaa.Pth
open Go.RowKit

theorem row4_cells {W : World} {g : Nat} {PS : List Pt.Bs} (h : VRow W g 91 (row4 PS)) (bs : List ByteArray) (hb : lists bs = PS) (j : Nat) (hj : j < bs.length) : W.cell? ⟨g, 0 + j, none⟩ = some (.string (bs.getD j ByteArray.empty)) := by
  rw [Nat.zero_add]
  have e : PS[j]? = some (bs.getD j ByteArray.empty).data.toList := by
    rw [← hb, lists, List.getElem?_map, List.getElem?_eq_getElem hj]
    simp [List.getD, hj]
  rw [h.cell j _ (row4_get PS j _ e), str_data]

def ofList (l : Pt.Bs) : ByteArray := ⟨l.toArray⟩
theorem lists_ofList (ps : List Pt.Bs) : lists (ps.map ofList) = ps := by
  unfold lists ofList
  rw [List.map_map]
  simp [Function.comp_def]

theorem slice_four (n : Nat) (hn : n ≤ 4) (g : Nat) (w : World) :
    Sem.run Try.prog (Instr.sliceAt 91 (.pointer (some ⟨g, 0, none⟩)) none (some (.int .i64 (n : Int))) none) w = .ok (.slice (some ⟨g, 0, none⟩) n 4) w := by
  have hal : Try.prog.arrayLen 91 = 4 := by kernel_rfl
  have hel : Try.prog.elem 91 = 9 := by kernel_rfl
  have h := run_sliceAt_array_h (P := Try.prog) w 91 ⟨g, 0, none⟩ (by kernel_rfl) .i64 (n : Int) (by omega) (by rw [hal]; omega)
  rw [h, hel, hal, Try.sizeOf9]
  simp [Result.andThen, slicedAt, Addr.add]

theorem own_sl {W : World} {base : Nat} {v : Value} {bs : List ByteArray} (h : W.ownsRow base 9 1 v bs.length (bs.map Value.string)) : ∃ a cap, v = .slice a bs.length cap ∧ bs.length ≤ cap ∧ Sl W a bs := by
  by_cases h0 : 0 < bs.length
  · obtain ⟨g, cap, e, hb⟩ := Buf.owned h h0
    exact ⟨_, cap, e, hb.fits, hb.sl⟩
  · obtain ⟨_, ⟨e, hn⟩ | ⟨g, cap, cur, e, _, _, h1, _⟩⟩ := h
    · exact ⟨none, 0, by rw [e, hn], by omega, fun h => absurd h h0⟩
    · exact ⟨_, cap, e, h1, fun h => absurd h h0⟩

theorem own_new {W : World} {base n : Nat} {v : Value} {xs : List Value} (h : W.ownsRow base 9 1 v n xs) (ad : Addr) (m c : Nat) (e : v = .slice (some ad) m c) : base ≤ ad.block := by
  rcases h.2 with ⟨rfl, _⟩ | ⟨g', cap, cur, rfl, hg, _⟩
  · cases e
  · simp only [Value.slice.injEq, Option.some.injEq] at e
    rw [← e.1]
    exact hg

set_option maxRecDepth 100000 in
set_option maxHeartbeats 1000000 in
theorem parts_any (s : ByteArray) (hs : s.size ≤ 100000) (w : World) :
    Calls Try.prog 37 #[.string s] w fun e w' => ∃ a cap bs, e = .returned (.slice a bs.length cap) ∧ lists bs = Pt.parts s.data.toList ∧ bs.length ≤ cap ∧ Sl w' a bs ∧ (∀ ad, a = some ad → w.heap.size ≤ ad.block) ∧ Below w.heap.size w w' := by
  have HC := hide (split_any s hs)
  have hP4 := Pt.parts_le s.data.toList
  obtain ⟨PS, hPS⟩ : ∃ PS, Pt.parts s.data.toList = PS := ⟨_, rfl⟩
  rw [hPS] at HC hP4 ⊢
  have HL := hide (row4_len PS hP4)
  have H1 := hide (row4_one PS)
  obtain ⟨bs, hbs, hbl⟩ : ∃ bs : List ByteArray, lists bs = PS ∧ bs.length = PS.length := ⟨PS.map ofList, lists_ofList PS, by simp⟩
  have HBS := hide hbs
  rw [← hbl] at HC
  have hb4 : bs.length ≤ 4 := by omega
  clear hPS hs hbs hbl hP4
  have hsl := slice_four bs.length hb4
  go_enter Try.func37, Try.ntmps37
  go_wp2_with (first
    | (go_at_call 57; refine (unhide HC _).mono ?_; rintro e w1 ⟨rfl, hb1⟩; have HB1 := hide hb1; clear hb1)
    | (refine store_row (by rfl) 91 _ _ (by rfl) w1.heap.size (row4 PS) (by rfl) (by rfl) 91 (row4 []) (VRow.newAt rfl) 4 size91 (unhide HL) rfl (unhide H1) ?_; intro w2 ho2 hr2; have HB2 := hide (((unhide HB1).alloc (unhide HB1).size _).trans (ho2.below (unhide HB1).size)); have HR2 := hide hr2; clear ho2 hr2))
  refine (Try.slices_Clone_string w1.heap.size 0 bs.length 4 bs w2 (Nat.le_refl _) (by omega) (row4_cells (unhide HR2) bs (unhide HBS))).mono ?_
  rintro e w3 ⟨v, rfl, hown, _, hb3⟩
  rw [List.take_length] at hown
  have hnw := own_new hown
  obtain ⟨a, cap, rfl, hcap, hsl3⟩ := own_sl hown
  have HNW : Hid (∀ ad, a = some ad → w.heap.size ≤ ad.block) := hide (fun ad e => Nat.le_trans (unhide HB2).size (hnw ad _ _ (by rw [e])))
  have HS3 := hide hsl3
  have HB3 := hide (below_grow (unhide HB2) (Nat.le_refl _) hb3)
  clear hown hb3 hsl3 hsl hnw
  go_wp2_with fail
  go_ret
  exact ⟨a, cap, bs, rfl, unhide HBS, hcap, unhide HS3, unhide HNW, unhide HB3⟩
end Go.Proofs.Ytpfighkafmammaa.Pth

/-
  Of how many names the longest path is: what Depth answers. Conditions: those that each theorem names.
-/

namespace Go.Proofs.Ytpfighkafmammaa
open Go.RowKit Go.Shelf

attribute [local go_sem] Oper.semAt_some

set_option maxRecDepth 100000 in
set_option maxHeartbeats 2000000 in
theorem depth_region (B Bx k : Nat) (P : ByteArray) (N : Nat) (W : World) (Q : Exit → Act → World → Prop) (HP : Hid (∀ c a w, ¬ Q (.panic c) a w)) (HB : B < W.heap.size) (HBx : Bx < W.heap.size) (HNE : Hid (Bx ≠ B))
    (hk0 : W.drew.cell? ⟨B, 0, none⟩ = some (.int .i64 (k : Nat))) (hS : W.drew.cell? ⟨Bx, 0, none⟩ = some (.string P)) (HF : Hid (∀ W', Below W.heap.size W W' → W'.frozen? ⟨B, 0, none⟩ = false))
    (KP : Hid (∀ W, Calls Try.prog 37 #[.string P] W fun e w' => ∃ a cap bs, e = .returned (.slice a (bs : List ByteArray).length cap) ∧ bs.length = N ∧ Below W.heap.size W w'))
    (HQ : Hid (∀ a' W', Below W.heap.size W W' → Q .normal a' (W'.setCell ⟨B, 0, none⟩ (.int .i64 ((max k N : Nat))))))
    (u0 u1 u2 u5 u6 u7 u8 u9 u10 u11 u12 u13 u14 u15 : Value) :
    wpAnyH Try.prog .any #[{ dst := some 9, op := Go.Op.load 3 (Go.Operand.tmp 3), type := 3, pos := "walk.go:70", after := #[], guard := none }, { dst := some 10, op := Go.Op.fieldAddr 44 (Go.Operand.tmp 4) 0, type := 0, pos := "walk.go:70", after := #[], guard := none }, { dst := some 11, op := Go.Op.load 9 (Go.Operand.tmp 10), type := 9, pos := "walk.go:70", after := #[{ on := 1, ground := Go.Ground.data }], guard := none }, { dst := some 12, op := Go.Op.call { callee := Go.Callee.value (Go.Operand.func 37), args := #[Go.Operand.tmp 11], argTypes := #[9] }, type := 46, pos := "walk.go:70", after := #[{ on := 2, ground := Go.Ground.data }], guard := none }, { dst := some 13, op := Go.Op.call { callee := Go.Callee.builtin Go.Builtin.len, args := #[Go.Operand.tmp 12], argTypes := #[46] }, type := 3, pos := "walk.go:70", after := #[{ on := 3, ground := Go.Ground.data }], guard := none }, { dst := some 14, op := Go.Op.call { callee := Go.Callee.builtin Go.Builtin.max, args := #[Go.Operand.tmp 9, Go.Operand.tmp 13], argTypes := #[3, 3] }, type := 3, pos := "walk.go:70", after := #[{ on := 0, ground := Go.Ground.data }, { on := 4, ground := Go.Ground.data }], guard := none }, { dst := none, op := Go.Op.store 3 (Go.Operand.tmp 3) (Go.Operand.tmp 14), type := 0, pos := "walk.go:70", after := #[{ on := 5, ground := Go.Ground.data }, { on := 3, ground := Go.Ground.chain }, { on := 0, ground := Go.Ground.phase }, { on := 1, ground := Go.Ground.phase }, { on := 2, ground := Go.Ground.phase }, { on := 3, ground := Go.Ground.phase }, { on := 4, ground := Go.Ground.phase }, { on := 5, ground := Go.Ground.phase }], guard := none }] Q (fun W' => W'.cell? ⟨Bx, 0, none⟩ = some (.string P)) 7 (Array.replicate 7 false) { tmps := #[u0, u1, u2, .pointer (some ⟨B, 0, none⟩), .pointer (some ⟨Bx, 0, none⟩), u5, u6, u7, u8, u9, u10, u11, u12, u13, u14, u15], defers := [] } W.drew := by
  have HC := hide (show W.cell? ⟨B, 0, none⟩ = some (.int .i64 (k : Nat)) from hk0)
  refine wpAnyH_take (i := 1) (oi := { dst := some 10, op := Go.Op.fieldAddr 44 (Go.Operand.tmp 4) 0, type := 0, pos := "walk.go:70", after := #[], guard := none }) (v := .pointer (some ⟨Bx, 0, none⟩)) rfl (by kernel_rfl) (by kernel_rfl) (by kernel_rfl) (fun _ _ _ h => absurd h (unhide HP _ _ _)) (Or.inl ⟨by rfl, ?_⟩) hS ?_
  · intro W hW; first | (go_simp; done) | (go_simp; with_reducible rfl)
  simp only [Act.put, List.setIfInBounds_toArray, List.set_cons_zero, List.set_cons_succ]
  refine wpAnyH_take (i := 2) (oi := { dst := some 11, op := Go.Op.load 9 (Go.Operand.tmp 10), type := 9, pos := "walk.go:70", after := #[{ on := 1, ground := Go.Ground.data }], guard := none }) (v := .string P) rfl (by kernel_rfl) (by kernel_rfl) (by kernel_rfl) (fun _ _ _ h => absurd h (unhide HP _ _ _)) (Or.inl ⟨by rfl, ?_⟩) hS ?_
  · intro W hW; first | (go_simp; done) | (go_simp; with_reducible rfl)
  simp only [Act.put, List.setIfInBounds_toArray, List.set_cons_zero, List.set_cons_succ]
  refine wpAnyH_ready (rs := [0, 3]) (by kernel_rfl) (by simp) (AllReadyH.cons (o := { dst := some 9, op := Go.Op.load 3 (Go.Operand.tmp 3), type := 3, pos := "walk.go:70", after := #[], guard := none }) rfl (fun K hK => ?_) (AllReadyH.cons (o := { dst := some 12, op := Go.Op.call { callee := Go.Callee.value (Go.Operand.func 37), args := #[Go.Operand.tmp 11], argTypes := #[9] }, type := 46, pos := "walk.go:70", after := #[{ on := 2, ground := Go.Ground.data }], guard := none }) rfl (fun K hK => ?_) AllReadyH.nil))
  · go_simp
    refine hK.out _ _ hS (fun _ => ?_)
    clear hK K
    refine wpAnyH_ready (rs := [3]) (by kernel_rfl) (by simp) (AllReadyH.cons (o := { dst := some 12, op := Go.Op.call { callee := Go.Callee.value (Go.Operand.func 37), args := #[Go.Operand.tmp 11], argTypes := #[9] }, type := 46, pos := "walk.go:70", after := #[{ on := 2, ground := Go.Ground.data }], guard := none }) rfl (fun K hK => ?_) AllReadyH.nil)
    go_simp
    refine (unhide KP _).mono ?_
    rintro e w5 ⟨a5, c5, bs, rfl, hbs, hb5⟩
    have HB5 := hide (show Below W.heap.size W w5 from below_grow (below_drew (Below.refl _ _)) (Nat.le_refl _) hb5)
    have h1 : w5.cell? ⟨B, 0, none⟩ = some (.int .i64 (k : Nat)) := ((unhide HB5).cell (p := ⟨B, 0, none⟩) HB).trans (unhide HC)
    have hS5 : w5.cell? ⟨Bx, 0, none⟩ = some (.string P) := ((unhide HB5).cell (p := ⟨Bx, 0, none⟩) HBx).trans hS
    have hf : w5.frozen? ⟨B, 0, none⟩ = false := unhide HF _ (unhide HB5)
    subst hbs
    clear hb5 KP hk0
    go_wp2_with fail
    refine hK.out _ _ hS5 (fun _ => ?_)
    clear hK K
    refine wpAnyH_take (i := 4) (oi := { dst := some 13, op := Go.Op.call { callee := Go.Callee.builtin Go.Builtin.len, args := #[Go.Operand.tmp 12], argTypes := #[46] }, type := 3, pos := "walk.go:70", after := #[{ on := 3, ground := Go.Ground.data }], guard := none }) (v := .int .i64 (bs.length : Nat)) rfl (by kernel_rfl) (by kernel_rfl) (by kernel_rfl) (fun _ _ _ h => absurd h (unhide HP _ _ _)) (Or.inl ⟨by rfl, ?_⟩) hS5 ?_
    · intro W hW; first | (go_simp; done) | (go_simp; with_reducible rfl)
    simp only [Act.put, List.setIfInBounds_toArray, List.set_cons_zero, List.set_cons_succ]
    refine wpAnyH_take (i := 5) (oi := { dst := some 14, op := Go.Op.call { callee := Go.Callee.builtin Go.Builtin.max, args := #[Go.Operand.tmp 9, Go.Operand.tmp 13], argTypes := #[3, 3] }, type := 3, pos := "walk.go:70", after := #[{ on := 0, ground := Go.Ground.data }, { on := 4, ground := Go.Ground.data }], guard := none }) (v := .int .i64 ((max k bs.length : Nat))) rfl (by kernel_rfl) (by kernel_rfl) (by kernel_rfl) (fun _ _ _ h => absurd h (unhide HP _ _ _)) (Or.inl ⟨by rfl, ?_⟩) hS5 ?_
    · intro W hW; first | (go_simp; done) | (go_simp; with_reducible rfl) | (go_simp; omega)
    simp only [Act.put, List.setIfInBounds_toArray, List.set_cons_zero, List.set_cons_succ]
    refine wpAnyH_ready (rs := [6]) (by kernel_rfl) (by simp) (AllReadyH.cons (o := { dst := none, op := Go.Op.store 3 (Go.Operand.tmp 3) (Go.Operand.tmp 14), type := 0, pos := "walk.go:70", after := #[{ on := 5, ground := Go.Ground.data }, { on := 3, ground := Go.Ground.chain }, { on := 0, ground := Go.Ground.phase }, { on := 1, ground := Go.Ground.phase }, { on := 2, ground := Go.Ground.phase }, { on := 3, ground := Go.Ground.phase }, { on := 4, ground := Go.Ground.phase }, { on := 5, ground := Go.Ground.phase }], guard := none }) rfl (fun K hK => ?_) AllReadyH.nil)
    go_simp
    refine hK.out _ _ ((World.cell?_of_block ((only_set w5 B 0 _).block Bx (unhide HNE))).trans hS5) (fun _ => ?_)
    clear hK K
    refine wpAnyH_done (by kernel_rfl) ?_ _
    exact unhide HQ _ _ (unhide HB5)
  · go_simp
    refine (unhide KP _).mono ?_
    rintro e w5 ⟨a5, c5, bs, rfl, hbs, hb5⟩
    have HB5 := hide (show Below W.heap.size W w5 from below_grow (below_drew (Below.refl _ _)) (Nat.le_refl _) hb5)
    have h1 : w5.cell? ⟨B, 0, none⟩ = some (.int .i64 (k : Nat)) := ((unhide HB5).cell (p := ⟨B, 0, none⟩) HB).trans (unhide HC)
    have hS5 : w5.cell? ⟨Bx, 0, none⟩ = some (.string P) := ((unhide HB5).cell (p := ⟨Bx, 0, none⟩) HBx).trans hS
    have hf : w5.frozen? ⟨B, 0, none⟩ = false := unhide HF _ (unhide HB5)
    subst hbs
    clear hb5 KP hk0
    go_wp2_with fail
    refine hK.out _ _ hS5 (fun _ => ?_)
    clear hK K
    refine wpAnyH_take (i := 4) (oi := { dst := some 13, op := Go.Op.call { callee := Go.Callee.builtin Go.Builtin.len, args := #[Go.Operand.tmp 12], argTypes := #[46] }, type := 3, pos := "walk.go:70", after := #[{ on := 3, ground := Go.Ground.data }], guard := none }) (v := .int .i64 (bs.length : Nat)) rfl (by kernel_rfl) (by kernel_rfl) (by kernel_rfl) (fun _ _ _ h => absurd h (unhide HP _ _ _)) (Or.inl ⟨by rfl, ?_⟩) hS5 ?_
    · intro W hW; first | (go_simp; done) | (go_simp; with_reducible rfl)
    simp only [Act.put, List.setIfInBounds_toArray, List.set_cons_zero, List.set_cons_succ]
    refine wpAnyH_ready (rs := [0]) (by kernel_rfl) (by simp) (AllReadyH.cons (o := { dst := some 9, op := Go.Op.load 3 (Go.Operand.tmp 3), type := 3, pos := "walk.go:70", after := #[], guard := none }) rfl (fun K hK => ?_) AllReadyH.nil)
    go_simp
    refine hK.out _ _ hS5 (fun _ => ?_)
    clear hK K
    refine wpAnyH_take (i := 5) (oi := { dst := some 14, op := Go.Op.call { callee := Go.Callee.builtin Go.Builtin.max, args := #[Go.Operand.tmp 9, Go.Operand.tmp 13], argTypes := #[3, 3] }, type := 3, pos := "walk.go:70", after := #[{ on := 0, ground := Go.Ground.data }, { on := 4, ground := Go.Ground.data }], guard := none }) (v := .int .i64 ((max k bs.length : Nat))) rfl (by kernel_rfl) (by kernel_rfl) (by kernel_rfl) (fun _ _ _ h => absurd h (unhide HP _ _ _)) (Or.inl ⟨by rfl, ?_⟩) hS5 ?_
    · intro W hW; first | (go_simp; done) | (go_simp; with_reducible rfl) | (go_simp; omega)
    simp only [Act.put, List.setIfInBounds_toArray, List.set_cons_zero, List.set_cons_succ]
    refine wpAnyH_ready (rs := [6]) (by kernel_rfl) (by simp) (AllReadyH.cons (o := { dst := none, op := Go.Op.store 3 (Go.Operand.tmp 3) (Go.Operand.tmp 14), type := 0, pos := "walk.go:70", after := #[{ on := 5, ground := Go.Ground.data }, { on := 3, ground := Go.Ground.chain }, { on := 0, ground := Go.Ground.phase }, { on := 1, ground := Go.Ground.phase }, { on := 2, ground := Go.Ground.phase }, { on := 3, ground := Go.Ground.phase }, { on := 4, ground := Go.Ground.phase }, { on := 5, ground := Go.Ground.phase }], guard := none }) rfl (fun K hK => ?_) AllReadyH.nil)
    go_simp
    refine hK.out _ _ ((World.cell?_of_block ((only_set w5 B 0 _).block Bx (unhide HNE))).trans hS5) (fun _ => ?_)
    clear hK K
    refine wpAnyH_done (by kernel_rfl) ?_ _
    exact unhide HQ _ _ (unhide HB5)

theorem depth_more (l : List En) (x : En) : depthT (l ++ [x]) = max (depthT l) (partsE x.1).length := by
  unfold depthT
  rw [List.foldl_append]
  rfl
theorem all_root {T : List En} (h : Tr T) : (T.filter fun x => underE x.1 ⟨#[]⟩) = T := List.filter_eq_self.2 fun x hx => under_root (h.path x hx)
theorem parts_call (P : ByteArray) (hP : P.size ≤ 100000) (W : World) : Calls Try.prog 37 #[.string P] W fun e w' => ∃ a cap bs, e = .returned (.slice a (bs : List ByteArray).length cap) ∧ bs.length = (partsE P).length ∧ Below W.heap.size W w' := by
  refine (Pth.parts_any P hP W).mono ?_
  rintro e w' ⟨a, cap, bs, rfl, h1, _, _, _, h2⟩
  exact ⟨a, cap, bs, rfl, by rw [← Pth.size_lists, h1]; rfl, h2⟩

set_option maxRecDepth 100000 in
set_option maxHeartbeats 2000000 in
theorem walkDepth_in (p0 : Option Addr) (T : List En) (hT : Tr T) (U w0 : World) (hU : TrAt U p0 T) (hUw : Below U.heap.size U w0) :
    CallsIn Fence.wide 3 Try.prog 22 #[.pointer p0] w0 (fun e w' => e = .returned (.int .i64 (depthT T : Nat)) ∧ Below w0.heap.size w0 w') := by
  refine callsIn_of_wp_marks Try.func22 rfl trivial ?_ rfl
  simp only [Try.ntmps22, List.size_toArray, List.length_cons, List.length_nil, Nat.reduceAdd, Nat.reduceSub, Array.replicate_succ, Array.replicate_zero, List.push_toArray, List.append_toArray, List.nil_append, List.cons_append]
  have hbx := VRow.new w0 3 [.int .i64 0]
  have hb0 := below_alloc' (w := w0) (.cells #[.int .i64 0] 3)
  have hsz : (w0.alloc (.cells #[.int .i64 0] 3)).heap.size = w0.heap.size + 1 := by simp
  obtain ⟨w1, hw1⟩ : ∃ w1, w0.alloc (.cells #[.int .i64 0] 3) = w1 := ⟨_, rfl⟩
  rw [show w0.alloc (.cells [Value.int .i64 0].toArray 3) = w1 from hw1] at hbx
  rw [hw1] at hb0 hsz
  have HKT := hide fun W => those_any 31 ⟨#[]⟩ ⟨#[]⟩ p0 W
  have k0 := hbx.cell 0 _ rfl
  have f0 := hbx.frozen 0
  have ho2 := only_set w1 w0.heap.size 0 (.int .i64 0)
  have hr2 := hbx.set 0 (.int .i64 0)
  have hb1 := below_set hb0 (Nat.le_refl _) 0 (.int .i64 0)
  have HSZ : Hid ((w1.setCell ⟨w0.heap.size, 0, none⟩ (.int .i64 0)).heap.size = w0.heap.size + 1) := hide (by rw [ho2.size, hsz])
  clear ho2 hsz
  gi_wp2_with fail
  refine ⟨trivial, (callsIn_wide.2 (unhide HKT _)).mono ?_⟩
  generalize w1.setCell ⟨w0.heap.size, 0, none⟩ (.int .i64 0) = w2 at hr2 hb1 HSZ ⊢
  rintro e w ⟨rfl, hw⟩
  have hwT : boxesT w2 p0 ⟨#[]⟩ ⟨#[]⟩ 31 = w := hw.symm
  obtain ⟨hb2, hsz2, c1, c2, c3, c3'⟩ := boxesT_at w2 p0 ⟨#[]⟩ ⟨#[]⟩ 31
  rw [hwT] at hb2 hsz2 c1 c2 c3 c3'
  rw [unhide HSZ] at c1 c2 c3 c3' hsz2 ⊢
  have hb03 := below_grow hb1 (Nat.le_refl _) hb2
  have hr3 : VRow w w0.heap.size 3 [.int .i64 0] := hr2.after hb2
  have hUw3 := below_grow hUw (Nat.le_refl _) hb03
  clear hw hwT HKT hw1 k0 f0 hbx hr2
  have HW3 : Hid (w.heap.size = w0.heap.size + 4) := hide (by omega)
  have hUs := hUw.size
  clear hsz2 hb0 HSZ
  gi_wp2_with fail
  refine range_told rfl (by decide) (gf := 52) (lb := #[.pointer (some ⟨w0.heap.size + 1, 0, none⟩), .pointer (some ⟨w0.heap.size + 1 + 1 + 1, 0, none⟩), .pointer (some ⟨w0.heap.size + 1 + 1, 0, none⟩)]) rfl trivial (enters_of Try.func52 (by kernel_rfl) rfl)
    (those_tells 2 31 ⟨#[]⟩ ⟨#[]⟩ _ (asked_below ⟨#[]⟩ ⟨#[]⟩) (fun k => k = w0.heap.size) (OA U (w0.heap.size + 4)) p0 T hT U w hU hUw3 (fun g hg => by rw [unhide HW3] at hg; exact hg) (fun k hk => by rw [unhide HW3]; omega) _ _ _ c1 c2 c3 c3' (by omega) (by omega)) (fun _ => rfl)
    (fun V pre W => BoxI 3 (fun l => .int .i64 (depthT (l.map (·.1)) : Nat)) w.heap.size w0.heap.size w V pre W) (fun _ _ _ => False)
    (fun V => BoxI.tame _ _ _ _ _ V) (fun _ _ _ _ _ hs _ _ => hs)
    (fun V hV => ⟨hr3.after hV, ⟨Nat.le_refl _, KX.refl _ _ _⟩, hV⟩)
    (fun x a' W => ∃ Bx, w0.heap.size < Bx ∧ VRow W Bx 44 [.string x.1.1, .slice x.2.1 x.1.2.length x.2.2] ∧ a' = { tmps := #[.pointer p0, undef, .int .i64 0, .pointer (some ⟨w0.heap.size, 0, none⟩), .pointer (some ⟨Bx, 0, none⟩), .pointer p0, .agg #[.string ⟨#[]⟩, .string ⟨#[]⟩], .func (.func 52) #[] #[.pointer (some ⟨w0.heap.size + 1, 0, none⟩), .pointer (some ⟨w0.heap.size + 1 + 1 + 1, 0, none⟩), .pointer (some ⟨w0.heap.size + 1 + 1, 0, none⟩)], .agg #[.string x.1.1, .slice x.2.1 x.1.2.length x.2.2], undef, undef, undef, undef, undef, undef, undef], defers := [] })
    (fun x a' _ X Y row hs hg hr => by obtain ⟨Bx, h0, h1, h2⟩ := hs; exact ⟨Bx, h0, VRow.own Bx 44 _ () X Y row h1 hg (fun r e => (hr r e).2), h2⟩)
    ?assign ?body ?done ?stop
  case assign =>
    rintro l V pre x W K hrow hG hK
    simp only [encE]
    have hlt := hrow.box.lt
    gi_wp2
    have hWV := hrow.kx.1
    refine hK _ _ ((KeepsOthers.alloc _ _).from _) (KX.below hWV (below_alloc' _)) ((BoxI.tame _ _ _ _ _ V).below hrow (below_alloc' _)) ⟨W.heap.size, hlt, VRow.new W 44 [.string x.1.1, .slice x.2.1 x.1.2.length x.2.2], rfl⟩
  case body =>
    rintro l V pre ⟨⟨P, L⟩, r, cc⟩ a' W hrow hG ⟨Bx, hlx, hX, rfl⟩ hlt
    dsimp only at hX ⊢
    have hPs : P.size ≤ 100000 := by have := path_size (hT.path _ hG.1); dsimp only at this; omega
    refine wpIn_block ?_
    refine region_round (S := fun W' => W'.cell? ⟨Bx, 0, none⟩ = some (.string P)) (by kernel_rfl) (by kernel_rfl) ?_ (show W.drew.cell? _ = _ from hX.cell 0 _ rfl) (fun hS => ?_)
    · intro h
      obtain ⟨a, w, h⟩ := h
      exact h
    refine depth_region w0.heap.size Bx (depthT (pre.map (·.1))) P (partsE P).length W _ (hide (fun c a w h => h)) hrow.box.lt hX.lt (hide (by omega)) (hrow.box.cell 0 _ rfl) hS
      (hide (fun W' hb => (hrow.box.after hb).frozen 0)) (hide (fun W' => parts_call P hPs W')) (hide (fun a' W' hb => ?_)) _ _ _ _ _ _ _ _ _ _ _ _ _ _
    exact hrow.turn hb (pre' := pre ++ [((P, L), r, cc)]) (by rw [List.map_append, List.map_singleton, depth_more])
  case done =>
    rintro D V xs W hD hxs hrow hK
    have hc := hrow.box.cell 0 _ rfl
    have HL := hide (hxs.trans (all_root hT))
    clear hxs
    gi_wp2
    refine ⟨by simp, .inl ⟨_, _, rfl, run_takeDeferred hK, ?_⟩⟩
    refine ⟨_, results_tmp rfl _ _ _, ?_, hrow.done hb03 (by have := unhide HW3; omega) (Nat.le_refl _) _ hK rfl hD⟩
    rw [← unhide HL]
    rfl
  case stop =>
    rintro D c pre W _ _ h _
    exact h.elim
end Go.Proofs.Ytpfighkafmammaa

/-
  The library's function that makes a row of texts free of what stands twice, at this program: the library's own contract, applied to this program's numbers (no walk of its text). Conditions: those that each theorem names.
-/

namespace Go.Proofs
open Go.Shelf
def Try.lays194_ren : Go.Shelf.Ren := ⟨fun | 194 => 38 | n => n, fun | 31 => 46 | 9 => 9 | 3 => 3 | 4 => 4 | 0 => 0 | n => n, fun | n => n⟩
theorem Try.lays194 : Go.Proofs.Lays.n194 Try.prog Try.lays194_ren := {
  mixed := by kernel_rfl
  f194 := Try.func38.trans (congrArg some (by kernel_rfl))
  t0 := Try.underlying0
  a0 := Try.isAgg0
  z0 := Try.sizeOf0
  v0 := Try.zeroValue0
  t3 := Try.underlying3
  a3 := Try.isAgg3
  z3 := Try.sizeOf3
  v3 := Try.zeroValue3
  t4 := Try.underlying4
  a4 := Try.isAgg4
  z4 := Try.sizeOf4
  v4 := Try.zeroValue4
  t9 := Try.underlying9
  a9 := Try.isAgg9
  z9 := Try.sizeOf9
  v9 := Try.zeroValue9
  t31 := Try.underlying46
  a31 := Try.isAgg46
  z31 := Try.sizeOf46
  v31 := Try.zeroValue46 }
open Go.RowKit Go.Lib Go.Sort in
theorem Try.slices_Compact_string (blk off cap : Nat) (zs : List (List UInt8)) (w : World) (hH : Holds encStr w blk off zs.toArray) (hsz : zs.length ≤ 9223372036854775807) (hcap : zs.length ≤ cap) :
    Calls Try.prog 38 #[.slice (some ⟨blk, off, none⟩) zs.length cap] w fun e w' => e = .returned (.slice (some ⟨blk, off, none⟩) (Lib.compact zs).length cap) ∧ ∃ q, w' = putRow encStr (Sort.ahead w q) blk off (Lib.compact zs ++ List.replicate (zs.length - (Lib.compact zs).length) []).toArray := Any.slices_Compact_string Try.lays194 blk off cap zs w hH hsz hcap
open Go.RowKit Go.Lib Go.Sort in
theorem Try.slices_Compact_string_empty (a : Option Addr) (cap : Nat) (w : World) :
    Calls Try.prog 38 #[.slice a 0 cap] w fun e w' => e = .returned (.slice a 0 cap) ∧ w' = w := Any.slices_Compact_string_empty Try.lays194 a cap w
end Go.Proofs

/-
  A row of texts of the call's own made free of what stands twice: what slices.Compact answers. Conditions: those that each theorem names.
-/

namespace Go.Proofs.Ytpfighkafmammaa
open Go.RowKit Go.Shelf Go.Sort

theorem putRow_only {w : World} (q g : Nat) (d : Array (List UInt8)) : Only g w (putRow encStr (Sort.ahead w q) g 0 d) :=
  ⟨rfl, rfl, rfl, by simp [putRow, mapBlock, Sort.ahead], fun k hk => by simp [putRow, mapBlock, Sort.ahead, Array.getElem?_modify, Ne.symm hk]⟩
set_option maxRecDepth 100000 in
theorem compact_any (w : World) (base : Nat) (v : Value) (bs cs : List ByteArray) (hcs : Lib.compact (Pth.lists bs) = Pth.lists cs) (h : OT w base v bs) (hl : bs.length ≤ 100000) :
    Calls Try.prog 38 #[v] w fun e w' => ∃ a cap, e = .returned (.slice a cs.length cap) ∧ cs.length ≤ cap ∧ Pth.Sl w' a cs ∧ (∀ g o, a = some ⟨g, o, none⟩ → base ≤ g) ∧ Below base w w' ∧ ∀ (k : Nat) (o : Obj), w.heap[k]? = some o → o.isCells = false → w'.heap[k]? = some o := by
  have hlen : (Lib.compact (Pth.lists bs)).length = cs.length := by rw [hcs, Pth.size_lists]
  rcases h.2 with ⟨rfl, h0⟩ | ⟨g, cap, cur, rfl, hg, hh, c1, c2, c3, c4⟩
  · have hbs : bs = [] := List.eq_nil_of_length_eq_zero h0
    subst hbs
    have hc0 : cs = [] := List.eq_nil_of_length_eq_zero (by rw [← hlen]; rfl)
    subst hc0
    refine (Try.slices_Compact_string_empty none 0 w).mono ?_
    rintro e w' ⟨rfl, rfl⟩
    exact ⟨none, 0, rfl, Nat.le_refl _, Pth.Sl.none _ _, fun _ _ e => (by cases e), Below.refl _ _, fun _ _ h _ => h⟩
  · have hcells : ∀ j, j < bs.length → w.cell? ⟨g, 0 + j, none⟩ = some (.string (bs.getD j ByteArray.empty)) := fun j hj => by
      rw [cell_of_row w g _ cur 9 (0, 0) hh]
      have h5 : (cur.toList.take (bs.length * 1))[j]? = (bs.map Value.string)[j]? := by rw [c4]
      rw [List.getElem?_take_of_lt (by omega), List.getElem?_map, List.getElem?_eq_getElem hj] at h5
      rw [Nat.zero_add]
      simpa [List.getD, hj] using h5
    have hH : Holds encStr w g 0 (Pth.lists bs).toArray := fun j hj => by
      have hj' : j < bs.length := by simpa [Pth.lists] using hj
      refine ⟨?_, frozen_of_row w g _ cur 9 hh⟩
      rw [hcells j hj']
      simp [Pth.lists, hj', encStr]
    have hz := Pth.size_lists bs
    have K := Try.slices_Compact_string g 0 cap (Pth.lists bs) w hH (by omega) (by omega)
    rw [hz, hlen] at K
    refine K.mono ?_
    rintro e w' ⟨rfl, q, rfl⟩
    have hle : cs.length ≤ bs.length := by
      have := Lib.compact_length_le (Pth.lists bs)
      omega
    have hsz : (Lib.compact (Pth.lists bs) ++ List.replicate (bs.length - cs.length) []).toArray.size = (Pth.lists bs).toArray.size := by
      simp only [List.size_toArray, List.length_append, List.length_replicate]
      omega
    have ho := putRow_only (w := w) q g (Lib.compact (Pth.lists bs) ++ List.replicate (bs.length - cs.length) []).toArray
    have hP := holds_putRow encStr (Sort.ahead w q) g 0 (Pth.lists bs).toArray _ (holds_ahead encStr w q g 0 _ hH) hsz
    refine ⟨some ⟨g, 0, none⟩, cap, rfl, by omega, fun _ => ⟨g, 0, rfl, by rw [ho.size]; exact (Array.getElem?_eq_some_iff.1 hh).1, fun j b hj => ?_⟩, fun g' o' e => (by injection e with e; injection e with e; omega), ho.below hg, fun k o hk hc => (ho.block k (fun e => by subst e; rw [hh] at hk; injection hk with hk; subst hk; cases hc)).trans hk⟩
    have hjl : j < cs.length := (List.getElem?_eq_some_iff.1 hj).1
    have hjc : j < (Lib.compact (Pth.lists bs)).length := by omega
    rw [(hP j (by simp only [List.size_toArray, List.length_append]; omega)).1]
    have e1 : (Lib.compact (Pth.lists bs) ++ List.replicate (bs.length - cs.length) [])[j]? = some b.data.toList := by
      rw [List.getElem?_append_left hjc, hcs, Pth.lists, List.getElem?_map, hj]
      rfl
    have e2 : (Lib.compact (Pth.lists bs) ++ List.replicate (bs.length - cs.length) []).toArray[j]! = b.data.toList := by
      rw [Array.getElem!_eq_getD, Array.getD_eq_getD_getElem?, List.getElem?_toArray, e1]
      rfl
    rw [e2]
end Go.Proofs.Ytpfighkafmammaa

/-
  The two regions of Dirs that draw their order, in its round. Conditions: those that each theorem names.
-/

namespace Go.Proofs.Ytpfighkafmammaa
open Go.RowKit Go.Shelf

attribute [local go_sem] Oper.semAt_some

theorem slT_drop {W : World} {g o : Nat} {bs : List ByteArray} (h : Pth.Sl W (some ⟨g, o, none⟩) bs) (k : Nat) : Pth.Sl W (some ⟨g, o + k, none⟩) (bs.drop k) := fun h0 => by
  rw [List.length_drop] at h0
  obtain ⟨g', o', e, hg, hc⟩ := h (by omega)
  injection e with e
  injection e with e1 e2
  subst e1
  subst e2
  refine ⟨g, o + k, rfl, hg, fun j b hj => ?_⟩
  rw [List.getElem?_drop] at hj
  rw [Nat.add_assoc]
  exact hc (k + j) b hj
theorem slice_fromT (a : Option Addr) (ds : List ByteArray) (cap k : Nat) (hk : k ≤ ds.length) (hc : ds.length ≤ cap) :
    ∃ A c, (∀ W, (Instr.sliceAt 46 (.slice a ds.length cap) (some (.int .i64 (k : Int))) none none).run Try.prog W = .ok (.slice A (ds.drop k).length c) W) ∧ (∀ W, Pth.Sl W a ds → Pth.Sl W A (ds.drop k)) ∧ (ds.drop k).length ≤ c ∧ (∀ ad, A = some ad → ∃ ad', a = some ad' ∧ ad'.block = ad.block) := by
  have e : (ds.drop k).length = ds.length - k := List.length_drop
  rw [e]
  by_cases hc0 : cap = k
  · refine ⟨a, cap - k, fun W => by go_simp, fun W h h0 => ?_, by omega, fun ad e => ⟨ad, e, rfl⟩⟩
    rw [e] at h0
    omega
  · cases a with
    | none =>
      refine ⟨none, cap - k, fun W => by go_simp, fun W h h0 => ?_, by omega, fun ad e => (by cases e)⟩
      rw [e] at h0
      obtain ⟨g, o, e, _⟩ := h (by omega)
      cases e
    | some ad =>
      refine ⟨some (ad.add (k * 1)), cap - k, fun W => by go_simp, fun W h h0 => ?_, by omega, fun ad' e => ⟨ad, rfl, by injection e with e; rw [← e]; unfold Addr.add; split <;> rfl⟩⟩
      rw [e] at h0
      obtain ⟨g, o, e2, _⟩ := h (by omega)
      injection e2 with e2
      subst e2
      rw [addr_add, Nat.mul_one]
      exact slT_drop h k (by rw [e]; exact h0)
theorem stepR_txt {w : World} {ops : Array Oper} {o : Oper} {a : Act} {K : Act → World → Prop} {Q : Exit → Act → World → Prop} {E : Prop} (hgd : o.guard = none) (s x : Operand)
    (ho : o.op = .call { callee := .builtin .append, args := #[s, x], argTypes := #[46, 46] }) (base : Nat) (v : Value) (bs : List ByteArray) (hs : a.eval s = v) (hown : OT w base v bs)
    (g c : Nat) (b : ByteArray) (hx : a.eval x = .slice (some ⟨g, 0, none⟩) 1 c) (hb : w.cell? ⟨g, 0, none⟩ = some (.string b)) (hn : bs.length ≤ 150000) (hbase : base ≤ w.heap.size)
    (h : ∀ g' cap w', w'.ownsRow base 9 1 (.slice (some ⟨g', 0, none⟩) (bs.length + 1) cap) (bs.length + 1) (bs.map Value.string ++ [.string b]) → w.grownBy w' v.ownBlock → K (a.put o.dst (.slice (some ⟨g', 0, none⟩) (bs.length + 1) cap)) w') :
    if Region.wanted o (yielded ops a.tmps) = true then Oper.wp Try.prog o a w K Q else E := by
  obtain ⟨i0, hi, hz0, hz1, hz2⟩ := info_parts Pth.info9
  refine step_append_lies w hgd s x 46 ho base 9 i0 _ 1 16 Try.underlying46 hi hz0 hz1 hz2 rfl (by decide) v bs.length (bs.map Value.string) hs hown ⟨g, 0, none⟩ 1 c [.string b] hx rfl ?_ (by simp [Value.oneCell']) (by decide) (by unfold maxLen; omega) (by omega) hbase w.heap.size rfl ?_
  · intro j u hu
    rw [addr_add]
    match j, hu with
    | 0, hu => simp at hu; subst hu; exact hb
    | j + 1, hu => simp at hu
  · intro g' cap w' g1 g2 _ _
    exact h g' cap w' g1 g2

set_option maxRecDepth 100000 in
set_option maxHeartbeats 2000000 in
theorem dirs5_region (Bx B6 k : Nat) (P : ByteArray) (W : World) (Q : Exit → Act → World → Prop) (HP : Hid (∀ c a w, ¬ Q (.panic c) a w)) (HBx : Bx < W.heap.size) (HB6 : B6 < W.heap.size)
    (hS : W.drew.cell? ⟨Bx, 0, none⟩ = some (.string P) ∧ W.drew.cell? ⟨B6, 0, none⟩ = some (.int .i64 (k : Nat))) (HK : Hid (k ≤ (Pth.Pt.parts P.data.toList).length))
    (KP : Hid (∀ W, Calls Try.prog 37 #[.string P] W fun e w' => ∃ a cap bs, e = .returned (.slice a bs.length cap) ∧ Pth.lists bs = Pth.Pt.parts P.data.toList ∧ bs.length ≤ cap ∧ Pth.Sl w' a bs ∧ (∀ ad, a = some ad → W.heap.size ≤ ad.block) ∧ Below W.heap.size W w'))
    (u0 u1 u2 u3 u4 u5 u8 u9 u10 u11 u12 u13 u14 u15 u16 u17 u18 u19 u20 u21 u22 u23 u24 u25 u26 u27 u28 u29 u30 u31 u32 : Value)
    (HQ : Hid (∀ W' A c a5 c5 (bs : List ByteArray), Below W.heap.size W W' → Pth.lists bs = Pth.Pt.parts P.data.toList → Pth.Sl W' A (bs.drop k) → (bs.drop k).length ≤ c → (∀ ad, A = some ad → W.heap.size ≤ ad.block) → Q .normal { tmps := #[u0, u1, u2, u3, u4, u5, .pointer (some ⟨B6, 0, none⟩), .pointer (some ⟨Bx, 0, none⟩), .slice A (bs.drop k).length c, u9, u10, u11, u12, u13, u14, u15, u16, .pointer (some ⟨Bx, 0, none⟩), .string P, .slice a5 bs.length c5, .int .i64 (k : Nat), .slice A (bs.drop k).length c, u22, u23, u24, u25, u26, u27, u28, u29, u30, u31, u32], defers := [] } W')) :
    wpAnyH Try.prog .any #[{ dst := some 17, op := Go.Op.fieldAddr 44 (Go.Operand.tmp 7) 0, type := 0, pos := "walk.go:58", after := #[], guard := none }, { dst := some 18, op := Go.Op.load 9 (Go.Operand.tmp 17), type := 9, pos := "walk.go:58", after := #[{ on := 0, ground := Go.Ground.data }], guard := none }, { dst := some 19, op := Go.Op.call { callee := Go.Callee.value (Go.Operand.func 37), args := #[Go.Operand.tmp 18], argTypes := #[9] }, type := 46, pos := "walk.go:58", after := #[{ on := 1, ground := Go.Ground.data }], guard := none }, { dst := some 20, op := Go.Op.load 3 (Go.Operand.tmp 6), type := 3, pos := "walk.go:58", after := #[], guard := none }, { dst := some 21, op := Go.Op.slice 46 (Go.Operand.tmp 19) (some (Go.Operand.tmp 20)) none none, type := 46, pos := "walk.go:58", after := #[{ on := 2, ground := Go.Ground.data }, { on := 3, ground := Go.Ground.data }], guard := none }, { dst := some 8, op := Go.Op.assign (Go.Operand.tmp 21), type := 46, pos := "walk.go:58", after := #[{ on := 4, ground := Go.Ground.data }, { on := 2, ground := Go.Ground.chain }, { on := 0, ground := Go.Ground.phase }, { on := 1, ground := Go.Ground.phase }, { on := 2, ground := Go.Ground.phase }, { on := 3, ground := Go.Ground.phase }, { on := 4, ground := Go.Ground.phase }], guard := none }] Q (fun W' => W'.cell? ⟨Bx, 0, none⟩ = some (.string P) ∧ W'.cell? ⟨B6, 0, none⟩ = some (.int .i64 (k : Nat))) 6 (Array.replicate 6 false) { tmps := #[u0, u1, u2, u3, u4, u5, .pointer (some ⟨B6, 0, none⟩), .pointer (some ⟨Bx, 0, none⟩), u8, u9, u10, u11, u12, u13, u14, u15, u16, u17, u18, u19, u20, u21, u22, u23, u24, u25, u26, u27, u28, u29, u30, u31, u32], defers := [] } W.drew := by
  refine wpAnyH_take (i := 0) (oi := { dst := some 17, op := Go.Op.fieldAddr 44 (Go.Operand.tmp 7) 0, type := 0, pos := "walk.go:58", after := #[], guard := none }) (v := .pointer (some ⟨Bx, 0, none⟩)) rfl (by kernel_rfl) (by kernel_rfl) (by kernel_rfl) (fun _ _ _ h => absurd h (unhide HP _ _ _)) (Or.inl ⟨by rfl, ?_⟩) hS ?_
  · intro W hW; first | (go_simp; done) | (go_simp; with_reducible rfl)
  simp only [Act.put, List.setIfInBounds_toArray, List.set_cons_zero, List.set_cons_succ]
  refine wpAnyH_take (i := 1) (oi := { dst := some 18, op := Go.Op.load 9 (Go.Operand.tmp 17), type := 9, pos := "walk.go:58", after := #[{ on := 0, ground := Go.Ground.data }], guard := none }) (v := .string P) rfl (by kernel_rfl) (by kernel_rfl) (by kernel_rfl) (fun _ _ _ h => absurd h (unhide HP _ _ _)) (Or.inl ⟨by rfl, ?_⟩) hS ?_
  · intro W hW; obtain ⟨z1, z2⟩ := hW; first | (go_simp; done) | (go_simp; with_reducible rfl)
  simp only [Act.put, List.setIfInBounds_toArray, List.set_cons_zero, List.set_cons_succ]
  refine wpAnyH_take (i := 3) (oi := { dst := some 20, op := Go.Op.load 3 (Go.Operand.tmp 6), type := 3, pos := "walk.go:58", after := #[], guard := none }) (v := .int .i64 (k : Nat)) rfl (by kernel_rfl) (by kernel_rfl) (by kernel_rfl) (fun _ _ _ h => absurd h (unhide HP _ _ _)) (Or.inl ⟨by rfl, ?_⟩) hS ?_
  · intro W hW; obtain ⟨z1, z2⟩ := hW; first | (go_simp; done) | (go_simp; with_reducible rfl)
  simp only [Act.put, List.setIfInBounds_toArray, List.set_cons_zero, List.set_cons_succ]
  refine wpAnyH_ready (rs := [2]) (by kernel_rfl) (by simp) (AllReadyH.cons (o := { dst := some 19, op := Go.Op.call { callee := Go.Callee.value (Go.Operand.func 37), args := #[Go.Operand.tmp 18], argTypes := #[9] }, type := 46, pos := "walk.go:58", after := #[{ on := 1, ground := Go.Ground.data }], guard := none }) rfl (fun K hK => ?_) AllReadyH.nil)
  go_simp
  refine (unhide KP _).mono ?_
  rintro e w5 ⟨a5, c5, bs, rfl, hbs, hcap, hsl, hnw, hb5⟩
  have HB5 := hide (show Below W.heap.size W w5 from below_grow (below_drew (Below.refl _ _)) (Nat.le_refl _) hb5)
  have hS5 : w5.cell? ⟨Bx, 0, none⟩ = some (.string P) ∧ w5.cell? ⟨B6, 0, none⟩ = some (.int .i64 (k : Nat)) := ⟨((unhide HB5).cell (p := ⟨Bx, 0, none⟩) HBx).trans hS.1, ((unhide HB5).cell (p := ⟨B6, 0, none⟩) HB6).trans hS.2⟩
  obtain ⟨A, c, hrun, hA, hAc, hAn⟩ := slice_fromT a5 bs c5 k (by rw [← Pth.size_lists, hbs]; exact unhide HK) hcap
  have HQ5 := hide (unhide HQ w5 A c a5 c5 bs (unhide HB5) hbs (hA w5 hsl) hAc (fun ad e => by obtain ⟨ad2, e2, e3⟩ := hAn ad e; rw [← e3]; exact hnw ad2 e2))
  have HRUN := hide hrun
  clear hb5 KP hS hsl hA hbs hcap hrun hnw hAn
  go_wp2_with fail
  refine hK.out _ _ hS5 (fun _ => ?_)
  clear hK K
  refine wpAnyH_take (i := 4) (oi := { dst := some 21, op := Go.Op.slice 46 (Go.Operand.tmp 19) (some (Go.Operand.tmp 20)) none none, type := 46, pos := "walk.go:58", after := #[{ on := 2, ground := Go.Ground.data }, { on := 3, ground := Go.Ground.data }], guard := none }) (v := .slice A (bs.drop k).length c) rfl (by kernel_rfl) (by kernel_rfl) (by kernel_rfl) (fun _ _ _ h => absurd h (unhide HP _ _ _)) (Or.inl ⟨by rfl, ?_⟩) hS5 ?_
  · intro W hW; (have h4 := unhide HRUN W; simp [execOp, Act.eval, Result.andThen]; rw [h4]; simp)
  simp only [Act.put, List.setIfInBounds_toArray, List.set_cons_zero, List.set_cons_succ]
  refine wpAnyH_take (i := 5) (oi := { dst := some 8, op := Go.Op.assign (Go.Operand.tmp 21), type := 46, pos := "walk.go:58", after := #[{ on := 4, ground := Go.Ground.data }, { on := 2, ground := Go.Ground.chain }, { on := 0, ground := Go.Ground.phase }, { on := 1, ground := Go.Ground.phase }, { on := 2, ground := Go.Ground.phase }, { on := 3, ground := Go.Ground.phase }, { on := 4, ground := Go.Ground.phase }], guard := none }) (v := .slice A (bs.drop k).length c) rfl (by kernel_rfl) (by kernel_rfl) (by kernel_rfl) (fun _ _ _ h => absurd h (unhide HP _ _ _)) (Or.inl ⟨by rfl, ?_⟩) hS5 ?_
  · intro W hW; first | (go_simp; done) | (go_simp; with_reducible rfl)
  simp only [Act.put, List.setIfInBounds_toArray, List.set_cons_zero, List.set_cons_succ]
  refine wpAnyH_done (by kernel_rfl) ?_ _
  exact unhide HQ5

set_option maxRecDepth 100000 in
set_option maxHeartbeats 2000000 in
theorem dirs7_region (V W : World) (B g o n c : Nat) (v : Value) (bs : List ByteArray) (N : ByteArray) (Q : Exit → Act → World → Prop) (HP : Hid (∀ c a w, ¬ Q (.panic c) a w)) (hn : 1 < n) (hbs : bs.length ≤ 100000)
    (hb0 : Boxed W B 46 v) (hown0 : OT W V.heap.size v bs) (hWV : V.heap.size ≤ W.heap.size) (hgl : g < W.heap.size) (hgv : some g ≠ v.ownBlock) (HNE : Hid (g ≠ B))
    (hS : W.drew.cell? ⟨g, o, none⟩ = some (.string N))
    (HQ : Hid (∀ a' W' v', Boxed W' B 46 v' → W'.ownsRow V.heap.size 9 1 v' (bs.length + 1) (bs.map Value.string ++ [.string N]) → KeepsOthers W.drew W' → (∀ X : Nat → Prop, X B → KX X V W.drew W') → Q .normal a' W'))
    (u0 u1 u2 u3 u4 u6 u7 u9 u10 u11 u12 u13 u14 u15 u16 u17 u18 u19 u20 u21 u22 u23 u24 u25 u26 u27 u28 u29 u30 u31 u32 : Value) :
    wpAnyH Try.prog .any #[{ dst := some 25, op := Go.Op.load 46 (Go.Operand.tmp 5), type := 46, pos := "walk.go:60", after := #[], guard := none }, { dst := some 26, op := Go.Op.move (Go.Operand.tmp 8), type := 46, pos := "walk.go:60", after := #[], guard := none }, { dst := some 27, op := Go.Op.indexAddr 46 (Go.Operand.tmp 26) (Go.Operand.const (Go.Value.int Go.IntKind.i64 0)), type := 0, pos := "walk.go:60", after := #[{ on := 1, ground := Go.Ground.data }], guard := none }, { dst := some 28, op := Go.Op.load 9 (Go.Operand.tmp 27), type := 9, pos := "walk.go:60", after := #[{ on := 2, ground := Go.Ground.data }], guard := none }, { dst := some 29, op := Go.Op.buildSlice 46 1 #[(0, Go.Operand.tmp 28)], type := 46, pos := "walk.go:60", after := #[{ on := 3, ground := Go.Ground.data }], guard := none }, { dst := some 30, op := Go.Op.call { callee := Go.Callee.builtin Go.Builtin.append, args := #[Go.Operand.tmp 25, Go.Operand.tmp 29], argTypes := #[46, 46] }, type := 46, pos := "walk.go:60", after := #[{ on := 0, ground := Go.Ground.data }, { on := 4, ground := Go.Ground.data }], guard := none }, { dst := none, op := Go.Op.store 46 (Go.Operand.tmp 5) (Go.Operand.tmp 30), type := 0, pos := "walk.go:60", after := #[{ on := 5, ground := Go.Ground.data }, { on := 5, ground := Go.Ground.chain }, { on := 0, ground := Go.Ground.phase }, { on := 1, ground := Go.Ground.phase }, { on := 2, ground := Go.Ground.phase }, { on := 3, ground := Go.Ground.phase }, { on := 4, ground := Go.Ground.phase }, { on := 5, ground := Go.Ground.phase }], guard := none }] Q (fun W' => W'.cell? ⟨g, o, none⟩ = some (.string N)) 7 (Array.replicate 7 false) { tmps := #[u0, u1, u2, u3, u4, .pointer (some ⟨B, 0, none⟩), u6, u7, .slice (some ⟨g, o, none⟩) n c, u9, u10, u11, u12, u13, u14, u15, u16, u17, u18, u19, u20, u21, u22, u23, u24, u25, u26, u27, u28, u29, u30, u31, u32], defers := [] } W.drew := by
  have hbox : Boxed W.drew B 46 v := hb0
  have hown : OT W.drew V.heap.size v bs := hown0
  have hS2 : (W.drew.alloc (.cells #[.string N] 9)).cell? ⟨g, o, none⟩ = some (.string N) := ((below_alloc' (w := W.drew) (.cells #[.string N] 9)).cell (p := ⟨g, o, none⟩) hgl).trans hS
  have kb := hbox.cell
  have kb2 := (hbox.alloc (.cells #[.string N] 9)).cell
  have kb3 : (W.alloc (.cells #[.string N] 9)).cell? ⟨B, 0, none⟩ = some v := kb2
  refine wpAnyH_take (i := 1) (oi := { dst := some 26, op := Go.Op.move (Go.Operand.tmp 8), type := 46, pos := "walk.go:60", after := #[], guard := none }) (v := .slice (some ⟨g, o, none⟩) n c) rfl (by kernel_rfl) (by kernel_rfl) (by kernel_rfl) (fun _ _ _ h => absurd h (unhide HP _ _ _)) (Or.inl ⟨by rfl, ?_⟩) hS ?_
  · intro W hW; first | (go_simp; done) | (go_simp; with_reducible rfl)
  simp only [Act.put, List.setIfInBounds_toArray, List.set_cons_zero, List.set_cons_succ]
  refine wpAnyH_take (i := 2) (oi := { dst := some 27, op := Go.Op.indexAddr 46 (Go.Operand.tmp 26) (Go.Operand.const (Go.Value.int Go.IntKind.i64 0)), type := 0, pos := "walk.go:60", after := #[{ on := 1, ground := Go.Ground.data }], guard := none }) (v := .pointer (some ⟨g, o, none⟩)) rfl (by kernel_rfl) (by kernel_rfl) (by kernel_rfl) (fun _ _ _ h => absurd h (unhide HP _ _ _)) (Or.inl ⟨by rfl, ?_⟩) hS ?_
  · intro W hW; first | (go_simp; done) | (go_simp; with_reducible rfl) | (go_simp; intro h; omega)
  simp only [Act.put, List.setIfInBounds_toArray, List.set_cons_zero, List.set_cons_succ]
  refine wpAnyH_take (i := 3) (oi := { dst := some 28, op := Go.Op.load 9 (Go.Operand.tmp 27), type := 9, pos := "walk.go:60", after := #[{ on := 2, ground := Go.Ground.data }], guard := none }) (v := .string N) rfl (by kernel_rfl) (by kernel_rfl) (by kernel_rfl) (fun _ _ _ h => absurd h (unhide HP _ _ _)) (Or.inl ⟨by rfl, ?_⟩) hS ?_
  · intro W hW; first | (go_simp; done) | (go_simp; with_reducible rfl)
  simp only [Act.put, List.setIfInBounds_toArray, List.set_cons_zero, List.set_cons_succ]
  refine wpAnyH_ready (rs := [0, 4]) (by kernel_rfl) (by simp) (AllReadyH.cons (o := { dst := some 25, op := Go.Op.load 46 (Go.Operand.tmp 5), type := 46, pos := "walk.go:60", after := #[], guard := none }) rfl (fun K hK => ?_) (AllReadyH.cons (o := { dst := some 29, op := Go.Op.buildSlice 46 1 #[(0, Go.Operand.tmp 28)], type := 46, pos := "walk.go:60", after := #[{ on := 3, ground := Go.Ground.data }], guard := none }) rfl (fun K hK => ?_) AllReadyH.nil))
  · go_simp
    refine hK.out _ _ hS (fun _ => ?_)
    clear hK K
    refine wpAnyH_ready (rs := [4]) (by kernel_rfl) (by simp) (AllReadyH.cons (o := { dst := some 29, op := Go.Op.buildSlice 46 1 #[(0, Go.Operand.tmp 28)], type := 46, pos := "walk.go:60", after := #[{ on := 3, ground := Go.Ground.data }], guard := none }) rfl (fun K hK => ?_) AllReadyH.nil)
    go_simp
    refine hK.out _ _ hS2 (fun _ => ?_)
    clear hK K
    refine wpAnyH_ready (rs := [5]) (by kernel_rfl) (by simp) (AllReadyH.cons (o := { dst := some 30, op := Go.Op.call { callee := Go.Callee.builtin Go.Builtin.append, args := #[Go.Operand.tmp 25, Go.Operand.tmp 29], argTypes := #[46, 46] }, type := 46, pos := "walk.go:60", after := #[{ on := 0, ground := Go.Ground.data }, { on := 4, ground := Go.Ground.data }], guard := none }) rfl (fun K hK => ?_) AllReadyH.nil)
    refine stepR_txt rfl _ _ (by rfl) V.heap.size v bs (by rfl) (hown.alloc _) W.heap.size 1 N (by rfl) (Boxed.new _ 9 (.string N)).cell (by omega) (by simp; omega) ?_
    intro g9 c9 w9 hok9 hg9
    obtain ⟨hv1, hv2, hr2, hk2, hx2⟩ := box_appended hbox (by decide) hown hWV hok9 hg9
    have hc1 := hv1.cell; have hf1 := hv1.frozen
    have hS9 : w9.cell? ⟨g, o, none⟩ = some (.string N) := (World.grownBy.cell_far hg9 ⟨g, o, none⟩ (by simp; omega) hgv).trans hS2
    have HQ9 := hide (fun a' => unhide HQ a' _ _ hv2 hr2 hk2 hx2)
    refine hK.out _ _ hS9 (fun _ => ?_)
    clear hK K hv1 hv2 hr2 hk2 hx2
    simp only [Act.put, List.setIfInBounds_toArray, List.set_cons_zero, List.set_cons_succ]
    refine wpAnyH_ready (rs := [6]) (by kernel_rfl) (by simp) (AllReadyH.cons (o := { dst := none, op := Go.Op.store 46 (Go.Operand.tmp 5) (Go.Operand.tmp 30), type := 0, pos := "walk.go:60", after := #[{ on := 5, ground := Go.Ground.data }, { on := 5, ground := Go.Ground.chain }, { on := 0, ground := Go.Ground.phase }, { on := 1, ground := Go.Ground.phase }, { on := 2, ground := Go.Ground.phase }, { on := 3, ground := Go.Ground.phase }, { on := 4, ground := Go.Ground.phase }, { on := 5, ground := Go.Ground.phase }], guard := none }) rfl (fun K hK => ?_) AllReadyH.nil)
    go_simp
    refine hK.out _ _ ((World.cell?_of_block ((only_set w9 B 0 _).block g (unhide HNE))).trans hS9) (fun _ => ?_)
    clear hK K
    refine wpAnyH_done (by kernel_rfl) ?_ _
    exact unhide HQ9 _
  · go_simp
    refine hK.out _ _ hS2 (fun _ => ?_)
    clear hK K
    refine wpAnyH_ready (rs := [0]) (by kernel_rfl) (by simp) (AllReadyH.cons (o := { dst := some 25, op := Go.Op.load 46 (Go.Operand.tmp 5), type := 46, pos := "walk.go:60", after := #[], guard := none }) rfl (fun K hK => ?_) AllReadyH.nil)
    go_simp
    refine hK.out _ _ hS2 (fun _ => ?_)
    clear hK K
    refine wpAnyH_ready (rs := [5]) (by kernel_rfl) (by simp) (AllReadyH.cons (o := { dst := some 30, op := Go.Op.call { callee := Go.Callee.builtin Go.Builtin.append, args := #[Go.Operand.tmp 25, Go.Operand.tmp 29], argTypes := #[46, 46] }, type := 46, pos := "walk.go:60", after := #[{ on := 0, ground := Go.Ground.data }, { on := 4, ground := Go.Ground.data }], guard := none }) rfl (fun K hK => ?_) AllReadyH.nil)
    refine stepR_txt rfl _ _ (by rfl) V.heap.size v bs (by rfl) (hown.alloc _) W.heap.size 1 N (by rfl) (Boxed.new _ 9 (.string N)).cell (by omega) (by simp; omega) ?_
    intro g9 c9 w9 hok9 hg9
    obtain ⟨hv1, hv2, hr2, hk2, hx2⟩ := box_appended hbox (by decide) hown hWV hok9 hg9
    have hc1 := hv1.cell; have hf1 := hv1.frozen
    have hS9 : w9.cell? ⟨g, o, none⟩ = some (.string N) := (World.grownBy.cell_far hg9 ⟨g, o, none⟩ (by simp; omega) hgv).trans hS2
    have HQ9 := hide (fun a' => unhide HQ a' _ _ hv2 hr2 hk2 hx2)
    refine hK.out _ _ hS9 (fun _ => ?_)
    clear hK K hv1 hv2 hr2 hk2 hx2
    simp only [Act.put, List.setIfInBounds_toArray, List.set_cons_zero, List.set_cons_succ]
    refine wpAnyH_ready (rs := [6]) (by kernel_rfl) (by simp) (AllReadyH.cons (o := { dst := none, op := Go.Op.store 46 (Go.Operand.tmp 5) (Go.Operand.tmp 30), type := 0, pos := "walk.go:60", after := #[{ on := 5, ground := Go.Ground.data }, { on := 5, ground := Go.Ground.chain }, { on := 0, ground := Go.Ground.phase }, { on := 1, ground := Go.Ground.phase }, { on := 2, ground := Go.Ground.phase }, { on := 3, ground := Go.Ground.phase }, { on := 4, ground := Go.Ground.phase }, { on := 5, ground := Go.Ground.phase }], guard := none }) rfl (fun K hK => ?_) AllReadyH.nil)
    go_simp
    refine hK.out _ _ ((World.cell?_of_block ((only_set w9 B 0 _).block g (unhide HNE))).trans hS9) (fun _ => ?_)
    clear hK K
    refine wpAnyH_done (by kernel_rfl) ?_ _
    exact unhide HQ9 _
end Go.Proofs.Ytpfighkafmammaa
