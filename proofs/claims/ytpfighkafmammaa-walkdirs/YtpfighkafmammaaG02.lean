/-
  The directories right below one: what Dirs answers. Conditions: those that each theorem names.
-/
import Derived.Test.YtpfighkafmammaaG01
import Derived.Test.YtpfighkafmammaaF02
namespace Go.Proofs.Ytpfighkafmammaa
open Go.RowKit Go.Shelf

attribute [local go_sem] Oper.semAt_some

/-- The names of what is deeper than right below d, of what has come. -/
def rawP (d : ByteArray) (pre : List EP) : List ByteArray := ((pre.map (·.1)).filter (deepP d)).map fun x => nm x.1 d
theorem rawP_deep (d : ByteArray) (pre : List EP) (x : EP) (h : deepP d x.1 = true) : rawP d (pre ++ [x]) = rawP d pre ++ [nm x.1.1 d] := by
  unfold rawP
  rw [List.map_append, List.filter_append, List.map_append, List.map_singleton, List.filter_cons_of_pos h]
  rfl
theorem rawP_near (d : ByteArray) (pre : List EP) (x : EP) (h : deepP d x.1 = false) : rawP d (pre ++ [x]) = rawP d pre := by
  unfold rawP
  rw [List.map_append, List.filter_append, List.map_append, List.map_singleton, List.filter_cons_of_neg (by rw [h]; decide)]
  simp
theorem rawP_len (d : ByteArray) (pre : List EP) : (rawP d pre).length ≤ pre.length := by
  unfold rawP
  rw [List.length_map]
  have h := List.length_filter_le (deepP d) (pre.map (·.1))
  rw [List.length_map] at h
  exact h
/-- What the loop keeps: the box, the row of texts in it. -/
structure TxtIn (d : ByteArray) (b B : Nat) (w V : World) (pre : List EP) (W : World) : Prop where
  box : ∃ u, Boxed W B 46 u ∧ W.ownsRow V.heap.size 9 1 u (rawP d pre).length ((rawP d pre).map Value.string) ∧ True
  kx : V.heap.size ≤ W.heap.size ∧ KX (Bk (fun k => k = B) b) V V W
  v : Below b w V
theorem TxtIn.tame (d : ByteArray) (b B : Nat) (w V : World) : Tame b (TxtIn d b B w V) := fun pre W W' row h hg hr =>
  ⟨holdsRow_own V.heap.size B 46 9 1 (fun pre : List EP => (rawP d pre).length) (fun pre => (rawP d pre).map Value.string) (fun _ _ => True) pre W W' row h.box hg fun r e => (hr r e).2,
   tame_kx (fun k => k = B) b V () W W' row h.kx hg hr, h.v⟩

theorem sl_putObj {W : World} {D : Nat} {x : Option (List Deferred)} {a : Option Addr} {bs : List ByteArray} (h : Pth.Sl W a bs) (hD : W.heap[D]? = some (.deferred x)) (o' : Obj) : Pth.Sl (W.putObj D o') a bs := fun h0 => by
  obtain ⟨g, o, e, hg, hc⟩ := h h0
  have hne : g ≠ D := fun e2 => by
    subst e2
    have h2 := hc 0 bs[0] (List.getElem?_eq_getElem h0)
    simp [World.cell?, hD] at h2
  exact ⟨g, o, e, by simpa using hg, fun j b hj => (World.cell?_of_block (World.putObj_heap_other hne)).trans (hc j b hj)⟩

set_option maxRecDepth 100000 in
set_option maxHeartbeats 4000000 in
theorem walkDirs_in (p0 : Option Addr) (T : List En) (hT : Tr T) (d : ByteArray) (hd : d.size ≤ 100000) (U w0 : World) (hU : TrAt U p0 T) (hUw : Below U.heap.size U w0) :
    CallsIn Fence.wide 3 Try.prog 20 #[.pointer p0, .string d] w0 (MadeT w0 (dirsT T d)) := by
  refine callsIn_of_wp_marks Try.func20 rfl trivial ?_ rfl
  simp only [Try.ntmps20, List.size_toArray, List.length_cons, List.length_nil, Nat.reduceAdd, Nat.reduceSub, Array.replicate_succ, Array.replicate_zero, List.push_toArray, List.append_toArray, List.nil_append, List.cons_append]
  have hbx := Boxed.new w0 46 (.slice none 0 0)
  have hb0 := below_alloc' (w := w0) (.cells #[.slice none 0 0] 46)
  have hsz : (w0.alloc (.cells #[.slice none 0 0] 46)).heap.size = w0.heap.size + 1 := by simp
  obtain ⟨w1, hw1⟩ : ∃ w1, w0.alloc (.cells #[.slice none 0 0] 46) = w1 := ⟨_, rfl⟩
  rw [hw1] at hbx hb0 hsz
  have HKP := hide (Pth.parts_any d hd w1)
  have HKT := hide fun W => those_any 31 d ⟨#[]⟩ p0 W
  gi_wp2_with fail
  refine ⟨trivial, (callsIn_wide.2 (unhide HKP)).mono ?_⟩
  rintro e w2 ⟨a, cap, ds, rfl, hds, hcap, _, _, hb1⟩
  have hdl : ds.length = (partsE d).length := by rw [← Pth.size_lists, hds]; rfl
  obtain ⟨k, hk⟩ : ∃ k, (partsE d).length = k := ⟨_, rfl⟩
  have HKK := hide hk
  rw [hdl, hk]
  have hb01 := below_grow hb0 (Nat.le_refl _) hb1
  have hbx2 : Boxed w2 w0.heap.size 46 (.slice none 0 0) := (hb1.block _ hbx.lt).trans hbx
  have hsz2 : w0.heap.size + 1 ≤ w2.heap.size := by have := hb1.size; omega
  have HS2 := hide hsz2
  have h6 := VRow.new w2 3 [.int .i64 0]
  have hb2 := below_alloc' (w := w2) (.cells #[.int .i64 0] 3)
  have hsz3 : (w2.alloc (.cells #[.int .i64 0] 3)).heap.size = w2.heap.size + 1 := by simp
  have hbx3 := hbx2.alloc (.cells #[.int .i64 0] 3)
  obtain ⟨w3, hw3⟩ : ∃ w3, w2.alloc (.cells #[.int .i64 0] 3) = w3 := ⟨_, rfl⟩
  rw [show w2.alloc (.cells [Value.int .i64 0].toArray 3) = w3 from hw3] at h6
  rw [hw3] at hb2 hsz3 hbx3
  have k0 := h6.cell 0 _ rfl
  have f0 := h6.frozen 0
  have ho4 := only_set w3 w2.heap.size 0 (.int .i64 (k : Nat))
  have h6' := h6.set 0 (.int .i64 (k : Nat))
  have hbx4 : Boxed (w3.setCell ⟨w2.heap.size, 0, none⟩ (.int .i64 (k : Nat))) w0.heap.size 46 (.slice none 0 0) := (ho4.block _ (by omega)).trans hbx3
  have hb4 := below_set hb2 (Nat.le_refl _) 0 (.int .i64 (k : Nat))
  have HSZ : Hid ((w3.setCell ⟨w2.heap.size, 0, none⟩ (.int .i64 (k : Nat))).heap.size = w2.heap.size + 1) := hide (by rw [ho4.size, hsz3])
  clear hk hdl hds hcap HKP hw1 hsz hsz2 hsz3 ho4 hbx2 hbx3 hb1 hb2
  gi_wp2_with fail
  refine ⟨trivial, (callsIn_wide.2 (unhide HKT _)).mono ?_⟩
  generalize w3.setCell ⟨w2.heap.size, 0, none⟩ (.int .i64 (k : Nat)) = w4 at h6' hbx4 hb4 HSZ ⊢
  rintro e w ⟨rfl, hw⟩
  have hwT : boxesT w4 p0 d ⟨#[]⟩ 31 = w := hw.symm
  obtain ⟨hb5, hsz5, c1, c2, c3, c3'⟩ := boxesT_at w4 p0 d ⟨#[]⟩ 31
  rw [hwT] at hb5 hsz5 c1 c2 c3 c3'
  rw [unhide HSZ] at c1 c2 c3 c3' hsz5 ⊢
  have hb03 := below_grow (below_grow hb01 (Nat.le_refl _) hb4) (Nat.le_refl _) hb5
  have hr6 : VRow w w2.heap.size 3 [.int .i64 (k : Nat)] := h6'.after hb5
  have hbx5 : Boxed w w0.heap.size 46 (.slice none 0 0) := (hb5.block _ hbx4.lt).trans hbx4
  have hUw3 := below_grow hUw (Nat.le_refl _) hb03
  clear hw hwT HKT hw3 k0 f0 hbx h6 h6' hbx4
  have HW3 : Hid (w.heap.size = w2.heap.size + 4) := hide (by omega)
  have hUs := hUw.size
  clear hsz5 hb0 HSZ hb4
  gi_wp2_with fail
  refine range_told rfl (by decide) (gf := 52) (lb := #[.pointer (some ⟨w2.heap.size + 1, 0, none⟩), .pointer (some ⟨w2.heap.size + 1 + 1 + 1, 0, none⟩), .pointer (some ⟨w2.heap.size + 1 + 1, 0, none⟩)]) rfl trivial (enters_of Try.func52 (by kernel_rfl) rfl)
    (those_tellsQ 2 31 d ⟨#[]⟩ _ (asked_below d ⟨#[]⟩) (fun k => k = w0.heap.size) (fun _ => True) p0 T hT U w hU hUw3 (fun _ _ => trivial) (fun k hk => by have h1 := unhide HW3; have h2 := unhide HS2; omega) _ _ _ c1 c2 c3 c3' (by have h2 := unhide HS2; omega) (by have h2 := unhide HS2; omega)) (fun _ => rfl)
    (fun V pre W => TxtIn d w.heap.size w0.heap.size w V pre W) (fun _ _ _ => False)
    (fun V => TxtIn.tame _ _ _ _ V) (fun _ _ _ _ _ hs _ _ => hs)
    (fun V hV => ⟨⟨_, (hV.block _ hbx5.lt).trans hbx5, World.ownsRow_nil _ _ _ _, trivial⟩, ⟨Nat.le_refl _, KX.refl _ _ _⟩, hV⟩)
    (fun x a' W => ∃ Bx, VRow W Bx 44 [.string x.1.1, .slice x.2.1 x.1.2.length x.2.2] ∧ a' = { tmps := #[.pointer p0, .string d, undef, undef, .slice none 0 0, .pointer (some ⟨w0.heap.size, 0, none⟩), .pointer (some ⟨w2.heap.size, 0, none⟩), .pointer (some ⟨Bx, 0, none⟩), undef, .string d, .slice a k cap, .int .i64 (k : Nat), .pointer p0, .string d, .agg #[.string d, .string ⟨#[]⟩], .func (.func 52) #[] #[.pointer (some ⟨w2.heap.size + 1, 0, none⟩), .pointer (some ⟨w2.heap.size + 1 + 1 + 1, 0, none⟩), .pointer (some ⟨w2.heap.size + 1 + 1, 0, none⟩)], .agg #[.string x.1.1, .slice x.2.1 x.1.2.length x.2.2], undef, undef, undef, undef, undef, undef, undef, undef, undef, undef, undef, undef, undef, undef, undef, undef], defers := [] })
    (fun x a' _ X Y row hs hg hr => by obtain ⟨Bx, h1, h2⟩ := hs; exact ⟨Bx, VRow.own Bx 44 _ () X Y row h1 hg (fun r e => (hr r e).2), h2⟩)
    ?assign ?body ?done ?stop
  case assign =>
    rintro l V pre x W K hrow hG hK
    simp only [encE]
    gi_wp2
    have hWV := hrow.kx.1
    refine hK _ _ ((KeepsOthers.alloc _ _).from _) (KX.below hWV (below_alloc' _)) ((TxtIn.tame _ _ _ _ V).below hrow (below_alloc' _)) ⟨W.heap.size, VRow.new W 44 [.string x.1.1, .slice x.2.1 x.1.2.length x.2.2], rfl⟩
  case body =>
    rintro l V pre ⟨⟨P, L⟩, r, cc⟩ a' W hrow ⟨hG, hq⟩ ⟨Bx, hX, rfl⟩ hlt
    dsimp only at hX hq ⊢
    have hPs : P.size ≤ 100000 := by have := path_size (hT.path _ hG.1); dsimp only at this; omega
    have hun := under_names_len (x := (P, L)) hq
    dsimp only at hun
    rw [unhide HKK] at hun
    have HUN := hide hun
    have hW6 : W.drew.cell? ⟨w2.heap.size, 0, none⟩ = some (.int .i64 (k : Nat)) := by
      have h1 := unhide HW3
      have h2 := unhide HS2
      have h3 := hrow.v.size
      exact (hrow.kx.2.cell (k := w2.heap.size) (i := 0) (by omega) (fun h => by rcases h with h | h | h <;> omega)).trans ((hrow.v.cell (p := ⟨w2.heap.size, 0, none⟩) (show w2.heap.size < w.heap.size by omega)).trans (hr6.cell 0 _ rfl))
    have HQ := hide hq
    clear hun hq
    refine wpIn_block ?_
    refine wpIn_seq ?_
    refine region_round (S := fun W' => W'.cell? ⟨Bx, 0, none⟩ = some (.string P) ∧ W'.cell? ⟨w2.heap.size, 0, none⟩ = some (.int .i64 (k : Nat))) (by kernel_rfl) (by kernel_rfl) ?_ ⟨show W.drew.cell? _ = _ from hX.cell 0 _ rfl, hW6⟩ (fun hS => ?_)
    · intro h
      obtain ⟨a, w, h⟩ := h
      exact h
    refine dirs5_region Bx w2.heap.size k P W _ (hide (fun c a w h => h)) hX.lt (block_lt_of_cell hW6) hS (hide (by show k ≤ (partsE P).length; have := unhide HUN; omega)) (hide (fun W' => Pth.parts_any P hPs W')) _ _ _ _ _ _ _ _ _ _ _ _ _ _ _ _ _ _ _ _ _ _ _ _ _ _ _ _ _ _ _ (hide (fun W' A c a5 c5 bs hb hbs hsl hc hnw => ?_))
    show Code.wpIn _ _ _ _ _ _ _
    dsimp only
    have hbl : bs.length = (partsE P).length := by rw [← Pth.size_lists, hbs]; rfl
    obtain ⟨u, hv, hro, _⟩ := hrow.box
    have hv' : Boxed W' w0.heap.size 46 u := (hb.block _ hv.lt).trans hv
    have hro' : OT W' V.heap.size u (rawP d pre) := OT.after (W := W) hro hb
    have hWV := hrow.kx.1
    have hWV' : V.heap.size ≤ W'.heap.size := Nat.le_trans hWV hb.size
    have hkx0 : KX (Bk (fun k => k = w0.heap.size) w.heap.size) V W W' := KX.below hWV hb
    have hkf0 := keepsFrom_of_below w.heap.size hb
    have hrw := (TxtIn.tame _ _ _ _ V).below hrow hb
    have hbd0 : (bs.drop k).length = (partsE P).length - k := by rw [List.length_drop, hbl]
    have hnm : (bs.drop k)[0]? = some (nm P d) := by
      rw [List.getElem?_drop, Nat.add_zero]
      have h := nm_at (unhide HQ) hbs (cs := (Pth.Pt.parts d.data.toList).map Pth.ofList) (Pth.lists_ofList _)
      rw [List.length_map, show (Pth.Pt.parts d.data.toList).length = k from unhide HKK] at h
      exact h
    by_cases hdp : k + 1 < (partsE P).length
    · have hdeep : deepP d (P, L) = true := by unfold deepP; rw [unhide HKK]; exact decide_eq_true hdp
      obtain ⟨g, o, rfl, hg, hcs⟩ := hsl (by omega)
      have hcN := hcs 0 _ hnm
      have hgW := hnw _ rfl
      dsimp only at hgW
      have hgv : some g ≠ u.ownBlock := fun e => by
        rcases hro.2 with ⟨rfl, _⟩ | ⟨g', cap', cur, rfl, _, hh, _⟩
        · cases e
        · have e2 : g = g' := by simpa [Value.ownBlock] using e
          have h1 : g' < W.heap.size := (Array.getElem?_eq_some_iff.1 hh).1
          omega
      have hgB : g ≠ w0.heap.size := by have h1 := hv.lt; omega
      obtain ⟨n, hn⟩ : ∃ n, (bs.drop k).length = n := ⟨_, rfl⟩
      have hn1 : 1 < n := by omega
      rw [hn]
      have hbd : decide ((1 : Int) < ((n : Nat) : Int)) = true := decide_eq_true (by omega)
      rw [Nat.add_zero] at hcN
      have HDL := hide hdeep
      have HCN := hide hcN
      have HRL : Hid ((rawP d pre).length ≤ 100000) := hide (by have := rawP_len d pre; omega)
      clear hn hnm hbl hbd0 hdp hcs hsl hc hnw hrw hcN
      gi_wp2_with fail
      refine region_round (S := fun W' => W'.cell? ⟨g, o, none⟩ = some (.string (nm P d))) (by kernel_rfl) (by kernel_rfl) ?_ (show W'.drew.cell? _ = _ from unhide HCN) (fun hS => ?_)
      · intro h
        obtain ⟨a, w, h⟩ := h
        exact h
      refine dirs7_region V W' w0.heap.size g o n c u (rawP d pre) (nm P d) _ (hide (fun c a w h => h)) hn1 (unhide HRL) hv' hro' hWV' hg hgv (hide hgB) hS (hide (fun a' W9 v9 h1 h2 h3 h4 => ?_)) _ _ _ _ _ _ _ _ _ _ _ _ _ _ _ _ _ _ _ _ _ _ _ _ _ _ _ _ _ _ _
      have h4' := h4 (Bk (fun k => k = w0.heap.size) w.heap.size) (.inl rfl)
      have hkx1 : KX (Bk (fun k => k = w0.heap.size) w.heap.size) V W W9 := (hkx0.trans (KX.below hWV' (below_drew (Below.refl _ _)))).trans h4'
      refine ⟨⟨Nat.le_trans hb.size h3.size, fun k o hk e1 e2 => h3.same k o ((hkf0.same k o hk e1 e2)) e2⟩, hkx1, ⟨⟨v9, h1, ?_, trivial⟩, ⟨Nat.le_trans hWV hkx1.size, hrow.kx.2.trans hkx1⟩, hrow.v⟩⟩
      rw [rawP_deep d pre _ (unhide HDL), List.length_append, List.map_append]
      exact h2
    · have hnear : deepP d (P, L) = false := by unfold deepP; rw [unhide HKK]; exact decide_eq_false hdp
      obtain ⟨n, hn⟩ : ∃ n, (bs.drop k).length = n := ⟨_, rfl⟩
      rw [hn]
      have hbd : decide ((1 : Int) < ((n : Nat) : Int)) = false := decide_eq_false (by omega)
      have HDL := hide hnear
      clear hn hnm hbl hbd0 hdp hsl hc hnw hnear
      gi_wp2_with fail
      refine ⟨hkf0, hkx0, ⟨?_, hrw.kx, hrw.v⟩⟩
      rw [rawP_near d pre _ (unhide HDL)]
      exact hrw.box
  case done =>
    rintro D V xs W hD hxs hrow hK
    obtain ⟨u, hv, hro, _⟩ := hrow.box
    have hc := hv.cell
    have HXS : Hid (rawP d xs = rawT T d) := hide (by unfold rawP rawT; rw [hxs, below_eq hT])
    have hlen : xs.length ≤ 128 := by
      have h1 := congrArg List.length hxs
      rw [List.length_map] at h1
      have h2 := List.length_filter_le (fun x : En => underE x.1 d) T
      have h3 := hT.few
      omega
    have HCP := hide (compact_any W V.heap.size u (rawP d xs) (dirsT T d) (by rw [unhide HXS]; exact dirs_raw T d) hro (by have := rawP_len d xs; omega))
    have HK := hide hK
    have HBW : Hid (Below w0.heap.size w0 W) := hide (by
      have h1 := unhide HW3
      have h2 := unhide HS2
      have hVb : w0.heap.size ≤ V.heap.size := Nat.le_trans hb03.size hrow.v.size
      exact (hb03.trans (hrow.v.mono (by omega))).trans (hrow.kx.2.toBelow (n := w0.heap.size) hVb (fun k hk => by rcases hk with hk | hk | hk <;> omega)))
    have HVs : Hid (w0.heap.size ≤ V.heap.size) := hide (Nat.le_trans hb03.size hrow.v.size)
    have HWD : Hid (w0.heap.size ≤ D) := hide (by have h1 := unhide HW3; have h2 := unhide HS2; omega)
    clear hxs hlen hro hK hD
    gi_wp2_with fail
    refine ⟨trivial, (callsIn_wide.2 (unhide HCP)).mono ?_⟩
    rintro e W7 ⟨a7, c7, rfl, hc7, hs7, hn7, hb7, hk7⟩
    have HK7 := hide (hk7 D _ (unhide HK) rfl)
    have HB7 := hide ((unhide HBW).trans (hb7.mono (unhide HVs)))
    have HS7 := hide hs7
    have HN7 := hide hn7
    clear hk7 hb7 hs7 hn7 HCP
    gi_wp2
    refine ⟨by simp, .inl ⟨_, _, rfl, run_takeDeferred (unhide HK7), ?_⟩⟩
    refine ⟨_, results_tmp rfl _ _ _, a7, c7, rfl, hc7, sl_putObj (unhide HS7) (unhide HK7) _, fun g o e => Nat.le_trans (unhide HVs) (unhide HN7 g o e), ?_⟩
    exact (unhide HB7).trans ⟨rfl, rfl, rfl, by simp, fun k hk => World.putObj_heap_other (by have := unhide HWD; omega)⟩
  case stop =>
    rintro D c pre W _ _ h _
    exact h.elim
end Go.Proofs.Ytpfighkafmammaa

/-
  All that the program's tree and walk answer. Conditions: those that each theorem names.
-/

namespace Go.Proofs.Ytpfighkafmammaa
open Go.RowKit

theorem short16 {s : ByteArray} (h : s.size ≤ 200) : s.size ≤ maxLen := Nat.le_trans h (by unfold maxLen; omega)
theorem prgW : PrgW TrAt where
  after := fun h hb => h.after hb
  of := fun a cap l hl W h => (treeOf_any a cap l hl W h).mono fun e w' h => by
    obtain ⟨q, h1, h2, _, h3⟩ := h
    exact ⟨q, h1, h2, h3⟩
  under := fun q T d hT _ W h => (walkUnder_any q T hT d W W h (Below.refl _ _)).mono fun _ _ h => h.made
  list := fun q T d s m hT _ hs W h => (callsIn_wide.1 (walkList_in q T hT d s (short16 hs) m W W h (Below.refl _ _))).mono fun _ _ h => h.made
  count := fun q T d hT _ W h => callsIn_wide.1 (walkCount_in q T hT d W W h (Below.refl _ _))
  next := fun q T s hT hs W h => callsIn_wide.1 (walkNext_in q T hT s (short16 hs) W W h (Below.refl _ _))
  dirs := fun q T d hT hd W h => callsIn_wide.1 (walkDirs_in q T hT d (Nat.le_trans hd (by omega)) W W h (Below.refl _ _))
  depth := fun q T hT W h => callsIn_wide.1 (walkDepth_in q T hT W W h (Below.refl _ _))
theorem listN : ListN TrAt := fun q T d s m hT _ hs W0 W h hb => (callsIn_wide.1 (walkList_in q T hT d s (short16 hs) m W0 W h hb)).mono fun _ _ h => h.madeN
end Go.Proofs.Ytpfighkafmammaa
