/-
  What the library's sort and CompactFunc answer on no row at all; what clear leaves; a row of the call's own, as the sort wants it, and what is left of it.
-/
import Derived.Test.YtbghekolfcakeaaS11
import Derived.Test.YtbghekolfcakeaaS13
import Derived.Test.YtbghekolfcakeaaS14
namespace Go.Proofs.Ytbghekolfcakeaa
open Go.Shelf Go.RowKit Go.Lib Go.Sort

set_option maxRecDepth 100000 in
set_option maxHeartbeats 400000 in
theorem insertion_nil (fv : Value) (w : World) : Calls Try.prog 78 #[.slice none 0 0, .int .i64 0, .int .i64 0, fv] w fun e w' => e = .returned (.tuple #[]) ∧ w' = w := by
  go_enter Try.func78, Try.ntmps78
  go_wp2_with fail
  go_loopw [8] (fun i wr => i = .int .i64 1 ∧ wr = w) (fun _ _ => 0)
  case atStart => exact ⟨rfl, rfl⟩
  case round =>
    obtain ⟨rfl, rfl⟩ := hrel
    go_wp2_with fail
    go_end0
    exact ⟨rfl, rfl⟩

set_option maxRecDepth 100000 in
set_option maxHeartbeats 400000 in
theorem stable_nil (fv : Value) (w : World) : Calls Try.prog 73 #[.slice none 0 0, .int .i64 0, fv] w fun e w' => e = .returned (.tuple #[]) ∧ w' = w := by
  go_enter Try.func73, Try.ntmps73
  go_wp2_with fail
  go_loopw [7, 8] (fun a b wr => a = .int .i64 0 ∧ b = .int .i64 20 ∧ wr = w) (fun _ _ _ => 0)
  case atStart => exact ⟨rfl, rfl, rfl⟩
  case round =>
    obtain ⟨rfl, rfl, rfl⟩ := hrel
    go_wp2_with fail
    refine (insertion_nil fv _).mono ?_
    rintro e w1 ⟨rfl, rfl⟩
    go_wp2_with fail
    go_loopw [6] (fun a wr => a = .int .i64 20 ∧ wr = w1) (fun _ _ => 0)
    case atStart => exact ⟨rfl, rfl⟩
    case round =>
      obtain ⟨rfl, rfl⟩ := hrel
      go_wp2_with fail
      go_end0
      exact ⟨rfl, rfl⟩

set_option maxRecDepth 100000 in
set_option maxHeartbeats 400000 in
theorem sort_nil (fv : Value) (w : World) : Calls Try.prog 55 #[.slice none 0 0, fv] w fun e w' => e = .returned (.tuple #[]) ∧ w' = w := by
  go_enter Try.func55, Try.ntmps55
  go_wp2_with fail
  refine (stable_nil fv _).mono ?_
  rintro e w1 ⟨rfl, rfl⟩
  go_wp2_with fail
  go_end0
  exact ⟨rfl, rfl⟩

set_option maxRecDepth 100000 in
set_option maxHeartbeats 400000 in
theorem compact_nil (fv : Value) (w : World) : Calls Try.prog 59 #[.slice none 0 0, fv] w fun e w' => e = .returned (.slice none 0 0) ∧ w' = w := by
  go_enter Try.func59, Try.ntmps59
  go_wp2_with fail
  go_ret
  exact ⟨rfl, rfl⟩

theorem zeros_one (n : Nat) : ∀ v ∈ (Builtin.zeroCells (Value.cells (.agg #[.int .i64 0, .int .i64 0, .slice none 0 0, .bool false, .string ⟨#[]⟩])) n).toList, v.oneCell' = true := by
  intro v hv
  simp only [Builtin.zeroCells, Array.toList_map, List.mem_map] at hv
  obtain ⟨i, _, rfl⟩ := hv
  rw [show (Value.cells (.agg #[.int .i64 0, .int .i64 0, .slice none 0 0, .bool false, .string ⟨#[]⟩])) = #[.int .i64 0, .int .i64 0, .slice none 0 0, .bool false, .string ⟨#[]⟩] from rfl]
  show (#[Value.int .i64 0, .int .i64 0, .slice none 0 0, .bool false, .string ⟨#[]⟩][i % 5]!).oneCell' = true
  have h5 : i % 5 < 5 := Nat.mod_lt _ (by omega)
  generalize i % 5 = j at h5
  rcases (show j = 0 ∨ j = 1 ∨ j = 2 ∨ j = 3 ∨ j = 4 by omega) with rfl | rfl | rfl | rfl | rfl <;> rfl
theorem clear_run (w0 : World) (g : Nat) (d0 : Array TP) (R : RW0 w0 g d0) (sz cap : Nat) (h0 : d0.size = sz) (kw : Nat) (dj : Array TP) (W : World) (hk : kw < sz) (hs : dj.size = sz) (S : SW w0 g dj W) :
    ∃ zs, ∀ ty, (Builtin.clear_ #[22] ty #[.slice (some ⟨g, kw * 5, none⟩) (sz - kw) (cap - kw)]).run Try.prog W = .ok (.tuple #[]) (W.setCells g (kw * 5) zs) := by
  obtain ⟨i0, hi, hz0, hz1, hz2⟩ := info_parts info27
  obtain ⟨n, hn⟩ : ∃ n, sz - kw = n + 1 := ⟨sz - kw - 1, by omega⟩
  have hh := S.holds R.hblk R.hH (hs.trans h0.symm)
  have hlen : (Builtin.zeroCells (Value.cells (.agg #[.int .i64 0, .int .i64 0, .slice none 0 0, .bool false, .string ⟨#[]⟩])) (n + 1)).toList.length = (n + 1) * 5 := by rw [Array.length_toList, zeroCells_size]; rfl
  have hcell : ∀ j, j < (n + 1) * 5 → W.cell? ⟨g, kw * 5 + 0 + j, none⟩ = some (flatK encT 5 dj)[kw * 5 + j]! ∧ W.frozen? ⟨g, kw * 5 + 0 + j, none⟩ = false := fun j hj => by
    have := hh (kw * 5 + j) (by rw [size_flatK]; omega)
    rw [Nat.zero_add] at this
    exact this
  have hst := run_storeCells_cells (P := Try.prog) g (kw * 5) (Builtin.zeroCells (Value.cells (.agg #[.int .i64 0, .int .i64 0, .slice none 0 0, .bool false, .string ⟨#[]⟩])) (n + 1)).toList 0 W
    (fun j hj => by rw [(hcell j (by omega)).1]; rfl) (fun j hj => (hcell j (by omega)).2) (zeros_one (n + 1))
  rw [Nat.add_zero] at hst
  refine ⟨(Builtin.zeroCells (Value.cells (.agg #[.int .i64 0, .int .i64 0, .slice none 0 0, .bool false, .string ⟨#[]⟩])) (n + 1)).toList, fun ty => ?_⟩
  rw [hn]
  simp [Builtin.clear_, run_underlying Try.underlying22, zeroValue, typeInfo, hi, hz0, hst]

/-- Versions with their places. -/
def tagged (ps : List VP) : Array TP := (ps.zipIdx.map fun x => (x.2, x.1)).toArray
theorem tagged_size (ps : List VP) : (tagged ps).size = ps.length := by simp [tagged]
theorem tagged_at (ps : List VP) (p : Nat) (x : VP) (h : ps[p]? = some x) : (tagged ps)[p]! = (p, x) := by
  have hp := (List.getElem?_eq_some_iff.1 h).1
  rw [getElem!_pos (tagged ps) p (by rw [tagged_size]; exact hp)]
  simp [tagged, (List.getElem?_eq_some_iff.1 h).2]
theorem row_of {W : World} {g : Nat} {cur : Array Value} {ps : List VP} (hh : W.heap[g]? = some (.cells cur 27 (0, 0))) (ht : cur.toList.take (ps.length * 5) = flatV ps) : RW0 W g (tagged ps) := by
  refine ⟨encT_len, encT_one, fun j hj => ?_, (Array.getElem?_eq_some_iff.1 hh).1⟩
  rw [size_flatK, tagged_size] at hj
  rw [get_flatK _ _ _ _ (by rw [tagged_size]; exact hj), Nat.zero_add]
  refine ⟨?_, frozen_of_row W g j cur 27 hh⟩
  have hq : j / 5 < ps.length := by omega
  obtain ⟨x, hx⟩ : ∃ x, ps[j / 5]? = some x := ⟨_, List.getElem?_eq_getElem hq⟩
  rw [tagged_at ps (j / 5) x hx, cell_of_row W g j cur 27 (0, 0) hh]
  have h5 : j % 5 < 5 := Nat.mod_lt _ (by omega)
  have hu : (verL x.1 x.2.1 x.2.2)[j % 5]? = some (encT (j / 5, x))[j % 5]! := by
    rw [getElem!_pos (encT (j / 5, x)) (j % 5) (by rw [encT_len]; exact h5)]
    exact List.getElem?_eq_getElem _
  have h6 := flatV_get ps (j / 5) x hx (j % 5) _ hu
  rw [show j / 5 * 5 + j % 5 = j by omega, ← ht, List.getElem?_take_of_lt (by omega)] at h6
  simpa using h6

theorem sw_block {w0 : World} {g : Nat} {dj : Array TP} {W : World} (h : SW w0 g dj W) : w0.heap.size ≤ W.heap.size ∧ W.os = w0.os ∧ W.tape = w0.tape ∧ W.output = w0.output ∧ ∀ k, k < w0.heap.size → k ≠ g → W.heap[k]? = w0.heap[k]? := by
  refine ⟨h.le, ?_⟩
  obtain ⟨n, os, rfl⟩ := h
  refine ⟨rfl, rfl, rfl, fun k hk hne => ?_⟩
  unfold sortWorldK
  rw [heap_grow_old _ _ (by rw [size_putRowK]; exact hk)]
  unfold putRowK putRow mapBlock
  show (w0.heap.modify g _)[k]? = _
  rw [Array.getElem?_modify, if_neg (fun e => hne e.symm)]
theorem only_refl (g : Nat) (w : World) : Only g w w := ⟨rfl, rfl, rfl, rfl, fun _ _ => rfl⟩
theorem only_cells (g : Nat) : ∀ (zs : List Value) (o : Nat) (w : World), Only g w (w.setCells g o zs)
  | [], _, w => only_refl g w
  | v :: r, o, w => (only_set w g o v).trans (only_cells g r (o + 1) _)

/-- What is left of the row, in memory. -/
theorem compacted_sv {O : Nat → Prop} {w0 : World} {g cap n : Nat} {ps : List VP} (hn : n = ps.length) (hc : ps.length ≤ cap) (R : RW0 w0 g (tagged ps)) (hO : O g) (hps : ∀ x ∈ ps, x.1.past.length ≤ x.2.2 ∧ Sl w0 x.2.1 x.1.past ∧ Apart O (some g) x.2.1 x.1.past)
    {d1 : Array TP} (hm : Mix 0 n (tagged ps) d1) {e : Ending} {W' : World} (h : Compacted 5 w0 g n cap d1 e W') {base : Nat} (hb : base ≤ g) (hbs : base ≤ w0.heap.size) :
    e = .returned (.slice (some ⟨g, 0, none⟩) ((cpt d1 n).map fun x => x.2.1).length cap) ∧ ((cpt d1 n).map fun x => x.2.1).length ≤ cap ∧ SV W' (some ⟨g, 0, none⟩) ((cpt d1 n).map fun x => x.2.1) ∧ Prov O W' (some ⟨g, 0, none⟩) ((cpt d1 n).map fun x => x.2.1) ∧ Below base w0 W' := by
  obtain ⟨rfl, dj, W1, zs, hS, hsz, hat, hW⟩ := h
  have hon : Only g W1 W' := by
    rcases hW with rfl | rfl
    · exact only_refl g _
    · exact only_cells g _ _ _
  obtain ⟨b1, b2, b3, b4, b5⟩ := sw_block hS
  have hlen : (cpt d1 n).length ≤ n := by
    have : ∀ m, (cpt d1 m).length ≤ m := fun m => by
      induction m with
      | zero => exact Nat.le_refl _
      | succ m ih =>
        rw [cpt]
        split
        · rw [List.length_append]; simp; omega
        · omega
    exact this n
  have hin : ∀ x ∈ cpt d1 n, x.2 ∈ ps := fun x hx => by
    obtain ⟨i, hi, rfl, _⟩ := cpt_mem hx
    obtain ⟨t, _, ht, e⟩ := hm.into i (Nat.zero_le _) hi
    obtain ⟨y, hy⟩ : ∃ y, ps[t]? = some y := ⟨_, List.getElem?_eq_getElem (by omega)⟩
    rw [e, tagged_at ps t y hy]
    exact List.mem_of_getElem? hy
  have hcell : ∀ i x, (cpt d1 n)[i]? = some x → ∀ j u, (encT x)[j]? = some u → W'.cell? ⟨g, 0 + i * 5 + j, none⟩ = some u := fun i x hx j u hu => by
    have hi := (List.getElem?_eq_some_iff.1 hx).1
    have hj := (List.getElem?_eq_some_iff.1 hu).1
    rw [encT_len] at hj
    have h1 : W'.cell? ⟨g, 0 + i * 5 + j, none⟩ = W1.cell? ⟨g, 0 + i * 5 + j, none⟩ := by
      rcases hW with rfl | rfl
      · rfl
      · exact World.cell?_setCells_out g _ _ _ _ fun _ _ => .inl (by show 0 + i * 5 + j < _; omega)
    rw [h1, ((hS.holds R.hblk R.hH (by rw [hsz, tagged_size, hn])).cell (i := i) (c := j) (by omega) hj).1, hat i x hx]
    rw [getElem!_pos (encT x) j (by rw [encT_len]; exact hj)]
    rw [List.getElem?_eq_getElem (by rw [encT_len]; exact hj)] at hu
    exact hu
  have hsl : ∀ x ∈ cpt d1 n, Sl W' x.2.2.1 x.2.1.past := fun x hx hx0 => by
    obtain ⟨_, h2, h3⟩ := hps x.2 (hin x hx)
    obtain ⟨gb, o, e, hg, hcs⟩ := h2 hx0
    have hne : gb ≠ g := fun e' => (h3 _ e hx0).1 (by rw [← e'])
    have hk : ∀ q, W'.cell? ⟨gb, q, none⟩ = w0.cell? ⟨gb, q, none⟩ := fun q => World.cell?_of_block (w := w0) ((hon.block gb hne).trans (b5 gb hg hne))
    refine ⟨gb, o, e, by rw [hon.size]; omega, fun j d hj => ?_⟩
    rw [hk, hk]
    exact hcs j d hj
  refine ⟨by rw [List.length_map], by rw [List.length_map]; omega, fun _ => ⟨g, 0, rfl, by rw [hon.size]; exact Nat.lt_of_lt_of_le R.hblk b1, fun j v hj => ?_⟩, fun _ g' o' e' => ?_, ?_⟩
  · rw [List.getElem?_map] at hj
    obtain ⟨x, hx, rfl⟩ := Option.map_eq_some_iff.1 hj
    have hmx := List.mem_of_getElem? hx
    exact ⟨x.2.2.1, x.2.2.2, hcell j x hx 0 _ rfl, hcell j x hx 1 _ rfl, hcell j x hx 2 _ rfl, hcell j x hx 3 _ rfl, hcell j x hx 4 _ rfl, (hps x.2 (hin x hmx)).1, hsl x hmx⟩
  · injection e' with e'
    injection e' with e1 e2
    subst e1
    subst e2
    refine ⟨hO, fun j v r c hj hcc ad ead h0 => ?_⟩
    rw [List.getElem?_map] at hj
    obtain ⟨x, hx, rfl⟩ := Option.map_eq_some_iff.1 hj
    have hmx := List.mem_of_getElem? hx
    rw [hcell j x hx 2 _ rfl] at hcc
    injection hcc with hcc
    injection hcc with hcc _ _
    subst hcc
    exact ((hps x.2 (hin x hmx)).2.2 ad ead h0).2
  · exact ⟨hon.os.trans b2, hon.tape.trans b3, hon.output.trans b4, by rw [hon.size]; exact b1, fun k hk => (hon.block k (by omega)).trans (b5 k (by omega) (by omega))⟩
end Go.Proofs.Ytbghekolfcakeaa
