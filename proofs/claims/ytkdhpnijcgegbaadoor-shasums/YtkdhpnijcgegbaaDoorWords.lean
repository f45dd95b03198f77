/-
  What the Sum's words and a digest out of words are.
-/
import Derived.Test.YtkdhpnijcgegbaaDoorRow
import Derived.Test.YtkdhpnijcgegbaaDoorFill
namespace Go.Proofs.YtkdhpnijcgegbaaDoor
open Go.RowKit

theorem size30 : (Tryd.prog.info? 30).map (·.size) = some 8 := by kernel_rfl
theorem size46 : (Tryd.prog.info? 46).map (·.size) = some 64 := by kernel_rfl
theorem size31 : (Tryd.prog.info? 31).map (·.size) = some 64 := by kernel_rfl
theorem size24 : (Tryd.prog.info? 24).map (·.size) = some 32 := by kernel_rfl
theorem size34 : (Tryd.prog.info? 34).map (·.size) = some 73 := by kernel_rfl

/-- What the package's variables start and added hold. -/
structure Glob (w : World) : Prop where
  start : ∀ (j x : Nat), Sha.start[j]? = some x → w.cell? ⟨2, j, none⟩ = some (.int .u32 (x : Int))
  added : ∀ (j x : Nat), Sha.keys[j]? = some x → w.cell? ⟨1, j, none⟩ = some (.int .u32 (x : Int))
theorem Glob.lt2 {w : World} (h : Glob w) : 2 < w.heap.size := block_lt_of_cell (h.start 0 _ rfl)
theorem Glob.below {w w' : World} {n : Nat} (h : Glob w) (hb : Below n w w') (hn : 2 < n) : Glob w' :=
  ⟨fun j x hx => (hb.cell (p := ⟨2, j, none⟩) hn).trans (h.start j x hx), fun j x hx => (hb.cell (p := ⟨1, j, none⟩) (by show 1 < n; omega)).trans (h.added j x hx)⟩
theorem Glob.same {w w' : World} (h : Glob w) (hc : w'.heap = w.heap) : Glob w' := by
  have e : ∀ a, w'.cell? a = w.cell? a := fun a => by simp [World.cell?, hc]
  exact ⟨fun j x hx => (e _).trans (h.start j x hx), fun j x hx => (e _).trans (h.added j x hx)⟩

theorem VRow.newAt {W : World} {T n : Nat} {vs : List Value} (hn : n = W.heap.size) : VRow (W.alloc (.cells vs.toArray T)) n T vs := by subst hn; exact VRow.new W T vs

theorem load_row {ops : Array Oper} {rest : List Oper} {o : Oper} {a : Act} {w : World} {Q : Exit → Act → World → Prop} (hgd : o.guard = none) (T : TypeId) (x : Operand) (ho : o.op = .load T x)
    (B : Nat) (hx : a.eval x = .pointer (some ⟨B, 0, none⟩)) (T' : TypeId) (vs : List Value) (hr : VRow w B T' vs) (n m : Nat) (e : TypeId) (hu : Tryd.prog.underlying T = some (.array m e))
    (hi : (Tryd.prog.info? T).map (·.size) = some n) (hn : vs.length = n)
    (h : wpList Tryd.prog ops Q rest (a.put o.dst (.agg vs.toArray)) w) : wpList Tryd.prog ops Q (o :: rest) a w :=
  wpList_load_row hgd T x ho B hx T' vs.toArray (0, 0) _ hr hu rfl (by rw [hi]; simp [hn]) h

theorem store_row {ops : Array Oper} {rest : List Oper} {o : Oper} {a : Act} {w : World} {Q : Exit → Act → World → Prop} (hgd : o.guard = none) (T : TypeId) (x y : Operand) (ho : o.op = .store T x y)
    (B : Nat) (vs : List Value) (hx : a.eval x = .pointer (some ⟨B, 0, none⟩)) (hy : a.eval y = .agg vs.toArray) (T' : TypeId) (olds : List Value) (hr : VRow w B T' olds) (n : Nat)
    (hi : (Tryd.prog.info? T).map (·.size) = some n) (hn : vs.length = n) (ho' : olds.length = n) (h1 : ∀ v ∈ vs, v.oneCell' = true)
    (h : ∀ w', Only B w w' → VRow w' B T' vs → wpList Tryd.prog ops Q rest (a.put o.dst undef) w') : wpList Tryd.prog ops Q (o :: rest) a w := by
  refine wpList_store_row hgd T x y ho B vs.toArray hx hy T' olds.toArray hr (by rw [hi]; simp [hn]) (by simp [hn, ho']) (all_oneCell_toArray h1) (h _ ?_ ?_)
  · exact ⟨rfl, rfl, rfl, by simp, fun j hj => setRow_other w B j _ hj⟩
  · exact setRow_heap w B olds.toArray _ T' (0, 0) hr

theorem one_words (ws : List Nat) : ∀ v ∈ ws.map u, v.oneCell' = true := by
  intro v hv
  obtain ⟨x, _, rfl⟩ := List.mem_map.1 hv
  rfl
theorem one_bytes (bs : List UInt8) : ∀ v ∈ bs.map byteVal, v.oneCell' = true := by
  intro v hv
  obtain ⟨x, _, rfl⟩ := List.mem_map.1 hv
  rfl

set_option maxRecDepth 100000 in
set_option maxHeartbeats 1000000 in
theorem words_any (B : Nat) (gain : List Nat) (hg : Sha.Ok 8 gain) (rest : List Value) (w : World) (hs : VRow w B 34 (gain.map u ++ rest)) (hG : Glob w) :
    Calls Tryd.prog 24 #[.pointer (some ⟨B, 0, none⟩)] w fun e w' => e = .returned (.agg ((List.zipWith Sha.add Sha.start gain).map u).toArray) ∧ Below w.heap.size w w' := by
  have HS := hide hs
  have HG := hide hG
  clear hs hG
  have HST : Hid (w.rangeAt 2 0 (Sha.start.map u)) := hide fun j v hv => by
    simp only [List.getElem?_map, Option.map_eq_some_iff] at hv
    obtain ⟨x, hx, rfl⟩ := hv
    rw [Nat.zero_add]
    exact (unhide HG).start j x hx
  have h2 := (unhide HG).lt2
  go_enter Tryd.func24, Tryd.ntmps24
  go_wp2_with (first
    | (refine wpList_load_mid (by rfl) 30 _ (by rfl) 2 0 (by rfl) (Sha.start.map u) _ (World.rangeAt_alloc (unhide HST) _) Tryd.underlying30 rfl size30 ?_)
    | (refine store_row (by rfl) 30 _ _ (by rfl) (w.heap.size + 1) (Sha.start.map u) (by rfl) (by rfl) 30 (Sha.zero8.map u) (VRow.newAt (by simp)) 8 size30 rfl rfl (one_words _) ?_; intro w1 ho1 hr1; have HO1 := hide ho1; have HR1 := hide hr1; clear ho1 hr1))
  have HB1 : Hid (Below w.heap.size w w1) := (((Below.refl _ _).alloc (Nat.le_refl _) _).alloc (by simp) _).trans ((unhide HO1).below (by omega))
  have HZ1 : Hid (VRow w1 w.heap.size 30 (Sha.zero8.map u)) := ((VRow.new w 30 (Sha.zero8.map u)).alloc _).only (unhide HO1) (by omega)
  clear HO1 HST
  go_loopw [6] (fun i wr => ∃ k : Nat, k ≤ 8 ∧ i = .int .i64 k ∧ VRow wr (w.heap.size + 1) 30 (((List.zipWith Sha.add Sha.start gain).take k ++ Sha.start.drop k).map u) ∧ VRow wr w.heap.size 30 (Sha.zero8.map u) ∧ Below w.heap.size w wr) (fun i _ => 8 - (intOf i).toNat)
  case atStart => exact ⟨0, Nat.zero_le _, rfl, unhide HR1, unhide HZ1, unhide HB1⟩
  case round =>
    obtain ⟨k, hk, rfl, hrow, hz, hbl⟩ := hrel
    have HR := hide hrow
    have HZ := hide hz
    have HB := hide hbl
    by_cases hlt : k < 8
    · obtain ⟨x, hx⟩ : ∃ x, Sha.start[k]? = some x := ⟨_, List.getElem?_eq_getElem (by simpa [Sha.start] using hlt)⟩
      obtain ⟨y, hy⟩ : ∃ y, gain[k]? = some y := ⟨_, List.getElem?_eq_getElem (by rw [hg.1]; exact hlt)⟩
      have c1 := hrow.word k x (by rw [Sha.mid_get _ _ _ (by simp [hg.1, Sha.start]; omega)]; exact hx)
      have f1 := hrow.frozen k
      have c2 : wr.cell? ⟨B, k, none⟩ = some (.int .u32 (y : Int)) := (hbl.cell (p := ⟨B, k, none⟩) (unhide HS).lt).trans ((unhide HS).cell k _ (by rw [List.getElem?_append_left (by simp [hg.1]; exact hlt)]; simp [hy, u]))
      have hA : ((x : Int) + (y : Int)) % 4294967296 = ((Sha.add x y : Nat) : Int) := by simp [Sha.add]
      have HN : Hid (((List.zipWith Sha.add Sha.start gain).take k ++ Sha.start.drop k).set k (Sha.add x y) = (List.zipWith Sha.add Sha.start gain).take (k + 1) ++ Sha.start.drop (k + 1)) := by
        have hl : k < (List.zipWith Sha.add Sha.start gain).length := by simp [hg.1, Sha.start]; exact hlt
        have e : (List.zipWith Sha.add Sha.start gain)[k] = Sha.add x y := by
          rw [List.getElem_zipWith]
          rw [List.getElem?_eq_some_iff] at hx hy
          obtain ⟨_, rfl⟩ := hx
          obtain ⟨_, rfl⟩ := hy
          rfl
        rw [← e]
        exact hide (Sha.mid_set _ _ k hl (by simpa [Sha.start] using hlt))
      generalize Sha.add x y = A at hA HN
      clear hrow hz hbl hx hy
      go_wp2_with fail
      go_region
      go_wp2_with fail
      go_roundw
      case rel =>
        refine ⟨k + 1, by omega, by go_num, ?_, ((unhide HZ).setOther _ (by simp) _).drew, ((unhide HB).setCell (p := ⟨w.heap.size + 1, k, none⟩) (by simp) _).drew⟩
        rw [← unhide HN]
        exact ((unhide HR).setWord k A).drew
      case measure => simp [intOf]; omega
    · obtain rfl : k = 8 := by omega
      rw [Sha.mid_all _ _ 8 (by simp [Sha.start]; omega) (by simp [Sha.start])] at HR
      clear hrow hz hbl
      go_wp2_with (first
        | (refine load_row (by rfl) 30 _ (by rfl) (w.heap.size + 1) (by rfl) 30 _ (unhide HR) 8 8 29 Tryd.underlying30 size30 (by simp [hg.1, Sha.start]) ?_)
        | (refine store_row (by rfl) 30 _ _ (by rfl) w.heap.size _ (by rfl) (by rfl) 30 (Sha.zero8.map u) (unhide HZ) 8 size30 (by simp [hg.1, Sha.start]) rfl (one_words _) ?_; intro w2 ho2 hr2; have HO2 := hide ho2; have HR2 := hide hr2; clear ho2 hr2))
      refine bodyPost_ret (v := .agg ((List.zipWith Sha.add Sha.start gain).map u).toArray) ?_ rfl ⟨rfl, ?_⟩
      · exact results_cell_row rfl _ _ w.heap.size 30 _ (0, 0) _ rfl (unhide HR2) Tryd.underlying30 rfl (by rw [size30]; simp [hg.1, Sha.start])
      · exact (unhide HB).trans ((unhide HO2).below (Nat.le_refl _))
end Go.Proofs.YtkdhpnijcgegbaaDoor
