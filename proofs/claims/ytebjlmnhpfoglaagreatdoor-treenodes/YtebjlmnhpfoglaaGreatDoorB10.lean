/-
  What Cover, Live, Write and Erase answer: the document's.
-/
import Derived.Test.YtebjlmnhpfoglaaGreatDoorB09
import Derived.ChangeMaps5
namespace Go.Proofs.YtebjlmnhpfoglaaGreatDoor
open Go.RowKit

def MadeV (O : Nat → Prop) (w : World) (vs : List Vc.V) (e : Ending) (w' : World) : Prop := ∃ r cap, e = .returned (.slice r vs.length cap) ∧ vs.length ≤ cap ∧ SV w' r vs ∧ Prov O w' r vs ∧ Below w.heap.size w w'
def MadeVE (O : Nat → Prop) (w : World) (x : List Vc.V × Int) (e : Ending) (w' : World) : Prop := ∃ r cap, e = .returned (.tuple #[.slice r x.1.length cap, .int .i64 x.2]) ∧ x.1.length ≤ cap ∧ SV w' r x.1 ∧ Prov O w' r x.1 ∧ Below w.heap.size w w'
def All : Nat → Prop := fun _ => True
theorem prov_all (W : World) (a : Option Addr) (vs : List Vc.V) : Prov All W a vs := Prov.any W a vs
theorem one_sv {W : World} {D T : Nat} {v : Vc.V} {r : Option Addr} {c : Nat} (h : VRow W D T (verL v r c)) (hc : v.past.length ≤ c) (hs : Sl W r v.past) : SV W (some ⟨D, 0, none⟩) [v] := fun _ => by
  refine ⟨D, 0, rfl, h.lt, fun j u hj => ?_⟩
  have hj0 : j = 0 := by have := (List.getElem?_eq_some_iff.1 hj).1; simp at this; omega
  subst hj0
  simp at hj
  subst hj
  exact ⟨r, c, h.cell 0 _ rfl, h.cell 1 _ rfl, h.cell 2 _ rfl, h.cell 3 _ rfl, h.cell 4 _ rfl, hc, hs⟩

set_option maxRecDepth 100000 in
set_option maxHeartbeats 1000000 in
theorem refLive_any (O : Nat → Prop) (a : Option Addr) (cap : Nat) (vs : List Vc.V) (hf : Few vs) (w : World) (hO : ∀ g, w.heap.size ≤ g → O g) (h : SV w a vs) (hp : Prov O w a vs) :
    Calls Tryz.prog 49 #[.slice a vs.length cap] w (MadeV O w (Vc.live vs)) := by
  have HP := hide hp
  have HOO := hide hO
  clear hp hO
  have HS := hide h
  have hl := hf.1
  obtain ⟨F, hF⟩ : ∃ F : Vc.V → Bool, (fun v => !v.dead) = F := ⟨_, rfl⟩
  have HF : Hid (∀ v, F v = !v.dead) := hide (fun v => by rw [← hF])
  rw [show Vc.live vs = vs.filter F by rw [← hF]; rfl]
  clear h hf hF
  go_enter Tryz.func49, Tryz.ntmps49
  go_wp2_with fail
  go_loopw [3, 4] (fun l i wr => ∃ (k : Nat), k ≤ vs.length ∧ i = .int .i64 k ∧ OV O wr w.heap.size l ((vs.take k).filter F) ∧ Below w.heap.size w wr) (fun _ i _ => vs.length - (intOf i).toNat)
  case atStart => exact ⟨0, Nat.zero_le _, rfl, OV.nil _ _ _, Below.refl _ _⟩
  case round =>
    obtain ⟨k, hk, rfl, hov, hb⟩ := hrel
    have HO := hide hov
    have HB := hide hb
    have S := (unhide HS).after hb
    have hsz := hb.size
    have hfl : ((vs.take k).filter F).length ≤ 100000 := Nat.le_trans (List.length_filter_le _ _) (by rw [List.length_take]; omega)
    by_cases hlt : k < vs.length
    · obtain ⟨v, hx⟩ : ∃ d, vs[k]? = some d := ⟨_, List.getElem?_eq_getElem hlt⟩
      obtain ⟨g0, o0, e0, hg0, hcell0⟩ := unhide HS (by omega)
      obtain ⟨g, o, rfl, hg, hcell⟩ := S (by omega)
      obtain ⟨q, d, x0, x1, x2, x3, x4, h5, h6⟩ := hcell k v hx
      have HAP : Hid (Apart O u3.ownBlock q v.past) := hide (by
        injection e0 with e0
        injection e0 with e1 e2
        subst e1
        subst e2
        obtain ⟨q', d', _, _, y2, _, _, _, y6⟩ := hcell0 k v hx
        rw [hb.cell (by exact hg0), y2] at x2
        injection x2 with x2
        injection x2 with x2 _ _
        subst x2
        exact y6.apart (fun g e => (hov.lt g e).1) ((unhide HP (by omega) _ _ rfl).2 k v _ d' hx y2))
      have HFL := hide (show (vs.take (k + 1)).filter F = ((vs.take k).filter F) ++ ([v].filter F) by rw [take_snocA hx, List.filter_append])
      generalize ((vs.take k).filter F) = L at HO HFL hfl
      have H6 := hide h6
      clear hx hcell hcell0 hg hg0 e0 h6 hov hb
      by_cases hdd : v.dead = true
      · rw [show [v].filter F = [] by simp [unhide HF, hdd], List.append_nil] at HFL
        rw [hdd] at x3
        go_wp2_with fail
        go_roundw
        case rel => exact ⟨k + 1, by omega, by go_num, by rw [unhide HFL]; exact unhide HO, unhide HB⟩
        case measure => simp [intOf]; omega
      · rw [Bool.not_eq_true] at hdd
        rw [show [v].filter F = [v] by simp [unhide HF, hdd]] at HFL
        have x3' := x3
        rw [hdd] at x3'
        clear x3
        have HV : Hid (VRow (wr.alloc (.cells (verL v q d).toArray 64)) wr.heap.size 64 (verL v q d)) := hide (VRow.new _ _ _)
        have HBA := hide (below_alloc' (w := wr) (.cells (verL v q d).toArray 64))
        rw [show verL v q d = [.int .i64 v.dot.1, .int .i64 v.dot.2, .slice q v.past.length d, .bool false, .string v.data] by unfold verL; rw [hdd]] at HV HBA
        go_wp2_with (at_builtin; refine append_sv (by rfl) _ _ (by rfl) w.heap.size _ L (by rfl) ((unhide HO).after (unhide HBA)) _ _ [v] (by rfl) (one_svn (by unfold verL; rw [hdd]; exact unhide HV) h5 ((unhide H6).after (unhide HBA)) (unhide HAP)) (by simp; omega) (by simp; omega) ?_; intro v9 w9 hown9 hb9 _ _; have HO9 := hide hown9; have HB9 := hide (((unhide HB).alloc hsz _).trans hb9); clear hown9 hb9)
        go_roundw
        case rel => exact ⟨k + 1, by omega, by go_num, by rw [unhide HFL]; exact unhide HO9, unhide HB9⟩
        case measure => simp [intOf]; omega
    · obtain rfl : k = vs.length := by omega
      rw [List.take_length] at HO
      clear hov
      obtain ⟨r, c, rfl, hc, hs, hpr⟩ := (unhide HO).sv
      have HPR := hide (hpr (unhide HOO))
      clear hpr
      go_wp2_with fail
      go_ret
      exact ⟨r, c, rfl, hc, hs, unhide HPR, unhide HB⟩
end Go.Proofs.YtebjlmnhpfoglaaGreatDoor

/-
  The walk of the statement on what two leaves come to together.
-/

namespace Go.Proofs.YtebjlmnhpfoglaaGreatDoor
open Go.RowKit

/-- No past is too long to be. -/
def Short (vs : List Vc.V) : Prop := ∀ v ∈ vs, v.past.length ≤ 9223372036854775807
theorem Short.few {vs : List Vc.V} (h : Short vs) (hl : vs.length ≤ 70) : Few vs := ⟨by omega, h⟩
theorem bool_of (p : Prop) : ∃ D : Bool, D = true ↔ p := ⟨@decide p (Classical.propDecidable _), @decide_eq_true_iff p (Classical.propDecidable _)⟩
end Go.Proofs.YtebjlmnhpfoglaaGreatDoor

/-
  Versions that come in, opened.
-/

namespace Go.Proofs.YtebjlmnhpfoglaaGreatDoor
open Go.ChangeShapes Go.WideShapes Go.ChangeAt Go.RowKit Go.Deep

section
variable {H : Type} {enc : TypeId × Value → H} {W : World}

theorem bytes61 : Tryz.prog.bytesOf 61 = 16 := by kernel_rfl
set_option maxRecDepth 100000 in
theorem mem_weightsAll {e : TypeId} {d : DataW H} {n : Nat} : ∀ {l : List (DataW H)}, d ∈ l → n ∈ d.weights Tryz.prog e → n ∈ DataW.weightsAll Tryz.prog e l
  | [], h, _ => by cases h
  | x :: l, h, hn => by
    rw [DataW.weightsAll]
    rcases List.mem_cons.1 h with rfl | h
    · exact List.mem_append_left _ hn
    · exact List.mem_append_right _ (mem_weightsAll h hn)
/-- What is read is no greater than a machine's memory. -/
def Reached (t : TypeId) (d : DataW H) : Prop := ∀ n ∈ d.weights Tryz.prog t, n ≤ reachBytes
set_option maxRecDepth 100000 in
theorem dots_of_trod {fuel : Nat} {v : Value} {x : DataW H × List MemPlace}
    (hf : DataW.trod enc Tryz.prog W 0 (fun _ => true) true fuel 62 [v] = some x) : ∃ (a : Option Addr) (cap : Nat) (ds : List Vc.D), v = .slice a ds.length cap ∧ ds.length ≤ cap ∧ cap ≤ maxLen ∧ Sl W a ds ∧ (Reached 62 x.1 → ds.length ≤ 8796093022208) := by
  rcases open_slice_pairs Tryz.underlying62 Tryz.underlying61 cells61 rfl rfl cells3 cells3 hf with ⟨hcs, _⟩ | ⟨a, len, cap, m, n, V0, V1, D0, D1, P0, P1, hcs, _, hl, hm, hmm, hx0, hall⟩
  · simp at hcs
    exact ⟨none, 0, [], hcs, Nat.le_refl _, Nat.zero_le _, Sl.none _ _, fun _ => by simp⟩
  · simp at hcs
    simp only [if_true] at hmm
    have hbl : ((List.range len).map fun i => (numOf (V0 i), numOf (V1 i))).length = len := by simp
    refine ⟨some a, cap, (List.range len).map fun i => (numOf (V0 i), numOf (V1 i)), by rw [hbl]; exact hcs, by omega, hm, fun h0 => ?_, fun hR => ?_⟩
    rotate_left
    · rw [hbl]
      have h9 := hR ((((List.range len).map fun i => DataW.agg [D0 i, D1 i]).length + ((List.range (m - len)).map fun j => DataW.agg [D0 (len + j), D1 (len + j)]).length) * Tryz.prog.bytesOf 61) (by rw [hx0]; simp [DataW.weights, Tryz.underlying62])
      rw [bytes61] at h9
      simp at h9
      unfold reachBytes at h9
      omega
    rw [hbl] at h0
    obtain ⟨b, off, spot⟩ := a
    have hspot : spot = none := by simpa [Addr.add] using World.cell?_spot (hall 0 (by omega)).1
    subst hspot
    refine ⟨b, off, rfl, block_lt_of_cell (hall 0 (by omega)).1, fun j x hx => ?_⟩
    have hj := (List.getElem?_eq_some_iff.1 hx).1
    rw [hbl] at hj
    obtain ⟨c0, c1, t0, t1⟩ := hall j (by omega)
    obtain ⟨k0, e0, _, _⟩ := DataW.trod_int Tryz.underlying3 t0
    obtain ⟨k1, e1, _, _⟩ := DataW.trod_int Tryz.underlying3 t1
    simp only [List.cons.injEq, and_true] at e0 e1
    rw [add_plain] at c0 c1
    simp [hj] at hx
    subst hx
    rw [e0] at c0
    rw [e1] at c1
    rw [e0, e1]
    exact ⟨c0, c1⟩
theorem cells64 : Tryz.prog.cellsOf 64 = 5 := by kernel_rfl
theorem cells4 : Tryz.prog.cellsOf 4 = 1 := by kernel_rfl
theorem cells9 : Tryz.prog.cellsOf 9 = 1 := by kernel_rfl
set_option maxRecDepth 100000 in
theorem ver_of_trod {fuel : Nat} {cs : List Value} {x : DataW H × List MemPlace} (hf : DataW.trod enc Tryz.prog W 0 (fun _ => true) true fuel 64 cs = some x) :
    ∃ (v : Vc.V) (r : Option Addr) (c : Nat), cs = verL v r c ∧ v.past.length ≤ c ∧ v.past.length ≤ 9223372036854775807 ∧ Sl W r v.past ∧ (Reached 64 x.1 → v.past.length ≤ 8796093022208) ∧ v.data.size ≤ 9223372036854775807 := by
  obtain ⟨xs, n, _, hx0, hlen, hxl, hall⟩ := DataW.trod_struct Tryz.underlying64 hf
  rw [cells64] at hlen
  match cs, hlen with
  | [c0, c1, c2, c3, c4], _ =>
    match xs, hxl with
    | [y0, y1, y2, y3], _ =>
      have g0 := hall 0 _ rfl
      have g1 := hall 1 _ rfl
      have g2 := hall 2 _ rfl
      have g3 := hall 3 _ rfl
      simp [cells61, cells62, cells4, cells9] at g0 g1 g2 g3
      obtain ⟨zs, m, _, _, _, hzl, hz⟩ := DataW.trod_struct Tryz.underlying61 g0
      match zs, hzl with
      | [z0, z1], _ =>
        have i0 := hz 0 _ rfl
        have i1 := hz 1 _ rfl
        simp [cells3] at i0 i1
        obtain ⟨p, e0, _, _⟩ := DataW.trod_int Tryz.underlying3 i0
        obtain ⟨k, e1, _, _⟩ := DataW.trod_int Tryz.underlying3 i1
        obtain ⟨r, c, ds, e2, h2, h3, h4, h9⟩ := dots_of_trod g1
        obtain ⟨b, e3, _⟩ := DataW.trod_bool Tryz.underlying4 g2
        obtain ⟨s, e4, _, w4⟩ := DataW.trod_string Tryz.underlying9 g3
        simp only [List.cons.injEq, and_true] at e0 e1 e3 e4
        refine ⟨⟨(p, k), ds, b, s⟩, r, c, ?_, h2, ?_, h4, fun hR => h9 fun q hq => hR q ?_, by unfold maxLen at w4; simpa using w4⟩
        · rw [e0, e1, e2, e3, e4]; rfl
        · unfold maxLen at h3; show ds.length ≤ _; omega
        · rw [hx0]
          simp only [DataW.weights, Tryz.underlying64, List.map_cons, List.map_nil, DataW.weightsEach]
          exact List.mem_append_right _ (List.mem_append_left _ hq)
set_option maxRecDepth 100000 in
theorem open_ver {r0 : Reach} {base : Nat} {v0 : Value} {d0 : DataW H} {p0 : List MemPlace}
    (hv : Value.okWide Tryz.prog W r0 base 64 v0) (h : DataW.Trod enc Tryz.prog W 0 (fun _ => true) true 64 v0 d0 p0) :
    ∃ (v : Vc.V) (r : Option Addr) (c : Nat), v0 = .agg (verL v r c).toArray ∧ v.past.length ≤ c ∧ v.past.length ≤ 9223372036854775807 ∧ Sl W r v.past := by
  obtain ⟨cs, rfl, hsz⟩ := okWide_struct Tryz.underlying64 hv
  obtain ⟨fuel, hf⟩ := h
  obtain ⟨v, r, c, e, h1, h2, h3, _⟩ := ver_of_trod hf
  refine ⟨v, r, c, ?_, h1, h2, h3⟩
  rw [← e]
  simp [Value.cells]
set_option maxRecDepth 100000 in
theorem open_vers_l {r0 : Reach} {base : Nat} {v0 : Value} {d0 : DataW H} {p0 : List MemPlace}
    (hv : Value.okWide Tryz.prog W r0 base 31 v0) (h : DataW.Trod enc Tryz.prog W 0 (fun _ => true) true 31 v0 d0 p0) :
    ∃ (a : Option Addr) (cap : Nat) (vs : List Vc.V), v0 = .slice a vs.length cap ∧ vs.length ≤ cap ∧ Short vs ∧ SV W a vs ∧ (Reached 31 d0 → Light vs) ∧ ∀ v ∈ vs, v.data.size ≤ 9223372036854775807 := by
  obtain ⟨a0, len0, cap0, rfl⟩ := okWide_slice Tryz.underlying31 hv
  obtain ⟨fuel, hf⟩ := h
  rcases open_slice Tryz.underlying31 hf with ⟨hcs, _⟩ | ⟨a, len, cap, m, n, D, Pl, hcs, _, hl, _, hmm, hx0, hall⟩
  · simp [Value.cells] at hcs
    obtain ⟨rfl, rfl, rfl⟩ := hcs
    exact ⟨none, 0, [], rfl, Nat.le_refl _, fun _ h => (by cases h), SV.none _ _, fun _ _ h => (by cases h), fun _ h => (by cases h)⟩
  · simp [Value.cells] at hcs
    obtain ⟨rfl, rfl, rfl⟩ := hcs
    simp only [if_true] at hmm
    obtain ⟨b, off, spot⟩ := a
    have each : ∀ i, i < len0 → ∃ q : Vc.V × Option Addr × Nat, (∀ j u, (verL q.1 q.2.1 q.2.2)[j]? = some u → W.cell? ((⟨b, off, spot⟩ : Addr).add (i * 5 + j)) = some u) ∧ q.1.past.length ≤ q.2.2 ∧ q.1.past.length ≤ 9223372036854775807 ∧ Sl W q.2.1 q.1.past ∧ (Reached 31 d0 → q.1.past.length ≤ 8796093022208) ∧ q.1.data.size ≤ 9223372036854775807 := by
      intro i hi
      obtain ⟨cs', h1, h2⟩ := hall i (by omega)
      rw [cells64] at h1
      obtain ⟨_, hlen, hcell⟩ := World.cells?_some h1
      obtain ⟨v, r, c, e, g1, g2, g3, g9, g10⟩ := ver_of_trod h2
      refine ⟨(v, r, c), fun j u hu => ?_, g1, g2, g3, fun hR => g9 fun z hz => hR z ?_, g10⟩
      rotate_left
      · injection hx0 with hd0 _
        rw [hd0]
        simp only [DataW.weights, Tryz.underlying31]
        exact List.mem_cons_of_mem _ (List.mem_append_left _ (mem_weightsAll (List.mem_map.2 ⟨i, List.mem_range.2 hi, rfl⟩) hz))
      have hj : j < 5 := (List.getElem?_eq_some_iff.1 hu).1
      have hc := hcell j (by omega)
      rw [add_add] at hc
      rw [hc, e]
      exact hu
    haveI : Inhabited Vc.V := ⟨zeroV⟩
    obtain ⟨q, hq⟩ := choose_lt each
    have hbl : ((List.range len0).map fun i => (q i).1).length = len0 := by simp
    refine ⟨some ⟨b, off, spot⟩, cap0, (List.range len0).map fun i => (q i).1, by rw [hbl], by omega, fun v hv' => ?_, fun h0 => ?_, fun hR v hv' => ?_, fun v hv' => ?_⟩
    · obtain ⟨i, hi, rfl⟩ := List.mem_map.1 hv'
      exact (hq i (List.mem_range.1 hi)).2.2.1
    · rw [hbl] at h0
      have hspot : spot = none := by simpa [Addr.add] using World.cell?_spot ((hq 0 h0).1 0 _ rfl)
      subst hspot
      have hb : b < W.heap.size := by have := block_lt_of_cell ((hq 0 h0).1 0 _ rfl); rw [add_plain] at this; exact this
      refine ⟨b, off, rfl, hb, fun j v hj => ?_⟩
      have hjl := (List.getElem?_eq_some_iff.1 hj).1
      rw [hbl] at hjl
      simp [hjl] at hj
      subst hj
      obtain ⟨hc, h1, _, h3, _⟩ := hq j hjl
      have cc : ∀ i u, (verL (q j).1 (q j).2.1 (q j).2.2)[i]? = some u → W.cell? ⟨b, off + j * 5 + i, none⟩ = some u := fun i u hu => by
        have := hc i u hu
        rw [add_plain, ← Nat.add_assoc] at this
        exact this
      exact ⟨(q j).2.1, (q j).2.2, cc 0 _ rfl, cc 1 _ rfl, cc 2 _ rfl, cc 3 _ rfl, cc 4 _ rfl, h1, h3⟩
    · obtain ⟨i, hi, rfl⟩ := List.mem_map.1 hv'
      exact (hq i (List.mem_range.1 hi)).2.2.2.2.1 hR
    · obtain ⟨i, hi, rfl⟩ := List.mem_map.1 hv'
      exact (hq i (List.mem_range.1 hi)).2.2.2.2.2
set_option maxRecDepth 100000 in
theorem open_vers {r0 : Reach} {base : Nat} {v0 : Value} {d0 : DataW H} {p0 : List MemPlace}
    (hv : Value.okWide Tryz.prog W r0 base 31 v0) (h : DataW.Trod enc Tryz.prog W 0 (fun _ => true) true 31 v0 d0 p0) :
    ∃ (a : Option Addr) (cap : Nat) (vs : List Vc.V), v0 = .slice a vs.length cap ∧ vs.length ≤ cap ∧ Short vs ∧ SV W a vs := by
  obtain ⟨a, cap, vs, h1, h2, h3, h4, _⟩ := open_vers_l hv h
  exact ⟨a, cap, vs, h1, h2, h3, h4⟩
set_option maxRecDepth 100000 in
theorem open_versd {r0 : Reach} {base : Nat} {v0 : Value} {d0 : DataW H} {p0 : List MemPlace}
    (hv : Value.okWide Tryz.prog W r0 base 31 v0) (h : DataW.Trod enc Tryz.prog W 0 (fun _ => true) true 31 v0 d0 p0) :
    ∃ (a : Option Addr) (cap : Nat) (vs : List Vc.V), v0 = .slice a vs.length cap ∧ vs.length ≤ cap ∧ Short vs ∧ (∀ v ∈ vs, v.data.size ≤ 9223372036854775807) ∧ SV W a vs := by
  obtain ⟨a, cap, vs, h1, h2, h3, h4, _, h5⟩ := open_vers_l hv h
  exact ⟨a, cap, vs, h1, h2, h3, h5, h4⟩
set_option maxRecDepth 100000 in
theorem open_strb {r0 : Reach} {base : Nat} {v0 : Value} {d0 : DataW H} {p0 : List MemPlace}
    (hv : Value.okWide Tryz.prog W r0 base 9 v0) (h : DataW.Trod enc Tryz.prog W 0 (fun _ => true) true 9 v0 d0 p0) : ∃ s : ByteArray, v0 = .string s ∧ s.size ≤ 9223372036854775807 := by
  obtain ⟨s, h1, _, _, h2⟩ := Go.ChangeMaps.open_string Tryz.underlying9 hv h
  unfold maxLen at h2
  exact ⟨s, h1, by simpa using h2⟩
set_option maxRecDepth 100000 in
theorem open_str0 {r0 : Reach} {base : Nat} {v0 : Value} {d0 : DataW H} {p0 : List MemPlace}
    (hv : Value.okWide Tryz.prog W r0 base 9 v0) (h : DataW.Trod enc Tryz.prog W 0 (fun _ => true) true 9 v0 d0 p0) : ∃ s : ByteArray, v0 = .string s := by
  obtain ⟨s, h1, _⟩ := Go.ChangeMaps.open_string Tryz.underlying9 hv h
  exact ⟨s, h1⟩
end
end Go.Proofs.YtebjlmnhpfoglaaGreatDoor

/-
  Entries in memory; entries that come in, opened. Conditions: those that each theorem names.
-/

namespace Go.Proofs.YtebjlmnhpfoglaaGreatDoor
open Go.ChangeShapes Go.WideShapes Go.ChangeAt Go.RowKit Go.Deep

def EnOk (x : En) : Prop := x.1.size ≤ 9223372036854775807 ∧ Short x.2 ∧ ∀ v ∈ x.2, v.data.size ≤ 9223372036854775807

section
variable {H : Type} {enc : TypeId × Value → H} {W : World}
theorem cellsE32 : Tryz.prog.cellsOf 31 = 1 := by kernel_rfl
theorem cellsE56 : Tryz.prog.cellsOf 64 = 5 := by kernel_rfl
theorem cellsE34 : Tryz.prog.cellsOf 33 = 2 := by kernel_rfl
set_option maxRecDepth 100000 in
theorem vers_of_trod {fuel : Nat} {v : Value} {x : DataW H × List MemPlace} (hf : DataW.trod enc Tryz.prog W 0 (fun _ => true) true fuel 31 [v] = some x) :
    ∃ (a : Option Addr) (cap : Nat) (vs : List Vc.V), v = .slice a vs.length cap ∧ vs.length ≤ cap ∧ Short vs ∧ (∀ v ∈ vs, v.data.size ≤ 9223372036854775807) ∧ SV W a vs := by
  rcases open_slice Tryz.underlying31 hf with ⟨hcs, _⟩ | ⟨a, len, cap, m, n, D, Pl, hcs, _, hl, _, hmm, hx0, hall⟩
  · simp at hcs
    exact ⟨none, 0, [], hcs, Nat.le_refl _, fun _ h => (by cases h), fun _ h => (by cases h), SV.none _ _⟩
  · simp at hcs
    simp only [if_true] at hmm
    obtain ⟨b, off, spot⟩ := a
    have each : ∀ i, i < len → ∃ q : Vc.V × Option Addr × Nat, (∀ j u, (verL q.1 q.2.1 q.2.2)[j]? = some u → W.cell? ((⟨b, off, spot⟩ : Addr).add (i * 5 + j)) = some u) ∧ q.1.past.length ≤ q.2.2 ∧ q.1.past.length ≤ 9223372036854775807 ∧ Sl W q.2.1 q.1.past ∧ q.1.data.size ≤ 9223372036854775807 := by
      intro i hi
      obtain ⟨cs', h1, h2⟩ := hall i (by omega)
      rw [cellsE56] at h1
      obtain ⟨_, hlen, hcell⟩ := World.cells?_some h1
      obtain ⟨v, r, c, e, g1, g2, g3, _, g10⟩ := ver_of_trod h2
      refine ⟨(v, r, c), fun j u hu => ?_, g1, g2, g3, g10⟩
      have hj : j < 5 := (List.getElem?_eq_some_iff.1 hu).1
      have hc := hcell j (by omega)
      rw [add_add] at hc
      rw [hc, e]
      exact hu
    haveI : Inhabited Vc.V := ⟨zeroV⟩
    obtain ⟨q, hq⟩ := choose_lt each
    have hbl : ((List.range len).map fun i => (q i).1).length = len := by simp
    refine ⟨some ⟨b, off, spot⟩, cap, (List.range len).map fun i => (q i).1, by rw [hbl]; exact hcs, by omega, fun v hv' => ?_, fun v hv' => ?_, fun h0 => ?_⟩
    · obtain ⟨i, hi, rfl⟩ := List.mem_map.1 hv'
      exact (hq i (List.mem_range.1 hi)).2.2.1
    · obtain ⟨i, hi, rfl⟩ := List.mem_map.1 hv'
      exact (hq i (List.mem_range.1 hi)).2.2.2.2
    · rw [hbl] at h0
      have hspot : spot = none := by simpa [Addr.add] using World.cell?_spot ((hq 0 h0).1 0 _ rfl)
      subst hspot
      have hb : b < W.heap.size := by have := block_lt_of_cell ((hq 0 h0).1 0 _ rfl); rw [add_plain] at this; exact this
      refine ⟨b, off, rfl, hb, fun j v hj => ?_⟩
      have hjl := (List.getElem?_eq_some_iff.1 hj).1
      rw [hbl] at hjl
      simp [hjl] at hj
      subst hj
      obtain ⟨hc, h1, _, h3, _⟩ := hq j hjl
      have cc : ∀ i u, (verL (q j).1 (q j).2.1 (q j).2.2)[i]? = some u → W.cell? ⟨b, off + j * 5 + i, none⟩ = some u := fun i u hu => by
        have := hc i u hu
        rw [add_plain, ← Nat.add_assoc] at this
        exact this
      exact ⟨(q j).2.1, (q j).2.2, cc 0 _ rfl, cc 1 _ rfl, cc 2 _ rfl, cc 3 _ rfl, cc 4 _ rfl, h1, h3⟩
set_option maxRecDepth 100000 in
theorem ent_of_trod {fuel : Nat} {cs : List Value} {x : DataW H × List MemPlace} (hf : DataW.trod enc Tryz.prog W 0 (fun _ => true) true fuel 33 cs = some x) :
    ∃ (y : En) (r : Option Addr) (c : Nat), cs = entL y r c ∧ y.2.length ≤ c ∧ EnOk y ∧ SV W r y.2 := by
  obtain ⟨xs, n, _, _, hlen, hxl, hall⟩ := DataW.trod_struct Tryz.underlying33 hf
  rw [cellsE34] at hlen
  match cs, hlen with
  | [c0, c1], _ =>
    match xs, hxl with
    | [y0, y1], _ =>
      have g0 := hall 0 _ rfl
      have g1 := hall 1 _ rfl
      simp [cells9, cellsE32] at g0 g1
      obtain ⟨s, e0, _, w0⟩ := DataW.trod_string Tryz.underlying9 g0
      obtain ⟨a, cap, vs, e1, h1, h2, h3, h4⟩ := vers_of_trod g1
      simp only [List.cons.injEq, and_true] at e0
      exact ⟨(s, vs), a, cap, by rw [e0, e1]; rfl, h1, ⟨by unfold maxLen at w0; simpa using w0, h2, h3⟩, h4⟩
set_option maxRecDepth 100000 in
theorem open_entries {r0 : Reach} {base : Nat} {v0 : Value} {d0 : DataW H} {p0 : List MemPlace}
    (hv : Value.okWide Tryz.prog W r0 base 22 v0) (h : DataW.Trod enc Tryz.prog W 0 (fun _ => true) true 22 v0 d0 p0) :
    ∃ (a : Option Addr) (cap : Nat) (es : List En), v0 = .slice a es.length cap ∧ es.length ≤ cap ∧ es.length ≤ 9223372036854775807 ∧ (∀ x ∈ es, EnOk x) ∧ EL W a es := by
  obtain ⟨a0, len0, cap0, rfl⟩ := okWide_slice Tryz.underlying22 hv
  obtain ⟨fuel, hf⟩ := h
  rcases open_slice Tryz.underlying22 hf with ⟨hcs, _⟩ | ⟨a, len, cap, m, n, D, Pl, hcs, _, hl, hmx, hmm, hx0, hall⟩
  · simp [Value.cells] at hcs
    obtain ⟨rfl, rfl, rfl⟩ := hcs
    exact ⟨none, 0, [], rfl, Nat.le_refl _, by simp, fun _ h => (by cases h), fun h => absurd h (Nat.lt_irrefl _)⟩
  · simp [Value.cells] at hcs
    obtain ⟨rfl, rfl, rfl⟩ := hcs
    simp only [if_true] at hmm
    obtain ⟨b, off, spot⟩ := a
    have each : ∀ i, i < len0 → ∃ q : En × Option Addr × Nat, (∀ j u, (entL q.1 q.2.1 q.2.2)[j]? = some u → W.cell? ((⟨b, off, spot⟩ : Addr).add (i * 2 + j)) = some u) ∧ q.1.2.length ≤ q.2.2 ∧ EnOk q.1 ∧ SV W q.2.1 q.1.2 := by
      intro i hi
      obtain ⟨cs', h1, h2⟩ := hall i (by omega)
      rw [cellsE34] at h1
      obtain ⟨_, hlen, hcell⟩ := World.cells?_some h1
      obtain ⟨y, r, c, e, g1, g2, g3⟩ := ent_of_trod h2
      refine ⟨(y, r, c), fun j u hu => ?_, g1, g2, g3⟩
      have hj : j < 2 := (List.getElem?_eq_some_iff.1 hu).1
      have hc := hcell j (by omega)
      rw [add_add] at hc
      rw [hc, e]
      exact hu
    haveI : Inhabited En := ⟨(⟨#[]⟩, [])⟩
    obtain ⟨q, hq⟩ := choose_lt each
    have hbl : ((List.range len0).map fun i => (q i).1).length = len0 := by simp
    refine ⟨some ⟨b, off, spot⟩, cap0, (List.range len0).map fun i => (q i).1, by rw [hbl], by omega, by unfold maxLen at hmx; omega, fun v hv' => ?_, fun h0 => ?_⟩
    · obtain ⟨i, hi, rfl⟩ := List.mem_map.1 hv'
      exact (hq i (List.mem_range.1 hi)).2.2.1
    · rw [hbl] at h0
      have hspot : spot = none := by simpa [Addr.add] using World.cell?_spot ((hq 0 h0).1 0 _ rfl)
      subst hspot
      have hb : b < W.heap.size := by have := block_lt_of_cell ((hq 0 h0).1 0 _ rfl); rw [add_plain] at this; exact this
      refine ⟨b, off, rfl, hb, fun j v hj => ?_⟩
      have hjl := (List.getElem?_eq_some_iff.1 hj).1
      rw [hbl] at hjl
      simp [hjl] at hj
      subst hj
      obtain ⟨hc, h1, _, h3⟩ := hq j hjl
      have cc : ∀ i u, (entL (q j).1 (q j).2.1 (q j).2.2)[i]? = some u → W.cell? ⟨b, off + j * 2 + i, none⟩ = some u := fun i u hu => by
        have := hc i u hu
        rw [add_plain, ← Nat.add_assoc] at this
        exact this
      exact ⟨(q j).2.1, (q j).2.2, cc 0 _ rfl, cc 1 _ rfl, h1, h3⟩
end
end Go.Proofs.YtebjlmnhpfoglaaGreatDoor

/-
  Parts of a slice of entries; entries appended to a row of the call's own; a leaf turned in such a row. Conditions: those that each theorem names.
-/

namespace Go.Proofs.YtebjlmnhpfoglaaGreatDoor
open Go.RowKit

theorem EL.take {W : World} {a : Option Addr} {es : List En} (h : EL W a es) (k : Nat) : EL W a (es.take k) := fun h0 => by
  obtain ⟨g, o, e, hg, hc⟩ := h (by rw [List.length_take] at h0; omega)
  refine ⟨g, o, e, hg, fun j d hj => ?_⟩
  have hjk : j < k := by
    have := (List.getElem?_eq_some_iff.1 hj).1
    rw [List.length_take] at this
    omega
  rw [List.getElem?_take_of_lt hjk] at hj
  exact hc j d hj
theorem EL.drop {W : World} {g o : Nat} {es : List En} (h : EL W (some ⟨g, o, Option.none⟩) es) (k : Nat) : EL W (some ⟨g, o + k * 2, Option.none⟩) (es.drop k) := fun h0 => by
  obtain ⟨g', o', e, hg, hc⟩ := h (by rw [List.length_drop] at h0; omega)
  cases e
  refine ⟨g, o + k * 2, rfl, hg, fun j d hj => ?_⟩
  rw [List.getElem?_drop] at hj
  have := hc (k + j) d hj
  rw [show o + k * 2 + j * 2 = o + (k + j) * 2 by omega]
  exact this
/-- 's[:k]' and 's[k:]'. -/
theorem sliceE_to (a : Option Addr) (n cap k : Nat) (hk : k ≤ n) (hc : n ≤ cap) :
    (∀ W, (Instr.slice 22 (.slice a n cap) none (some (.int .i64 (k : Int))) none).run Tryz.prog W = .ok (.slice a k cap) W) := by
  intro W
  have hk2 : k ≤ cap := by omega
  by_cases h0 : cap = 0
  · go_simp
    intro h
    omega
  · go_simp
theorem sliceE_from (a : Option Addr) (es : List En) (n cap k : Nat) (hn : es.length = n) (hk : k ≤ n) (hc : n ≤ cap) :
    ∃ A c, (∀ W, (Instr.slice 22 (.slice a n cap) (some (.int .i64 (k : Int))) none none).run Tryz.prog W = .ok (.slice A (n - k) c) W) ∧ n - k ≤ c ∧ (∀ W, EL W a es → EL W A (es.drop k)) := by
  have e : (es.drop k).length = n - k := by rw [List.length_drop, hn]
  by_cases hc0 : cap = k
  · refine ⟨a, cap - k, fun W => by go_simp, by omega, fun W h h0 => ?_⟩
    rw [e] at h0
    omega
  · cases a with
    | none =>
      refine ⟨none, cap - k, fun W => by go_simp, by omega, fun W h h0 => ?_⟩
      rw [e] at h0
      obtain ⟨g, o, e, _⟩ := h (by omega)
      cases e
    | some ad =>
      refine ⟨some (ad.add (k * 2)), cap - k, fun W => by go_simp, by omega, fun W h h0 => ?_⟩
      obtain ⟨g, o, e', _⟩ := id h (by rw [e] at h0; omega)
      injection e' with e'
      subst e'
      have h2 := h.drop k
      rw [show (⟨g, o, Option.none⟩ : Addr).add (k * 2) = ⟨g, o + k * 2, Option.none⟩ by unfold Addr.add; split <;> simp_all]
      exact h2 h0

/-! Entries in memory, their leaves off a row's block. -/
def ELN (row : Option Nat) (W : World) (a : Option Addr) (es : List En) : Prop :=
  0 < es.length → ∃ g o, a = some ⟨g, o, none⟩ ∧ ∃ ps : List EP, ps.map (·.1) = es ∧ (∀ j u, (flatE ps)[j]? = some u → W.cell? ⟨g, o + j, none⟩ = some u) ∧ ∀ x ∈ ps, x.1.2.length ≤ x.2.2 ∧ SV W x.2.1 x.1.2 ∧ Prov (Off row) W x.2.1 x.1.2
theorem el_list {W : World} {g : Nat} : ∀ (es : List En) (o : Nat), (∀ (j : Nat) (x : En), es[j]? = some x → EAt W g (o + j * 2) x) → ∃ ps : List EP, ps.map (·.1) = es ∧ (∀ j u, (flatE ps)[j]? = some u → W.cell? ⟨g, o + j, none⟩ = some u) ∧ ∀ x ∈ ps, x.1.2.length ≤ x.2.2 ∧ SV W x.2.1 x.1.2
  | [], _, _ => ⟨[], rfl, fun j u h => by simp [flatE] at h, fun _ h => by cases h⟩
  | v :: vs, o, h => by
    obtain ⟨r, c, h0, h1, h5, h6⟩ := h 0 v rfl
    rw [Nat.zero_mul, Nat.add_zero] at h0 h1
    obtain ⟨ps, e1, e2, e3⟩ := el_list vs (o + 2) (fun j u hj => by
      have := h (j + 1) u (by simpa using hj)
      rw [show o + (j + 1) * 2 = o + 2 + j * 2 by omega] at this
      exact this)
    refine ⟨(v, r, c) :: ps, by rw [List.map_cons, e1], fun j u hu => ?_, fun x hx => ?_⟩
    · by_cases hj : j < 2
      · rw [flatE, List.getElem?_append_left (by simp [entL]; omega)] at hu
        rcases (show j = 0 ∨ j = 1 by omega) with rfl | rfl <;> (simp [entL] at hu; subst hu; assumption)
      · rw [flatE, List.getElem?_append_right (by simp [entL]; omega)] at hu
        have := e2 (j - 2) u (by rw [show (entL v r c).length = 2 from rfl] at hu; exact hu)
        rw [show o + 2 + (j - 2) = o + j by omega] at this
        exact this
    · rcases List.mem_cons.1 hx with rfl | hx
      · exact ⟨h5, h6⟩
      · exact e3 x hx
theorem EL.eln {W : World} {a : Option Addr} {es : List En} (h : EL W a es) {row : Option Nat} (hr : ∀ g, row = some g → W.heap.size ≤ g) {W' : World} (hb : Below W.heap.size W W') : ELN row W' a es := fun h0 => by
  obtain ⟨g, o, e, hg, hc⟩ := h h0
  obtain ⟨ps, e1, e2, e3⟩ := el_list es o hc
  refine ⟨g, o, e, ps, e1, fun j u hu => (hb.cell (p := ⟨g, o + j, Option.none⟩) hg).trans (e2 j u hu), fun x hx => ⟨(e3 x hx).1, ?_⟩⟩
  have hs := (e3 x hx).2
  exact ⟨hs.after hb, (hs.prov (O := Off row) fun g' hg' e' => by
    have := hr g' e'.symm
    have h3 : g' < W.heap.size := hg'
    omega).after hs hb⟩
theorem run_append_noneE {w : World} (base : Nat) (t ty e : TypeId) (i : TypeInfo) (size : Nat) (ht : Tryz.prog.underlying t = some (.slice e)) (hi : Tryz.prog.info? e = some i)
    (v : Value) (n : Nat) (xs : List Value) (hown : w.ownsRow base e size v n xs) (c : Nat) :
    (Builtin.append_ #[t, t] ty #[v, .slice none 0 c]).run Tryz.prog w = .ok v w := by
  rcases hown.2 with ⟨rfl, rfl⟩ | ⟨g, cap, cur, rfl, _, _, hnc, _⟩
  · simp [Builtin.append_, run_underlying ht, sizeOf, typeInfo, hi, Builtin.lenOf, Builtin.firstCells]
  · simp [Builtin.append_, run_underlying ht, sizeOf, typeInfo, hi, Builtin.lenOf, Builtin.firstCells, hnc, storeCells]
/-- Entries appended to a row of the call's own. -/
theorem append_el {w : World} {ops : Array Oper} {rest : List Oper} {o : Oper} {a : Act} {Q : Exit → Act → World → Prop} (hgd : o.guard = none) (s x : Operand)
    (ho : o.op = .call { callee := .builtin .append, args := #[s, x], argTypes := #[22, 22] }) (base : Nat) (v : Value) (es : List En) (hs : a.eval s = v) (hown : OE w base v es)
    (r : Option Addr) (m c : Nat) (ys : List En) (hm : ys.length = m) (hx : a.eval x = .slice r m c) (hel : ELN v.ownBlock w r ys) (hn : es.length + ys.length ≤ 150000) (hbase : base ≤ w.heap.size)
    (h : ∀ v' w', OE w' base v' (es ++ ys) → Below base w w' → w.grownBy w' v.ownBlock → wpList Tryz.prog ops Q rest (a.put o.dst v') w') : wpList Tryz.prog ops Q (o :: rest) a w := by
  subst hm
  obtain ⟨i0, hi, hz0, hz1, hz2⟩ := info_parts infoEn
  obtain ⟨ps, e1, e2, e3⟩ := hown.is
  subst e1
  rw [List.length_map] at hn
  cases r with
  | none =>
    have hxs : ys = [] := by
      cases ys with
      | nil => rfl
      | cons d l => obtain ⟨g, o, e, _⟩ := hel (by simp); cases e
    subst hxs
    refine wpList_plain hgd fun K hK => ?_
    have hrun := run_append_noneE (w := w) base 22 o.type 33 i0 2 Tryz.underlying22 hi v ps.length (flatE ps) e2 c
    unfold Oper.wp
    simp only [List.length_nil] at hx
    simp [execOp, ho, resolve, invoke, builtin, hs, hx, hrun, Result.andThen]
    refine hK _ _ (h v w ?_ (Below.refl _ _) ⟨rfl, rfl, rfl, Nat.le_refl _, fun _ _ _ => rfl⟩)
    rw [List.append_nil]
    exact hown
  | some ad =>
    have hps : ∃ qs : List EP, qs.map (·.1) = ys ∧ (∀ j u, (flatE qs)[j]? = some u → w.cell? (ad.add j) = some u) ∧ ∀ x ∈ qs, x.1.2.length ≤ x.2.2 ∧ SV w x.2.1 x.1.2 ∧ Prov (Off v.ownBlock) w x.2.1 x.1.2 := by
      cases ys with
      | nil => exact ⟨[], rfl, fun j u hu => by simp [flatE] at hu, fun _ h => by cases h⟩
      | cons d l =>
        obtain ⟨g, o, e, qs, h1, h2, h3⟩ := hel (by simp)
        injection e with e
        subst e
        refine ⟨qs, h1, fun j u hu => ?_, h3⟩
        rw [show (⟨g, o, none⟩ : Addr).add j = ⟨g, o + j, none⟩ by unfold Addr.add; split <;> simp_all]
        exact h2 j u hu
    obtain ⟨qs, h1, h2, h3⟩ := hps
    subst h1
    rw [List.length_map] at hn hx
    refine wpList_append_own_at w hgd s x 22 ho base 33 i0 _ 2 40 Tryz.underlying22 hi hz0 hz1 hz2 rfl (by decide) v ps.length (flatE ps) hs e2 ad qs.length c (flatE qs) hx (flatE_len qs) h2 (flatE_one qs) (by unfold maxLen; omega) (by omega) hbase ?_
    intro v' w' g1 g2 _ g4
    have hO : ∀ g, g < w.heap.size → Off v.ownBlock g → Off v'.ownBlock g := fun g hg h1 => by
      rcases g4 with e | e
      · rw [e]; exact h1
      · rw [e]
        intro e2
        injection e2 with e2
        have : g = w.heap.size := e2
        omega
    refine h v' w' ⟨ps ++ qs, by rw [List.map_append], by rw [List.length_append, flatE_append]; exact g1, fun x hx => ?_⟩ (grown_below e2 g2 hbase) g2
    rcases List.mem_append.1 hx with hx | hx
    · exact ⟨(e3 x hx).1, sv_grown (e3 x hx).2.1 (e3 x hx).2.2 g2, prov_grown (e3 x hx).2.1 (e3 x hx).2.2 g2 hO⟩
    · exact ⟨(h3 x hx).1, sv_grown (h3 x hx).2.1 (h3 x hx).2.2 g2, prov_grown (h3 x hx).2.1 (h3 x hx).2.2 g2 hO⟩
theorem OE.lit (W : World) : OE (W.alloc (.cells #[] 33)) W.heap.size (.slice (some ⟨W.heap.size, 0, none⟩) 0 0) [] :=
  ⟨[], rfl, World.ownsRow_lit (base := W.heap.size) (e := 33) (size := 2) W #[] 0 (Nat.le_refl _) (by unfold maxLen; omega) rfl, fun _ h => by cases h⟩

/-! A row's cell turned. -/
theorem ownsRow_set {W : World} {base : Nat} {e : TypeId} {size g n cap k : Nat} {xs : List Value} {u : Value} (h : W.ownsRow base e size (.slice (some ⟨g, 0, none⟩) n cap) n xs) (hk : k < xs.length) :
    (W.setCell ⟨g, k, none⟩ u).ownsRow base e size (.slice (some ⟨g, 0, none⟩) n cap) n (xs.set k u) ∧ W.frozen? ⟨g, k, none⟩ = false ∧ (∃ old, W.cell? ⟨g, k, none⟩ = some old) ∧ base ≤ g ∧ g < W.heap.size := by
  rcases h.2 with ⟨e1, _⟩ | ⟨g', cap', cur, e1, e2, e3, e4, e5, e6, e7⟩
  · cases e1
  · simp only [Value.slice.injEq, Option.some.injEq, Addr.mk.injEq, and_true, true_and] at e1
    obtain ⟨rfl, rfl⟩ := e1
    have hkc : k < cur.size := by
      have h1 := congrArg List.length e7
      rw [List.length_take] at h1
      have h2 : cur.toList.length = cur.size := by simp
      omega
    refine ⟨⟨by rw [List.length_set]; exact h.1, .inr ⟨g, cap, cur.set k u hkc, rfl, e2, ?_, e4, e5, by simpa using e6, ?_⟩⟩, ?_, ?_, e2, (Array.getElem?_eq_some_iff.1 e3).1⟩
    · have := heap_setCell_same W g k cur e u e3
      simpa [Array.setIfInBounds, hkc] using this
    · rw [Array.toList_set, List.take_set, e7]
    · simp [World.frozen?, e3]
    · exact ⟨cur[k], by simp [World.cell?, e3, hkc]⟩
end Go.Proofs.YtebjlmnhpfoglaaGreatDoor
