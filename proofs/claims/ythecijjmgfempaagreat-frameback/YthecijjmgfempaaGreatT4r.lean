/-
  Rows that the taker takes.
-/
import Derived.Test.YthecijjmgfempaaGreatRw
import Derived.Deep.RegionLaw
import Derived.Deep.AppendLies
namespace Go.Proofs.YthecijjmgfempaaGreat
open Go.RowKit

def itR : Nat → St → List (List Vc.D) × St
  | 0, st => ([], st)
  | k + 1, st => ((itR k st).1 ++ [(rVec (itR k st).2).1], (rVec (itR k st).2).2)
def rRows (st : St) : List (List Vc.D) × St := itR (rNumber st 64).1.toNat (rNumber st 64).2
theorem itR_len : ∀ (k : Nat) (st : St), (itR k st).1.length = k
  | 0, _ => rfl
  | k + 1, st => by
    show ((itR k st).1 ++ [(rVec (itR k st).2).1]).length = k + 1
    rw [List.length_append, itR_len k st]; rfl
theorem itR_less : ∀ (k : Nat) (st : St), (itR k st).2.1.length ≤ st.1.length
  | 0, _ => Nat.le_refl _
  | k + 1, st => Nat.le_trans (rVec_less _) (itR_less k st)
theorem itR_few : ∀ (k : Nat) (st : St), ∀ ds ∈ (itR k st).1, ds.length ≤ 64
  | 0, _, ds, h => by cases h
  | k + 1, st, ds, h => by
    rcases List.mem_append.1 h with h1 | h1
    · exact itR_few k st ds h1
    · rw [List.mem_singleton.1 h1]
      exact rVec_len _

/-- A row of lists of the call's own: they lie no lower than it. -/
def OwQ (W : World) (base : Nat) (l : Value) (rows : List (List Vc.D)) : Prop :=
  ∃ ps : List RP, ps.map (·.1) = rows ∧ W.ownsRow base 25 1 l ps.length (flatR ps) ∧ ∀ x ∈ ps, x.1.length ≤ x.2.2 ∧ Sl W x.2.1 x.1 ∧ ApartR l.ownBlock x.2.1 x.1 ∧ Fresh base x.2.1 x.1
theorem OwQ.nil (W : World) (base : Nat) : OwQ W base (.slice none 0 0) [] := ⟨[], rfl, World.ownsRow_nil _ _ _ _, fun _ h => by cases h⟩
theorem OwQ.owr {W : World} {base : Nat} {l : Value} {rows : List (List Vc.D)} (h : OwQ W base l rows) : OwR W base l rows := by
  obtain ⟨ps, h1, h2, h3⟩ := h
  exact ⟨ps, h1, h2, fun x hx => ⟨(h3 x hx).1, (h3 x hx).2.1, (h3 x hx).2.2.1⟩⟩
theorem OwQ.after {W W' : World} {base : Nat} {l : Value} {rows : List (List Vc.D)} (h : OwQ W base l rows) (hb : Below W.heap.size W W') : OwQ W' base l rows := by
  obtain ⟨ps, h1, h2, h3⟩ := h
  exact ⟨ps, h1, own_after h2 hb, fun x hx => ⟨(h3 x hx).1, (h3 x hx).2.1.after hb, (h3 x hx).2.2⟩⟩
theorem OwQ.beside {W W' : World} {base q : Nat} {l : Value} {rows : List (List Vc.D)} (h : OwQ W base l rows) (hb : Beside (· = q) W W') (hq : q < base) : OwQ W' base l rows := by
  obtain ⟨ps, h1, h2, h3⟩ := h
  exact ⟨ps, h1, row_beside h2 hb hq, fun x hx => ⟨(h3 x hx).1, (h3 x hx).2.1.besideF hb (h3 x hx).2.2.2 hq, (h3 x hx).2.2⟩⟩
theorem OwQ.rl {W : World} {base : Nat} {l : Value} {rows : List (List Vc.D)} (h : OwQ W base l rows) : ∃ a cap, l = .slice a rows.length cap ∧ rows.length ≤ cap ∧ RL W a rows ∧ RProv (fun g => base ≤ g) W a rows := by
  obtain ⟨a, cap, e1, e2, e3⟩ := h.owr.rl
  refine ⟨a, cap, e1, e2, e3, fun h0 g o e => ?_⟩
  obtain ⟨ps, rfl, h2, h3⟩ := h
  rcases h2.2 with ⟨_, h9⟩ | ⟨g', cap', cur, e4, hg, hh, c1, c2, c3, c4⟩
  · rw [List.length_map] at h0
    omega
  · rw [e1] at e4
    injection e4 with e5 e6 e7
    rw [e] at e5
    injection e5 with e5
    injection e5 with e5 e8
    subst e5
    subst e8
    refine ⟨hg, fun j ds r c hj hc ad hr hd => ?_⟩
    rw [List.getElem?_map] at hj
    obtain ⟨x, hx, rfl⟩ := Option.map_eq_some_iff.1 hj
    have hjl : j < ps.length := (List.getElem?_eq_some_iff.1 hx).1
    have h6 : W.cell? ⟨g, 0 + j, none⟩ = some (.slice x.2.1 x.1.length x.2.2) := by
      rw [Nat.zero_add, cell_of_row W g _ cur 25 (0, 0) hh]
      have h5 : (cur.toList.take (ps.length * 1))[j]? = (flatR ps)[j]? := by rw [c4]
      rw [List.getElem?_take_of_lt (by omega), flatR, List.getElem?_map, hx] at h5
      simpa using h5
    rw [h6] at hc
    injection hc with hc
    injection hc with hc _ _
    subst hc
    exact (h3 x (List.mem_of_getElem? hx)).2.2.2 ad hr hd
theorem RL.beside {O : Nat → Prop} {W W' : World} {q : Nat} {a : Option Addr} {rows : List (List Vc.D)} (h : RL W a rows) (hp : RProv O W a rows) (hb : Beside (· = q) W W') (hq : ¬ O q) : RL W' a rows := fun h0 => by
  obtain ⟨g, o, rfl, hg, hc⟩ := h h0
  obtain ⟨h1, h2⟩ := hp h0 g o rfl
  refine ⟨g, o, rfl, Nat.lt_of_lt_of_le hg hb.size, fun j ds hj => ?_⟩
  obtain ⟨r, c, h3, h4, h5⟩ := hc j ds hj
  refine ⟨r, c, cell_beside (q := ⟨g, o + j, Option.none⟩) hb (fun e => hq (by have e2 : g = q := e; rw [← e2]; exact h1)) h3, h4, h5.beside hb fun ad hr hd e => hq (by rw [← e]; exact h2 j ds r c hj h3 ad hr hd)⟩
/-- A list appended to such a row, as a step of a region that draws its order. -/
theorem step_appendQ {w : World} {ops : Array Oper} {o : Oper} {a : Act} {K : Act → World → Prop} {Q : Exit → Act → World → Prop} {E : Prop} (hgd : o.guard = none) (s x : Operand)
    (ho : o.op = .call { callee := .builtin .append, args := #[s, x], argTypes := #[26, 26] }) (base : Nat) (v : Value) (rows : List (List Vc.D)) (hs : a.eval s = v) (hown : OwQ w base v rows)
    (g c : Nat) (hx : a.eval x = .slice (some ⟨g, 0, none⟩) 1 c) (r : Option Addr) (cc : Nat) (ds : List Vc.D) (hcell : w.cell? ⟨g, 0, none⟩ = some (.slice r ds.length cc)) (hcc : ds.length ≤ cc) (hsl : Sl w r ds) (hap : ApartR v.ownBlock r ds) (hfr : Fresh base r ds) (hn : rows.length ≤ 200000) (hbase : base ≤ w.heap.size)
    (h : ∀ b' d' w', OwQ w' base (.slice b' (rows ++ [ds]).length d') (rows ++ [ds]) → Below base w w' → K (a.put o.dst (.slice b' (rows ++ [ds]).length d')) w') :
    if Region.wanted o (yielded ops a.tmps) = true then Oper.wp Tryz.prog o a w K Q else E := by
  obtain ⟨i0, hi, hz0, hz1, hz2⟩ := info_parts info24
  obtain ⟨ps, e1, e2, e3⟩ := hown
  subst e1
  rw [List.length_map] at hn
  have keep : ∀ {w' : World} {v' : Value}, w.grownBy w' v.ownBlock → (v'.ownBlock = v.ownBlock ∨ v'.ownBlock = some w.heap.size) → ∀ {q : Option Addr} {ds : List Vc.D}, Sl w q ds → ApartR v.ownBlock q ds → Sl w' q ds ∧ ApartR v'.ownBlock q ds := by
    intro w' v' hg hv' q ds hq ha
    refine ⟨fun h0 => ?_, fun ad e h0 => ?_⟩
    · obtain ⟨g, o, e, hlt, hc⟩ := hq h0
      have hne := ha _ e h0
      have hk : ∀ k, w'.cell? ⟨g, k, none⟩ = w.cell? ⟨g, k, none⟩ := fun k => World.cell?_of_block (hg.block g hlt hne)
      refine ⟨g, o, e, Nat.lt_of_lt_of_le hlt hg.size, fun j d hj => ?_⟩
      rw [hk, hk]
      exact hc j d hj
    · rcases hv' with e' | e'
      · rw [e']; exact ha ad e h0
      · rw [e']
        obtain ⟨g, o, e2, hlt, _⟩ := hq h0
        rw [e] at e2
        injection e2 with e2
        subst e2
        intro h
        injection h with h
        have : g = w.heap.size := h
        omega
  refine step_append_lies w hgd s x 26 ho base 25 i0 _ 1 24 Tryz.underlying26 hi hz0 hz1 hz2 rfl (by decide) v ps.length (flatR ps) hs e2 ⟨g, 0, none⟩ 1 c [.slice r ds.length cc] hx rfl ?_ (by simp [Value.oneCell']) (by decide) (by unfold maxLen; omega) (by omega) hbase w.heap.size rfl ?_
  · intro j u hu
    obtain ⟨rfl, rfl⟩ : j = 0 ∧ u = .slice r ds.length cc := by
      cases j with
      | zero => simp at hu; exact ⟨rfl, hu.symm⟩
      | succ j => simp at hu
    rw [show (⟨g, 0, none⟩ : Addr).add 0 = ⟨g, 0, none⟩ by unfold Addr.add; split <;> simp_all]
    exact hcell
  · intro g' cap w' g1 g2 g4 _
    have hl : (ps.map (·.1) ++ [ds]).length = ps.length + 1 := by simp
    have hv' : (Value.slice (some ⟨g', 0, none⟩) (ps.length + 1) cap).ownBlock = v.ownBlock ∨ (Value.slice (some ⟨g', 0, none⟩) (ps.length + 1) cap).ownBlock = some w.heap.size := by
      rcases g4 with g4 | g4
      · exact Or.inl g4.symm
      · exact Or.inr (by rw [g4]; rfl)
    have h9 := h (some ⟨g', 0, none⟩) cap w' ?_ (grown_below e2 g2 hbase)
    · rw [hl] at h9
      exact h9
    · rw [hl]
      refine ⟨ps ++ [(ds, r, cc)], by rw [List.map_append]; rfl, by rw [List.length_append]; simpa [flatR] using g1, fun x hx => ?_⟩
      rcases List.mem_append.1 hx with hx | hx
      · have hk := keep g2 hv' (e3 x hx).2.1 (e3 x hx).2.2.1
        exact ⟨(e3 x hx).1, hk.1, hk.2, (e3 x hx).2.2.2⟩
      · rw [List.mem_singleton.1 hx]
        have hk := keep g2 hv' hsl hap
        exact ⟨hcc, hk.1, hk.2, hfr⟩

theorem RProv.weak {O O' : Nat → Prop} {W : World} {a : Option Addr} {rows : List (List Vc.D)} (h : RProv O W a rows) (ho : ∀ g, O g → O' g) : RProv O' W a rows := fun h0 g o e => ⟨ho _ (h h0 g o e).1, fun j ds r c hj hc ad hr hd => ho _ ((h h0 g o e).2 j ds r c hj hc ad hr hd)⟩
theorem TS.of {B q : Nat} {w w1 W : World} {st : St} {m : Msg} {a b : Option Addr} {c d : Nat} (hb : Below w.heap.size w w1) (h : TS B q w1 st m a c b d W) : TS B q w st m a c b d W := ⟨h.row, h.doc, (beside_of hb).trans h.keep⟩
def TRows (B q : Nat) (w : World) (x : List (List Vc.D) × St) (m : Msg) (a : Option Addr) (c : Nat) (e : Ending) (w' : World) : Prop :=
  e = .returned (.tuple #[]) ∧ ∃ b' d', TS B q w x.2 { m with rows := x.1 } a c b' d' w' ∧ x.1.length ≤ d' ∧ RL w' b' x.1 ∧ RProv (fun g => w.heap.size ≤ g) w' b' x.1
section
variable {w : World} {B q : Nat} {st : St} {m : Msg} {a : Option Addr} {c : Nat}
set_option maxRecDepth 100000 in
set_option maxHeartbeats 1000000 in
theorem trows_any (hr : VRow w B 28 (mL m a c none 0)) (hm : m.rows = []) (h : Doc w q 82 st) (hs : st.1.length ≤ 50000000) (hne : B ≠ q) (hrt : m.root.length = 32) :
    Calls Tryz.prog 124 #[tkV q, .pointer (some ⟨B, 39, none⟩)] w (TRows B q w (rRows st) m a c) := by
  have HB := hide (below_alloc' (w := w) (.cells #[.pointer (some ⟨q, 0, none⟩)] 89))
  have x0 := new_one w (.pointer (some ⟨q, 0, none⟩)) 89
  have X0 := hide x0
  have HQ := hide h.lt
  have HBL := hide hr.lt
  have HR := hide (hr.after (unhide HB))
  have KD := hide ((DS.start (h.after (unhide HB))).call fun hx => rnumber_d hx hs 64)
  have HNE := hide hne
  have HRT := hide hrt
  have HSZ := hide hs
  have HM := hide hm
  obtain ⟨N, hN, hN2⟩ := count_nat st 64
  have HN64 : Hid (N ≤ 64) := hide (by have := rCount st; omega)
  have HLE := hide (show (rNumber st 64).2.1.length ≤ st.1.length from rNumber_len st 64)
  have HE : Hid (rRows st = itR N (rNumber st 64).2) := hide (by unfold rRows; rw [hN2])
  rw [hN] at KD
  rw [unhide HE]
  generalize (rNumber st 64).2 = S1 at KD HLE ⊢
  clear h hs hr hne hrt hm hN hN2 HE
  go_enter Tryz.func124, Tryz.ntmps124
  go_wp2_with fail
  refine (unhide KD).mono ?_
  rintro e w1 ⟨rfl, hd⟩
  have HD := hide hd
  have HR1 := hide ((unhide HD).row (unhide HR) (unhide HNE))
  have HX1 : Hid (Beside (two q B) (w.alloc (.cells #[.pointer (some ⟨q, 0, none⟩)] 89)) w1) := hide (hd.2.weak fun _ h => Or.inl h)
  clear hd x0
  go_wp2_with fail
  have HWZ : Hid ((w.alloc (.cells #[.pointer (some ⟨q, 0, none⟩)] 89)).heap.size = w.heap.size + 1) := hide (by simp)
  go_loopw [7] (fun i wr => ∃ (j : Nat) (b' : Option Addr) (d' : Nat), j ≤ N ∧ i = .int .i64 j ∧ TS B q (w.alloc (.cells #[.pointer (some ⟨q, 0, none⟩)] 89)) (itR j S1).2 { m with rows := (itR j S1).1 } a c b' d' wr ∧ OwQ wr (w.heap.size + 1) (.slice b' (itR j S1).1.length d') (itR j S1).1) (fun i _ => N - (intOf i).toNat)
  case atStart => exact ⟨0, none, 0, Nat.zero_le _, rfl, ⟨(by have h9 := unhide HR1; have e : ({ m with rows := [] } : Msg) = m := (by rw [← unhide HM]); rw [← e] at h9; exact h9), (unhide HD).1, unhide HX1⟩, OwQ.nil _ _⟩
  case round =>
    obtain ⟨j, b', d', hj, rfl, hT, hO⟩ := hrel
    have HT := hide hT
    have HO := hide hO
    have z0 := cell_beside (q := ⟨w.heap.size, 0, none⟩) hT.keep (by rintro (e | e); have := unhide HQ; have e2 : w.heap.size = q := e; omega; have := unhide HBL; have e2 : w.heap.size = B := e; omega) (unhide X0)
    have z1 := m39 hT.row (unhide HRT)
    dsimp only at z1
    have f1 := hT.row.frozen 39
    have HWR : Hid (w.heap.size + 1 ≤ wr.heap.size) := hide (by have := hT.keep.size; have := unhide HWZ; omega)
    have HLJ := hide (itR_less j S1)
    have HLN := hide (itR_len j S1)
    clear hT hO
    by_cases hlt : j < N
    · have HST : Hid (itR (j + 1) S1 = ((itR j S1).1 ++ [(rVec (itR j S1).2).1], (rVec (itR j S1).2).2)) := hide rfl
      generalize itR j S1 = X at HT HO z1 HLJ HLN HST
      obtain ⟨xs, xe⟩ := X
      dsimp only at HT HO z1 HLJ HLN HST
      have KV := hide (takeVec_any (unhide HT).drew.doc (by have := unhide HLJ; have := unhide HLE; have := unhide HSZ; omega))
      generalize rVec xe = Y at KV HST
      obtain ⟨ys, ye⟩ := Y
      dsimp only at HST
      have HAP : Hid (∀ {r : Option Addr}, Fresh wr.heap.size r ys → ApartR (Value.slice b' xs.length d').ownBlock r ys) := hide fun h => (unhide HO).owr.apart h
      have HOD := hide ((unhide HO).after (below_drew (Below.refl _ _)))
      have HN2 : Hid (xs.length ≤ 200000) := hide (by have := unhide HLN; have := unhide HN64; omega)
      have HQ1 : Hid (q < w.heap.size + 1) := hide (by have := unhide HQ; omega)
      have HB1 : Hid (B < w.heap.size + 1) := hide (by have := unhide HBL; omega)
      go_wp2_with fail
      go_region_law (first
        | (refine step_appendQ rfl _ _ (by rfl) (w.heap.size + 1) _ xs (by rfl) ((unhide HO2).after (below_alloc' _)) _ 1 (by rfl) a2 c2 ys (new_one w2 _ 25) (unhide HC2) ((unhide HSL2).after (below_alloc' _)) (unhide HAP (unhide HFR2)) ((unhide HFR2).weak (unhide HWR)) (unhide HN2) (Nat.le_trans (unhide HW2) (below_alloc' _).size) ?_; intro b3 d3 w3 hown3 hb3; have HR3 := hide (((unhide HR2).alloc (.cells #[.slice a2 ys.length c2] 25)).below hb3 (unhide HB1)); have z3 := m39 (unhide HR3) (unhide HRT); dsimp only at z3; have f3 := (unhide HR3).frozen 39; have HO3 := hide hown3; have HD3 := hide (((unhide HD2).after (below_alloc' (.cells #[.slice a2 ys.length c2] 25))).1); have HB3 := hide hb3; clear hown3 hb3)
        | (go_wp2_with ((go_at_call 131; refine (unhide KV).mono ?_; rintro e w2 ⟨a2, c2, rfl, hc2, hsl2, hfr2, hd2⟩; dsimp only at hc2 hsl2 hfr2 hd2; have HC2 := hide hc2; have HSL2 := hide hsl2; have HFR2 := hide hfr2; have HD2 := hide hd2; have HR2 := hide ((unhide HT).drew.row.beside hd2.2 (unhide HNE)); have z2 := m39 (unhide HR2) (unhide HRT); dsimp only at z2; have z2a := m39 ((unhide HR2).alloc (.cells #[.slice a2 ys.length c2] 25)) (unhide HRT); dsimp only at z2a; have HO2 := hide ((unhide HOD).beside hd2.2 (unhide HQ1)); have HW2 : Hid (w.heap.size + 1 ≤ w2.heap.size) := hide (Nat.le_trans (unhide HWR) hd2.2.size); clear hc2 hsl2 hfr2 hd2))))
      all_goals
        have HDC := hide (VRow.below (unhide HD3) (unhide HB3) (unhide HQ1))
        have HK3 : Hid (Beside (two q B) (w.alloc (.cells #[.pointer (some ⟨q, 0, none⟩)] 89)) w3) := hide ((((unhide HT).drew.keep.trans ((unhide HD2).2.weak fun _ h => Or.inl h)).trans (beside_of (below_alloc' _))).under (unhide HB3) (by rw [unhide HWZ]; exact Nat.le_refl _))
        have hv3 := set39 (unhide HR3) (unhide HRT) (xs ++ [ys]) b3 d3
        rw [show (xs ++ [ys]).length = xs.length + 1 from by simp] at hv3
        have HV3 := hide hv3
        have hn64 := unhide HN64
        clear hv3
        clear z0 z1 z2 z2a f1
        go_wp2_with fail
        go_roundw
        case rel =>
          refine ⟨j + 1, b3, d3, by omega, by go_num, ?_, ?_⟩
          · rw [unhide HST]
            exact ⟨unhide HV3, (heap_setCell_other w3 ⟨B, 39, none⟩ q _ (unhide HNE).symm).trans (unhide HDC), (unhide HK3).trans ((beside_set B 39 w3 _).weak fun _ h => Or.inr h)⟩
          · rw [unhide HST]
            exact (unhide HO3).beside (beside_set B 39 w3 _) (unhide HB1)
        case measure => simp [intOf]; omega
    · obtain rfl : j = N := by omega
      obtain ⟨a3, d3, e3, h4, h5, h6⟩ := OwQ.rl (unhide HO)
      injection e3 with e4 e5 e6
      subst e4
      subst e6
      have H4 := hide h4
      have H5 := hide h5
      have H6 := hide h6
      clear h4 h5 h6 e5
      go_wp2_with fail
      go_end0
      exact ⟨rfl, b', d', (unhide HT).of (unhide HB), unhide H4, unhide H5, (unhide H6).weak fun g hg => by omega⟩
end
end Go.Proofs.YthecijjmgfempaaGreat
