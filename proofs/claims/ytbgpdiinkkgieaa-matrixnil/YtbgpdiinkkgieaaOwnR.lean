/-
  A row of lists of the call's own, and what is appended to it; the program's Rows.
-/
import Derived.Test.YtbgpdiinkkgieaaP1
namespace Go.Proofs.Ytbgpdiinkkgieaa
open Go.RowKit

/-- A list that lies apart from a row. -/
def ApartR (row : Option Nat) (r : Option Addr) (ds : List Vc.D) : Prop := ∀ ad, r = some ad → 0 < ds.length → some ad.block ≠ row
/-- A row of lists of the call's own. -/
structure OwR (W : World) (base : Nat) (l : Value) (rows : List (List Vc.D)) : Prop where
  is : ∃ ps : List RP, ps.map (·.1) = rows ∧ W.ownsRow base 32 1 l ps.length (flatR ps) ∧ ∀ x ∈ ps, x.1.length ≤ x.2.2 ∧ Sl W x.2.1 x.1 ∧ ApartR l.ownBlock x.2.1 x.1
theorem OwR.nil (W : World) (base : Nat) : OwR W base (.slice none 0 0) [] := ⟨[], rfl, World.ownsRow_nil _ _ _ _, fun _ h => by cases h⟩
theorem OwR.after {W W' : World} {base : Nat} {l : Value} {rows : List (List Vc.D)} (h : OwR W base l rows) (hb : Below W.heap.size W W') : OwR W' base l rows := by
  obtain ⟨ps, h1, h2, h3⟩ := h.is
  exact ⟨ps, h1, own_after h2 hb, fun x hx => ⟨(h3 x hx).1, (h3 x hx).2.1.after hb, (h3 x hx).2.2⟩⟩
theorem OwR.lt {W : World} {base : Nat} {l : Value} {rows : List (List Vc.D)} (h : OwR W base l rows) : ∀ g, l.ownBlock = some g → g < W.heap.size := fun g e => by
  obtain ⟨ps, _, h2, _⟩ := h.is
  rcases h2.2 with ⟨rfl, _⟩ | ⟨g', cap, cur, rfl, e2, e3, _⟩
  · cases e
  · injection e with e
    subst e
    exact (Array.getElem?_eq_some_iff.1 e3).1
/-- What was handed out later lies apart. -/
theorem OwR.apart {W : World} {base : Nat} {l : Value} {rows : List (List Vc.D)} (h : OwR W base l rows) {r : Option Addr} {ds : List Vc.D} (hf : Fresh W.heap.size r ds) : ApartR l.ownBlock r ds := fun ad e h0 e' => by
  have h1 := h.lt _ e'.symm
  have h2 := hf ad e h0
  omega
theorem OwR.rl {W : World} {base : Nat} {l : Value} {rows : List (List Vc.D)} (h : OwR W base l rows) : ∃ a cap, l = .slice a rows.length cap ∧ rows.length ≤ cap ∧ RL W a rows := by
  obtain ⟨ps, rfl, h2, h3⟩ := h.is
  rcases h2.2 with ⟨rfl, h0⟩ | ⟨g, cap, cur, rfl, hg, hh, c1, c2, c3, c4⟩
  · have : ps = [] := List.eq_nil_of_length_eq_zero h0
    subst this
    exact ⟨none, 0, rfl, Nat.le_refl _, RL.none _ _⟩
  · refine ⟨_, cap, by rw [List.length_map], by rw [List.length_map]; exact c1, fun _ => ⟨g, 0, rfl, (Array.getElem?_eq_some_iff.1 hh).1, fun j ds hj => ?_⟩⟩
    rw [List.getElem?_map] at hj
    obtain ⟨x, hx, rfl⟩ := Option.map_eq_some_iff.1 hj
    have hjl : j < ps.length := (List.getElem?_eq_some_iff.1 hx).1
    have hm := h3 x (List.mem_of_getElem? hx)
    refine ⟨x.2.1, x.2.2, ?_, hm.1, hm.2.1⟩
    rw [Nat.zero_add, cell_of_row W g _ cur 32 (0, 0) hh]
    have h5 : (cur.toList.take (ps.length * 1))[j]? = (flatR ps)[j]? := by rw [c4]
    rw [List.getElem?_take_of_lt (by omega), flatR, List.getElem?_map, hx] at h5
    simpa using h5
/-- A list appended to such a row. -/
theorem append_row {w : World} {ops : Array Oper} {rest : List Oper} {o : Oper} {a : Act} {Q : Exit → Act → World → Prop} (hgd : o.guard = none) (s x : Operand)
    (ho : o.op = .call { callee := .builtin .append, args := #[s, x], argTypes := #[30, 30] }) (base : Nat) (v : Value) (rows : List (List Vc.D)) (hs : a.eval s = v) (hown : OwR w base v rows)
    (g c : Nat) (hx : a.eval x = .slice (some ⟨g, 0, none⟩) 1 c) (r : Option Addr) (cc : Nat) (ds : List Vc.D) (hcell : w.cell? ⟨g, 0, none⟩ = some (.slice r ds.length cc)) (hcc : ds.length ≤ cc) (hsl : Sl w r ds) (hap : ApartR v.ownBlock r ds) (hn : rows.length ≤ 200000) (hbase : base ≤ w.heap.size)
    (h : ∀ v' w', OwR w' base v' (rows ++ [ds]) → Below base w w' → wpList Try.prog ops Q rest (a.put o.dst v') w') : wpList Try.prog ops Q (o :: rest) a w := by
  obtain ⟨i0, hi, hz0, hz1, hz2⟩ := info_parts info32
  obtain ⟨ps, e1, e2, e3⟩ := hown.is
  subst e1
  rw [List.length_map] at hn
  have keep : ∀ {w' : World} {v' : Value}, w.grownBy w' v.ownBlock → (v'.ownBlock = v.ownBlock ∨ v'.ownBlock = some w.heap.size) → ∀ {q : Option Addr} {ds : List Vc.D}, Sl w q ds → ApartR v.ownBlock q ds → Sl w' q ds ∧ ApartR v'.ownBlock q ds := by
    intro w' v' hg hv' q ds hq ha
    refine ⟨fun h0 => ?_, fun ad e h0 => ?_⟩
    · obtain ⟨g, o, e, hlt, hc⟩ := hq h0
      have hne := ha _ e h0
      have hk : ∀ k, w'.cell? ⟨g, k, none⟩ = w.cell? ⟨g, k, none⟩ := fun k => World.cell?_of_block (hg.block g hlt hne)
      refine ⟨g, o, e, Nat.lt_of_lt_of_le hlt hg.size, fun j d hj => ?_⟩
      rw [hk, hk]
      exact hc j d hj
    · rcases hv' with e' | e'
      · rw [e']; exact ha ad e h0
      · rw [e']
        obtain ⟨g, o, e2, hlt, _⟩ := hq h0
        rw [e] at e2
        injection e2 with e2
        subst e2
        intro h
        injection h with h
        have : g = w.heap.size := h
        omega
  refine wpList_append_own_at w hgd s x 30 ho base 32 i0 _ 1 24 Try.underlying30 hi hz0 hz1 hz2 rfl (by decide) v ps.length (flatR ps) hs e2 ⟨g, 0, none⟩ 1 c [.slice r ds.length cc] hx rfl ?_ (by simp [Value.oneCell']) (by unfold maxLen; omega) (by omega) hbase ?_
  · intro j u hu
    obtain ⟨rfl, rfl⟩ : j = 0 ∧ u = .slice r ds.length cc := by
      cases j with
      | zero => simp at hu; exact ⟨rfl, hu.symm⟩
      | succ j => simp at hu
    rw [show (⟨g, 0, none⟩ : Addr).add 0 = ⟨g, 0, none⟩ by unfold Addr.add; split <;> simp_all]
    exact hcell
  · intro v' w' g1 g2 _ g4
    refine h v' w' ⟨ps ++ [(ds, r, cc)], by rw [List.map_append]; rfl, by rw [List.length_append]; simpa [flatR] using g1, fun x hx => ?_⟩ (grown_below e2 g2 hbase)
    rcases List.mem_append.1 hx with hx | hx
    · exact ⟨(e3 x hx).1, keep g2 g4 (e3 x hx).2.1 (e3 x hx).2.2⟩
    · rw [List.mem_singleton.1 hx]
      exact ⟨hcc, keep g2 g4 hsl hap⟩
theorem take_next {rows : List (List Vc.D)} {k : Nat} (h : k < rows.length) : rows.take (k + 1) = rows.take k ++ [rows[k]?.getD []] := by
  rw [List.take_add_one, List.getElem?_eq_getElem h]
  rfl

set_option maxRecDepth 100000 in
set_option maxHeartbeats 1000000 in
theorem rows_any {w : World} {p : Addr} {rows : List (List Vc.D)} {own : Nat → Prop} (h : MatR w p rows own) :
    Calls Try.prog 15 #[.pointer (some p)] w fun e w' => ∃ r c, e = .returned (.slice r rows.length c) ∧ rows.length ≤ c ∧ RL w' r rows ∧ Below w.heap.size w w' := by
  have HM := hide h
  have KP := hide (peers_still h)
  have hlen : rows.length ≤ 64 := by obtain ⟨b, g, cap, ps, h⟩ := h; exact h.vecs.2.2
  clear h
  go_enter Try.func15, Try.ntmps15
  go_wp2_with fail
  refine (unhide KP).mono ?_
  rintro e w0 ⟨rfl, rfl⟩
  clear KP
  go_wp2_with fail
  go_loopw [3, 4, 7] (fun l _ i wr => ∃ (k : Nat), k ≤ rows.length ∧ i = .int .i64 k ∧ OwR wr w0.heap.size l (rows.take k) ∧ Below w0.heap.size w0 wr) (fun _ _ i _ => rows.length - (intOf i).toNat)
  case atStart => exact ⟨0, Nat.zero_le _, rfl, OwR.nil _ _, Below.refl _ _⟩
  case round =>
    obtain ⟨k, hk, rfl, hown, hb⟩ := hrel
    have HO := hide hown
    have HB := hide hb
    clear hown hb
    by_cases hlt : k < rows.length
    · have hkz : decide ((k : Int) < (rows.length : Int)) = true := decide_eq_true (by omega)
      have KR : Hid (Calls Try.prog 21 #[.pointer (some p), .int .i64 k] wr (MadeF wr (rows[k]?.getD []))) := hide (by
        obtain ⟨b, g, cap, ps, h⟩ := unhide HM
        exact row_fresh ⟨b, g, cap, ps, h.keep (unhide HB).size fun x hx => (unhide HB).block x (h.lt x hx)⟩ k hlt)
      have HT := hide (take_next hlt)
      have HTL : Hid ((rows.take k).length ≤ 200000) := hide (by rw [List.length_take]; omega)
      generalize rows[k]?.getD [] = D at KR HT
      generalize rows.take k = T at HO HT HTL
      go_wp2_with fail
      refine (unhide KR).mono ?_
      rintro e w1 ⟨r1, c1, rfl, hc1, hs1, hb1, hf1⟩
      have HBA := hide (below_alloc' (w := w1) (.cells #[.slice r1 D.length c1] 32))
      have HOA := hide (((unhide HO).after hb1).after (unhide HBA))
      have HAP := hide ((unhide HO).apart hf1)
      have HSA := hide (hs1.after (unhide HBA))
      have HC1 := hide hc1
      have HCE : Hid ((w1.alloc (.cells #[.slice r1 D.length c1] 32)).cell? ⟨w1.heap.size, 0, none⟩ = some (.slice r1 D.length c1)) := hide ((VRow.new w1 32 [.slice r1 D.length c1]).cell 0 _ rfl)
      have HB1 := hide (below_grow (below_grow (unhide HB) (Nat.le_refl _) hb1) (Nat.le_refl _) (unhide HBA))
      clear hb1 hs1 hf1 hc1 KR
      go_wp2_with (at_builtin; refine append_row (by rfl) _ _ (by rfl) w0.heap.size _ T (by rfl) (unhide HOA) w1.heap.size _ (by rfl) r1 c1 D (unhide HCE) (unhide HC1) (unhide HSA) (unhide HAP) (unhide HTL) (unhide HB1).size ?_; intro v' w2 hown' hb2; have HB2 := hide ((unhide HB1).trans hb2); have HO2 := hide hown'; clear hb2 hown')
      go_roundw
      case rel => exact ⟨k + 1, by omega, by go_num, by rw [unhide HT]; exact unhide HO2, unhide HB2⟩
      case measure => simp [intOf]; omega
    · obtain rfl : k = rows.length := by omega
      have hkz : decide ((rows.length : Int) < (rows.length : Int)) = false := decide_eq_false (by omega)
      rw [List.take_length] at HO
      obtain ⟨a, cap, rfl, hcap, hrl⟩ := (unhide HO).rl
      have HRL := hide hrl
      have HCAP := hide hcap
      clear hrl hcap
      go_wp2_with fail
      go_ret
      exact ⟨a, cap, rfl, unhide HCAP, unhide HRL, unhide HB⟩

set_option maxRecDepth 100000 in
set_option maxHeartbeats 400000 in
theorem nRows_any (w : World) : Calls Try.prog 15 #[.pointer none] w fun e w' => ∃ r c, e = .returned (.slice r 0 c) ∧ Below w.heap.size w w' := by
  go_enter Try.func15, Try.ntmps15
  go_wp2_with fail
  refine (nPeers_still _).mono ?_
  rintro e w0 ⟨rfl, rfl⟩
  go_wp2_with fail
  go_loopw [3, 4, 7] (fun l _ i wr => i = .int .i64 0 ∧ l = .slice none 0 0 ∧ wr = w0) (fun _ _ _ _ => 0)
  case atStart => exact ⟨rfl, rfl, rfl⟩
  case round =>
    obtain ⟨rfl, rfl, rfl⟩ := hrel
    go_wp2_with fail
    go_ret
    exact ⟨none, 0, rfl, Below.refl _ _⟩
end Go.Proofs.Ytbgpdiinkkgieaa
