/-
  What is learnt and what is merged: the document's.
-/
import Derived.Test.YtbgpdiinkkgieaaRefM
namespace Go.Proofs.Ytbgpdiinkkgieaa
open Go.RowKit

def learnL (rows : List (List Vc.D)) (peer : Int) (v : List Vc.D) : List (List Vc.D) × Int :=
  if mayE rows.length peer v ≠ 0 then (rows, mayE rows.length peer v) else (rows.set peer.toNat (Vc.joins (rows[peer.toNat]?.getD []) v), 0)
/-- Where rows lie. -/
def RProv (O : Nat → Prop) (W : World) (a : Option Addr) (rows : List (List Vc.D)) : Prop :=
  0 < rows.length → ∀ g o, a = some ⟨g, o, none⟩ → O g ∧ ∀ (j : Nat) (ds : List Vc.D) (r : Option Addr) (c : Nat), rows[j]? = some ds → W.cell? ⟨g, o + j, none⟩ = some (.slice r ds.length c) → ∀ ad, r = some ad → 0 < ds.length → O ad.block
theorem RProv.any (W : World) (a : Option Addr) (rows : List (List Vc.D)) : RProv (fun _ => True) W a rows := fun _ _ _ _ => ⟨trivial, fun _ _ _ _ _ _ _ _ _ => trivial⟩
theorem RProv.none (O : Nat → Prop) (W : World) (a : Option Addr) : RProv O W a [] := fun h => absurd h (Nat.lt_irrefl _)
theorem RProv.after {O : Nat → Prop} {W W' : World} {a : Option Addr} {rows : List (List Vc.D)} (h : RProv O W a rows) (hs : RL W a rows) (hb : Below W.heap.size W W') : RProv O W' a rows := fun h0 g o e => by
  obtain ⟨h1, h2⟩ := h h0 g o e
  obtain ⟨g', o', e', hg, _⟩ := hs h0
  rw [e] at e'
  injection e' with e'
  injection e' with e1 e2
  subst e1
  exact ⟨h1, fun j ds r c hj hc => h2 j ds r c hj (by rw [← hb.cell (p := ⟨g, o + j, Option.none⟩) hg]; exact hc)⟩
def MadeRE (O : Nat → Prop) (w : World) (x : List (List Vc.D) × Int) (e : Ending) (w' : World) : Prop := ∃ r cap, e = .returned (.tuple #[.slice r x.1.length cap, .int .i64 x.2]) ∧ x.1.length ≤ cap ∧ RL w' r x.1 ∧ RProv O w' r x.1 ∧ Below w.heap.size w w'
/-- Lists, and where they lie. -/
abbrev RP := List Vc.D × Option Addr × Nat
def flatR (l : List RP) : List Value := l.map fun x => .slice x.2.1 x.1.length x.2.2
theorem rl_list {O : Nat → Prop} {W : World} {g : Nat} : ∀ (rows : List (List Vc.D)) (o : Nat), (∀ (j : Nat) (ds : List Vc.D), rows[j]? = some ds → ∃ r c, W.cell? ⟨g, o + j, none⟩ = some (.slice r ds.length c) ∧ ds.length ≤ c ∧ Sl W r ds) → (∀ (j : Nat) (ds : List Vc.D) (r : Option Addr) (c : Nat), rows[j]? = some ds → W.cell? ⟨g, o + j, none⟩ = some (.slice r ds.length c) → ∀ ad, r = some ad → 0 < ds.length → O ad.block) → ∃ ps : List RP, ps.map (·.1) = rows ∧ (∀ j u, (flatR ps)[j]? = some u → W.cell? ⟨g, o + j, none⟩ = some u) ∧ ∀ x ∈ ps, x.1.length ≤ x.2.2 ∧ Sl W x.2.1 x.1 ∧ ∀ ad, x.2.1 = some ad → 0 < x.1.length → O ad.block
  | [], _, _, _ => ⟨[], rfl, fun j u h => by simp [flatR] at h, fun _ h => by cases h⟩
  | d :: rows, o, h, hp => by
    obtain ⟨r, c, h1, h2, h3⟩ := h 0 d rfl
    have h4 := hp 0 d r c rfl h1
    obtain ⟨ps, e1, e2, e3⟩ := rl_list rows (o + 1) (fun j ds hj => by
      have := h (j + 1) ds (by simpa using hj)
      rw [show o + (j + 1) = o + 1 + j by omega] at this
      exact this) (fun j ds r c hj hc => hp (j + 1) ds r c (by simpa using hj) (by rw [show o + (j + 1) = o + 1 + j by omega]; exact hc))
    refine ⟨(d, r, c) :: ps, by rw [List.map_cons, e1], fun j u hu => ?_, fun x hx => ?_⟩
    · cases j with
      | zero =>
        simp [flatR] at hu
        subst hu
        exact h1
      | succ j =>
        have := e2 j u (by simpa [flatR] using hu)
        rw [show o + 1 + j = o + (j + 1) by omega] at this
        exact this
    · rcases List.mem_cons.1 hx with rfl | hx
      · exact ⟨h2, h3, h4⟩
      · exact e3 x hx
theorem flatR_one (l : List RP) : ∀ v ∈ flatR l, v.oneCell' = true := fun v hv => by
  obtain ⟨x, _, rfl⟩ := List.mem_map.1 hv
  rfl
theorem info32 : (Try.prog.info? 32).map (fun i => (i.zero, i.size, i.bytes)) = some (some (.slice none 0 0), 1, 24) := by kernel_rfl
theorem set_at {α : Type} (l : List α) (p : Nat) (x y : α) (j : Nat) (h : (l.set p x)[j]? = some y) : (j = p ∧ y = x) ∨ (j ≠ p ∧ l[j]? = some y) := by
  by_cases e : j = p
  · subst e
    have hj := (List.getElem?_eq_some_iff.1 h).1
    rw [List.length_set] at hj
    rw [List.getElem?_set_self hj] at h
    injection h with h
    exact .inl ⟨rfl, h.symm⟩
  · rw [List.getElem?_set_ne (fun e' => e e'.symm)] at h
    exact .inr ⟨e, h⟩

set_option maxRecDepth 100000 in
set_option maxHeartbeats 1000000 in
theorem refLearn_any (O : Nat → Prop) (a b : Option Addr) (ca cb : Nat) (rows : List (List Vc.D)) (hf : FewR rows) (hca : rows.length ≤ ca) (peer : Int) (v : List Vc.D) (hv : v.length ≤ 9223372036854775807) (w : World) (hO : ∀ g, w.heap.size ≤ g → O g) (h : RL w a rows) (hpv : RProv O w a rows) (hb : Sl w b v) :
    Calls Try.prog 13 #[.slice a rows.length ca, .int .i64 peer, .slice b v.length cb] w (MadeRE O w (learnL rows peer v)) := by
  have HOO := hide hO
  have HPV := hide hpv
  obtain ⟨i0, hi, hz0, hz1, hz2⟩ := info_parts info32
  have KM := hide fun n W h => refMay_any n peer b cb v hv W h
  have HS := hide h
  have HV := hide hb
  have hl := hf.1
  obtain ⟨R, hR⟩ : ∃ R, learnL rows peer v = R := ⟨_, rfl⟩
  rw [hR]
  unfold learnL at hR
  by_cases hX : mayE rows.length peer v = 0
  · rw [if_neg (by simpa using hX)] at hR
    have hp : 0 ≤ peer ∧ peer < rows.length := by
      unfold mayE at hX
      by_cases h1 : peer < 0 ∨ (rows.length : Int) ≤ peer
      · rw [if_pos h1] at hX; cases hX
      · omega
    obtain ⟨p, rfl⟩ : ∃ p : Nat, peer = p := ⟨peer.toNat, by omega⟩
    have hpl : p < rows.length := by omega
    obtain ⟨d, hd⟩ : ∃ d, rows[p]? = some d := ⟨_, List.getElem?_eq_getElem hpl⟩
    rw [Int.toNat_natCast, hd] at hR
    obtain ⟨g, o, rfl, hg, hcell⟩ := h (by omega)
    obtain ⟨ps, e1, e2, e3⟩ := rl_list rows o hcell (hpv (by omega) g o rfl).2
    obtain ⟨r, c, x0, h5, h6⟩ := hcell p d hd
    have KJ := hide fun W h h' => refJoin_fresh r b c cb d v (hf.at hd) hv W h h'
    have KX := hide (unhide KM rows.length)
    rw [hX] at KX
    have HO := hide (World.ownsRow_lit (base := w.heap.size) (e := 32) (size := 1) w #[] 0 (Nat.le_refl _) (by unfold maxLen; omega) rfl)
    have HPL : Hid (ps.length = rows.length) := hide (by rw [← e1, List.length_map])
    have E1 := hide e1
    have E2 := hide e2
    have E3 := hide e3
    have HG := hide hg
    have X0 := hide x0
    have H6 := hide h6
    have HR : Hid (R = (rows.set p (Vc.joins d v), 0)) := hide hR.symm
    generalize Vc.joins d v = J at KJ HR
    clear hX hR hcell h5 h6 hd e1 e2 e3 x0 hg KM h hb hf hpv hO
    go_enter Try.func13, Try.ntmps13
    go_wp2_with fail
    refine (unhide KX _ (unhide HV)).mono ?_
    rintro e w1 ⟨rfl, hb1⟩
    have HB1 := hide hb1
    have HO := hide (World.ownsRow_lit (base := w1.heap.size) (e := 32) (size := 1) w1 #[] 0 (Nat.le_refl _) (by unfold maxLen; omega) rfl)
    have HBA : Hid (Below w.heap.size w (w1.alloc (.cells #[] 32))) := hide (hb1.alloc hb1.size _)
    have HC : Hid (∀ j u, (flatR ps)[j]? = some u → (w1.alloc (.cells #[] 32)).cell? ((⟨g, o, none⟩ : Addr).add j) = some u) := hide (fun j u hu => by
      rw [show (⟨g, o, none⟩ : Addr).add j = ⟨g, o + j, none⟩ by unfold Addr.add; split <;> simp_all]
      exact ((unhide HBA).cell (p := ⟨g, o + j, none⟩) (unhide HG)).trans (unhide E2 j u hu))
    clear hb1 KX
    go_wp2_with (at_builtin; refine wpList_append_own _ rfl _ _ 30 rfl w1.heap.size 32 i0 _ 1 24 Try.underlying30 hi hz0 hz1 hz2 rfl (by decide) _ 0 [] rfl (unhide HO) ⟨g, o, none⟩ ps.length ca (flatR ps) (by rw [unhide HPL]; rfl) (by simp [flatR]) (unhide HC) (flatR_one ps) (by have := unhide HPL; unfold maxLen; omega) (by have := unhide HPL; omega) (by simp) ?_; intro v' w2 hown' hgrow _; have HO2 := hide hown'; have HB2 := hide ((unhide HBA).trans ((grown_below (unhide HO) hgrow (by simp)).mono (unhide HB1).size)); clear hgrow hown'; have x0 := ((unhide HB2).cell (p := ⟨g, o + p, none⟩) (unhide HG)).trans (unhide X0))
    obtain ⟨g', cap', cur, rfl, hbg, hh, hcap', _, _, htk⟩ : ∃ g' cap' cur, v' = .slice (some ⟨g', 0, none⟩) (0 + ps.length) cap' ∧ w1.heap.size ≤ g' ∧ w2.heap[g']? = some (.cells cur 32 (0, 0)) ∧ 0 + ps.length ≤ cap' ∧ cap' ≤ maxLen ∧ cur.size = cap' * 1 ∧ cur.toList.take ((0 + ps.length) * 1) = [] ++ flatR ps := (unhide HO2).2.resolve_left (fun h => by have := unhide HPL; omega)
    rw [Nat.zero_add] at hcap' htk ⊢
    rw [Nat.mul_one, List.nil_append] at htk
    have HROW : Hid (∀ W, Below w2.heap.size w2 W → ∀ j u, (flatR ps)[j]? = some u → W.cell? ⟨g', j, none⟩ = some u) := hide (fun W hW j u hu => by
      have hj := (List.getElem?_eq_some_iff.1 hu).1
      rw [hW.cell (p := ⟨g', j, none⟩) (Array.getElem?_eq_some_iff.1 hh).1, cell_of_row w2 g' j cur 32 (0, 0) hh]
      rw [← htk, List.getElem?_take_of_lt (by simpa [flatR] using hj)] at hu
      simpa using hu)
    have HFZ : Hid (∀ W, Below w2.heap.size w2 W → W.frozen? ⟨g', p, none⟩ = false) := hide (fun W hW => frozen_of_row W g' p cur 32 ((hW.block g' (Array.getElem?_eq_some_iff.1 hh).1).trans hh))
    have HGL : Hid (w.heap.size ≤ g' ∧ g' < w2.heap.size) := hide ⟨Nat.le_trans (unhide HB1).size hbg, (Array.getElem?_eq_some_iff.1 hh).1⟩
    have HCP := hide hcap'
    have hpn : p < ps.length := by have := unhide HPL; omega
    have hplz : (p : Int) < (ps.length : Int) := by omega
    have KK := hide (unhide KJ w2 ((unhide H6).after (unhide HB2)) ((unhide HV).after (unhide HB2)))
    clear hh htk hbg hcap' HO HO2 HC KJ
    refine (unhide KK).mono ?_
    rintro e w3 ⟨r9, c9, rfl, hc9, hs9, hb9, hf9⟩
    have HB3 := hide hb9
    obtain ⟨x, hx⟩ : ∃ x, ps[p]? = some x := ⟨_, List.getElem?_eq_getElem hpn⟩
    have y0 := unhide HROW w3 hb9 p _ (by rw [flatR, List.getElem?_map, hx]; rfl)
    have f0 := unhide HFZ w3 hb9
    have HEND : Hid (RL (w3.setCell ⟨g', p, none⟩ (.slice r9 J.length c9)) (some ⟨g', 0, none⟩) (rows.set p J)) := hide (fun _ => by
      refine ⟨g', 0, rfl, by have := (unhide HGL).2; have := hb9.size; simp; omega, fun j ds hj => ?_⟩
      rcases set_at rows p J ds j hj with ⟨rfl, rfl⟩ | ⟨hne, hj2⟩
      · refine ⟨r9, c9, ?_, hc9, ?_⟩
        · rw [Nat.zero_add]; exact World.cell?_setCell_same' _ _ _ (by rw [y0]; rfl)
        · intro h0
          obtain ⟨gb, ob, eb, hgb, hcs⟩ := hs9 h0
          have hnb : gb ≠ g' := by have h7 := hf9 _ eb h0; have h8 := (unhide HGL).2; have : w2.heap.size ≤ gb := h7; omega
          refine ⟨gb, ob, eb, by simpa using hgb, fun i dd hi => ?_⟩
          have e : ∀ q, (w3.setCell ⟨g', j, none⟩ (.slice r9 ds.length c9)).cell? ⟨gb, q, none⟩ = w3.cell? ⟨gb, q, none⟩ := fun q => World.cell?_of_block (w := w3) (heap_setCell_other w3 ⟨g', j, none⟩ gb _ hnb)
          rw [e, e]
          exact hcs i dd hi
      · obtain ⟨y, hy⟩ : ∃ y, ps[j]? = some y := ⟨_, List.getElem?_eq_getElem (by have := (List.getElem?_eq_some_iff.1 hj2).1; have := unhide HPL; omega)⟩
        have hyd : y.1 = ds := by
          rw [← unhide E1, List.getElem?_map, hy] at hj2
          injection hj2
        subst hyd
        obtain ⟨k1, k2, _⟩ := unhide E3 y (List.mem_of_getElem? hy)
        refine ⟨y.2.1, y.2.2, ?_, k1, ?_⟩
        · rw [Nat.zero_add, World.cell?_setCell_other _ _ _ _ (by intro e; injection e with _ e; exact hne e.symm)]
          exact unhide HROW w3 hb9 j _ (by rw [flatR, List.getElem?_map, hy]; rfl)
        · exact k2.after (below_set (below_grow (unhide HB2) (Nat.le_refl _) hb9) (unhide HGL).1 p _))
    have HPE : Hid (RProv O (w3.setCell ⟨g', p, none⟩ (.slice r9 J.length c9)) (some ⟨g', 0, none⟩) (rows.set p J)) := hide (fun _ gg oo ee => by
      injection ee with ee
      injection ee with ee1 ee2
      subst ee1
      subst ee2
      refine ⟨unhide HOO _ (unhide HGL).1, fun j ds r c hj hc ad ead h0 => ?_⟩
      rw [Nat.zero_add] at hc
      rcases set_at rows p J ds j hj with ⟨rfl, rfl⟩ | ⟨hne, hj2⟩
      · rw [World.cell?_setCell_same' _ _ _ (by rw [y0]; rfl)] at hc
        injection hc with hc
        injection hc with hc _ _
        subst hc
        exact unhide HOO _ (Nat.le_trans (unhide HB2).size (hf9 ad ead h0))
      · obtain ⟨y, hy⟩ : ∃ y, ps[j]? = some y := ⟨_, List.getElem?_eq_getElem (by have := (List.getElem?_eq_some_iff.1 hj2).1; have := unhide HPL; omega)⟩
        have hyd : y.1 = ds := by
          rw [← unhide E1, List.getElem?_map, hy] at hj2
          injection hj2
        subst hyd
        rw [World.cell?_setCell_other _ _ _ _ (by intro e; injection e with _ e; exact hne e.symm), unhide HROW w3 hb9 j _ (by rw [flatR, List.getElem?_map, hy]; rfl)] at hc
        injection hc with hc
        injection hc with hc _ _
        subst hc
        exact (unhide E3 y (List.mem_of_getElem? hy)).2.2 ad ead h0)
    have HBE : Hid (Below w.heap.size w (w3.setCell ⟨g', p, none⟩ (.slice r9 J.length c9))) := hide (below_set (below_grow (unhide HB2) (Nat.le_refl _) hb9) (unhide HGL).1 p _)
    clear hb9 hs9 hf9 hc9 x0 hx
    go_wp2_with fail
    rw [unhide HR]
    go_ret2
    exact ⟨some ⟨g', 0, none⟩, cap', by rw [List.length_set, ← unhide HPL]; rfl, by rw [List.length_set, ← unhide HPL]; exact unhide HCP, unhide HEND, unhide HPE, unhide HBE⟩
  · rw [if_pos hX] at hR
    subst hR
    obtain ⟨X, hXX⟩ : ∃ X, mayE rows.length peer v = X := ⟨_, rfl⟩
    have KX := hide (unhide KM rows.length)
    rw [hXX] at KX hX ⊢
    have hXb : (X != 0) = true := bne_iff_ne.2 hX
    clear hXX hX h hb KM hf hpv hO
    go_enter Try.func13, Try.ntmps13
    go_wp2_with fail
    refine (unhide KX _ (unhide HV)).mono ?_
    rintro e w1 ⟨rfl, hb1⟩
    have HB := hide hb1
    have S1 := hide ((unhide HS).after hb1)
    have P1 := hide ((unhide HPV).after (unhide HS) hb1)
    clear hb1
    go_wp2_with fail
    go_ret2
    exact ⟨a, ca, rfl, hca, unhide S1, unhide P1, unhide HB⟩
end Go.Proofs.Ytbgpdiinkkgieaa
