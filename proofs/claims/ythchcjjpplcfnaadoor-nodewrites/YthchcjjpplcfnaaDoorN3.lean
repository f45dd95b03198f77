/-
  A node's bytes: the program's. Conditions: those that each theorem names.
-/
import Derived.Test.YthchcjjpplcfnaaDoorN2
import Derived.Test.YthchcjjpplcfnaaDoorR1
namespace Go.Proofs.YthchcjjpplcfnaaDoor
open Go.RowKit

theorem wNode_zero {n : Nd} (h : chkN n = 0) : wNode n = wKids (wNumber (wLeaf ([], 0) n.vs) n.ks.length) n.ks := by
  unfold wNode
  rw [h, fail_zero]
/-- How long a node's bytes may be on the way. -/
theorem wKids_part {n : Nd} (hn : Nok n) (h : chkN n = 0) (k : Nat) : (wKids (wNumber (wLeaf ([], 0) n.vs) n.ks.length) (n.ks.take k)).1.length ≤ 10000000 := by
  have h1 := wLeaf_len ([], 0) n.vs
  have h2 := wNumber_len (wLeaf ([], 0) n.vs) n.ks.length
  have h3 := wKids_len (n.ks.take k) (wNumber (wLeaf ([], 0) n.vs) n.ks.length) fun x hx => hn.digs x (List.mem_of_mem_take hx)
  have h4 := (chkN_zero h).2.1
  have h5 : (n.ks.take k).length ≤ n.ks.length := List.length_take_le' _ _
  have h6 : ([] : List UInt8).length = 0 := rfl
  simp only [h6] at h1
  omega

set_option maxRecDepth 100000 in
set_option maxHeartbeats 2000000 in
theorem bytesN_any (a : Option Addr) (c : Nat) (b : Option Addr) (d : Nat) (n : Nd) (hn : Nok n) (w : World) (h : NdAt w n a c b d) :
    Calls Tryd.prog 6 #[.agg (ndL n a c b d).toArray] w fun e w' => e = .returned (.tuple #[.string (str (bytesN n).1), .int .i64 (bytesN n).2]) ∧ Below w.heap.size w w' := by
  have HB0 := hide (below_alloc' (w := w) (.cells (ndL n a c b d).toArray 25))
  have HR0 := hide (VRow.new w 25 (ndL n a c b d))
  have hr0 := unhide HR0
  have HC := hide (checkN_any a c b d n hn (w.alloc (.cells (ndL n a c b d).toArray 25)) (h.after (unhide HB0)))
  have x0 := (unhide HR0).cell 0 _ rfl
  have x1 := (unhide HR0).cell 1 _ rfl
  have HH := hide h
  have HN := hide hn
  obtain ⟨E, hE⟩ : ∃ E, chkN n = E := ⟨_, rfl⟩
  rw [hE] at HC
  have HE := hide hE
  obtain ⟨X, hX⟩ : ∃ X, bytesN n = X := ⟨_, rfl⟩
  rw [hX]
  have HX := hide hX
  have HLT : Hid (w.heap.size < (w.alloc (.cells (ndL n a c b d).toArray 25)).heap.size) := hide (by simp)
  clear h hn hr0
  unfold ndL at HB0 HR0 HC x0 x1 HLT ⊢
  clear hE hX
  go_enter Tryd.func6, Tryd.ntmps6
  go_wp2_with fail
  refine (unhide HC).mono ?_
  rintro e w1 ⟨rfl, hb⟩
  have HB1 := hide (below_grow (unhide HB0) (Nat.le_refl _) hb)
  have HR1 := hide ((unhide HR0).after hb)
  have HLT1 : Hid (w.heap.size < w1.heap.size) := hide (Nat.lt_of_lt_of_le (unhide HLT) hb.size)
  clear hb x0 x1 HC
  by_cases hE : E = 0
  · subst hE
    have HBN : Hid (X = (told (wKids (wNumber (wLeaf ([], 0) n.vs) n.ks.length) n.ks), (wKids (wNumber (wLeaf ([], 0) n.vs) n.ks.length) n.ks).2)) := hide (by
      rw [← unhide HX]
      unfold bytesN
      rw [wNode_zero (unhide HE)])
    have HPART := hide (wKids_part (unhide HN) (unhide HE))
    have HL1 := hide (wLeaf_len ([], 0) n.vs)
    obtain ⟨own, hw, ho⟩ := wr_zero w1
    have HBA := hide (below_grow (unhide HB1) (Nat.le_refl _) (below_alloc' (w := w1) (.cells zeroW 40)))
    have HRA := hide ((unhide HR1).alloc (.cells zeroW 40))
    have HNO : Hid (¬ own w.heap.size) := hide fun hg => by have := ho _ hg; have := unhide HLT1; omega
    have HOW : Hid (∀ g, own g → w.heap.size ≤ g) := hide fun g hg => by have := ho g hg; have := unhide HLT1; omega
    have HWS := hide (WS.start hw)
    have y0 := (unhide HRA).cell 0 _ rfl
    clear hw ho
    go_wp2_with fail
    generalize w1.alloc (.cells _ 40) = wa at HBA HRA HWS y0 ⊢
    obtain ⟨WI, hWI⟩ : ∃ WI : Nat, w1.heap.size = WI := ⟨_, rfl⟩
    rw [hWI]
    rw [hWI] at HWS
    refine ((unhide HWS).call fun own1 hx ho1 => putLeaf_any hx (by simp) w (unhide HBA) (fun g hg => by rcases ho1 g hg with h1 | h1; exact unhide HOW g h1; have := (unhide HBA).size; omega) a c n.vs (unhide HN).few (unhide HH).sv).mono ?_
    rintro e w2 ⟨rfl, hs⟩
    have HS2 := hide hs
    have y1 := ((unhide HS2).row (unhide HRA) (unhide HNO)).cell 1 _ rfl
    clear hs y0
    go_wp2_with fail
    refine ((unhide HS2).call fun own1 hx _ => wnumber_any hx (by have := unhide HL1; have e0 : ([] : List UInt8).length = 0 := rfl; simp only [e0] at this; omega) n.ks.length).mono ?_
    obtain ⟨S1, hS1⟩ : ∃ S1, wNumber (wLeaf ([], 0) n.vs) n.ks.length = S1 := ⟨_, rfl⟩
    rw [hS1] at HBN HPART ⊢
    rintro e w3 ⟨rfl, hs⟩
    have HS3 := hide hs
    have z1 := ((unhide HS3).row (unhide HRA) (unhide HNO)).cell 1 _ rfl
    clear hs y1 hS1
    have hks := (unhide HN).kids
    go_wp2_with fail
    go_loopw [23] (fun i wr => ∃ k : Nat, k ≤ n.ks.length ∧ i = .int .i64 k ∧ WS own ⟨WI, 0, none⟩ wa (wKids S1 (n.ks.take k)) wr) (fun i _ => n.ks.length - (intOf i).toNat)
    case atStart => exact ⟨0, Nat.zero_le _, rfl, unhide HS3⟩
    case round =>
      obtain ⟨k, hk, rfl, hs⟩ := hrel
      have HR := hide hs
      clear hs z1
      by_cases hlt : k < n.ks.length
      · obtain ⟨x, hx⟩ : ∃ x, n.ks[k]? = some x := ⟨_, List.getElem?_eq_getElem hlt⟩
        have hm := List.mem_of_getElem? hx
        have HDX := hide ((unhide HN).digs x hm)
        have HLEN := hide (kL_len (unhide HDX))
        obtain ⟨g, o, rfl, hg, hc⟩ := ((unhide HH).sk.after ((unhide HBA).trans ((unhide HR).below (unhide HBA).size (unhide HOW)))) (by omega)
        have HC := hide (hc k x hx)
        have HST := hide (wKids_snoc S1 n.ks k x hx)
        have HPK := hide (unhide HPART k)
        have HTL := hide (wText_len (wKids S1 (n.ks.take k)) x.1).1
        obtain ⟨own9, _, hx9, ho9, _⟩ := unhide HR
        have HNK : Hid (¬ own9 wr.heap.size) := hide fun hg => absurd (wr_lt hx9 _ hg) (Nat.lt_irrefl _)
        have HX9 := hide hx9
        have HO9 := hide ho9
        clear hm hc hx hg hx9 ho9
        generalize wKids S1 (n.ks.take k) = st at HR HST HPK HTL HX9
        go_wp2_with (first
          | (refine load_kid (by rfl) (.tmp 25) (by rfl) g (o + k * 33) (by rfl) x (unhide HC) (unhide HDX) ?_)
          | (refine store_row (by rfl) 37 (.tmp 7) (.tmp 26) (by rfl) wr.heap.size (kL x) (by rfl) (by rfl) 37 (kL zeroK) (VRow.newAt rfl) 33 sizeK (unhide HLEN) rfl (kL_one x) ?_; intro w4 ho4 hr4; have HB4 := hide ((below_alloc' (w := wr) (.cells (kL zeroK).toArray 37)).trans (ho4.below (Nat.le_refl _))); have HS4 := hide (WS.start (wr_after (unhide HX9) (unhide HB4))); have HE4 := hide ((unhide HR).after (unhide HB4)).beside; have HR4 := hide hr4; have v0 := hr4.cell 0 _ rfl; clear ho4 hr4))
        refine ((unhide HS4).call fun own1 hx _ => wtext_any hx (by have := unhide HPK; omega) x.1).mono ?_
        rintro e w5 ⟨rfl, hs⟩
        have HS5 := hide hs
        have HRD := hide (range_dig (k := x) ((unhide HS5).row (unhide HR4) (unhide HNK)).range)
        rw [Nat.zero_add] at HRD
        clear hs v0
        go_wp2_with (first
          | (refine load_dig (by rfl) (.tmp 30) (by rfl) wr.heap.size 1 (by rfl) x.2 (unhide HRD) (unhide HDX) ?_))
        refine ((unhide HS5).call fun own1 hx _ => wdigest_any hx (by have := unhide HPK; have := unhide HTL; omega) x.2 (unhide HDX)).mono ?_
        rintro e w6 ⟨rfl, hs⟩
        have HS6 := hide hs
        clear hs
        go_wp2_with fail
        go_roundw
        case rel => exact ⟨k + 1, by omega, by go_num, by rw [unhide HST]; exact turned_trans (unhide HO9) (unhide HE4) (unhide HS6)⟩
        case measure => simp [intOf]; omega
      · obtain rfl : k = n.ks.length := by omega
        have HE2 := unhide HR
        rw [List.take_length] at HE2
        have HR2 := hide HE2
        clear HE2
        go_wp2_with fail
        obtain ⟨own9, _, hx9, _, _⟩ := unhide HR2
        refine (wdone_any hx9).mono ?_
        rintro e w5 ⟨rfl, hb⟩
        have HB5 := hide (below_grow ((unhide HBA).trans ((unhide HR2).below (unhide HBA).size (unhide HOW))) (by have := (unhide HBA).size; have := (unhide HR2).beside.size; omega) hb)
        clear hb hx9
        go_wp2_with fail
        go_ret2
        exact ⟨by rw [unhide HBN]; rfl, unhide HB5⟩
  · have HBN : Hid (X = ([], E)) := hide (by rw [← unhide HX, bytes_bad (n := n) (by rw [unhide HE]; exact hE), unhide HE])
    have hne : (E != 0) = true := bne_iff_ne.2 hE
    go_wp2_with fail
    go_ret2
    exact ⟨by rw [unhide HBN]; rfl, unhide HB1⟩
end Go.Proofs.YthchcjjpplcfnaaDoor
