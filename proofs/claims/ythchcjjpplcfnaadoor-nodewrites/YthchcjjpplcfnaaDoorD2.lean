/-
  A node's bytes: the document's. Conditions: those that each theorem names.
-/
import Derived.Test.YthchcjjpplcfnaaDoorD1
import Derived.Test.YthchcjjpplcfnaaDoorK4
import Derived.Test.YthchcjjpplcfnaaDoorN3
namespace Go.Proofs.YthchcjjpplcfnaaDoor
open Go.RowKit

theorem wNode_part {n : Nd} (hn : Nok n) (k : Nat) : (wKids (wNumber (wLeaf (fail ([], 0) (chkN n)) n.vs) n.ks.length) (n.ks.take k)).1.length ≤ 10000000 := by
  by_cases h : chkN n = 0
  · have := wKids_part hn h k
    rw [h, fail_zero]
    exact this
  · have e : fail ([], 0) (chkN n) = ([], chkN n) := rfl
    rw [e, wLeaf_stays h, wNumber_bad h, wKids_bad h]
    simp
set_option maxRecDepth 100000 in
set_option maxHeartbeats 4000000 in
theorem refBytesN_any (a : Option Addr) (c : Nat) (b : Option Addr) (d : Nat) (n : Nd) (hn : Nok n) (hdata : ∀ v ∈ n.vs, v.data.size ≤ 9223372036854775807) (w : World) (h : NdAt w n a c b d) :
    Calls Tryd.prog 7 #[.agg (ndL n a c b d).toArray] w fun e w' => e = .returned (.tuple #[.string (str (bytesN n).1), .int .i64 (bytesN n).2]) ∧ Below w.heap.size w w' := by
  have HB0 := hide (below_alloc' (w := w) (.cells (ndL n a c b d).toArray 25))
  have HR0 := hide (VRow.new w 25 (ndL n a c b d))
  have hsz : (w.alloc (.cells (ndL n a c b d).toArray 25)).heap.size = w.heap.size + 1 := by simp
  have hdoc := doc_zero (w.alloc (.cells (ndL n a c b d).toArray 25))
  rw [hsz] at hdoc
  have HB1 := hide ((unhide HB0).alloc (by simp) (.cells #[.string ⟨#[]⟩, .int .i64 0] 49))
  have HR1 := hide ((unhide HR0).alloc (.cells #[.string ⟨#[]⟩, .int .i64 0] 49))
  have HDOC := hide hdoc
  have HAT1 := hide (h.after (unhide HB1))
  have HN := hide hn
  have HDT := hide hdata
  have HSV := hide h.sv
  have hks := hn.kids
  obtain ⟨X, hX⟩ : ∃ X, bytesN n = X := ⟨_, rfl⟩
  have HX : Hid (X = (told (wNode n), (wNode n).2)) := hide (by rw [← hX]; rfl)
  have HWN : Hid (wNode n = wKids (wNumber (wLeaf (fail ([], 0) (chkN n)) n.vs) n.ks.length) n.ks) := hide rfl
  have HPART := hide (wNode_part hn)
  have HSK := hide h.sk
  rw [hX]
  clear h hn hdata hX hdoc hsz
  go_enter Tryd.func7, Tryd.ntmps7
  go_wp2_with (first
    | (refine load_node (by rfl) (.tmp 1) (by rfl) w.heap.size (by rfl) (ndL n a c b d) (unhide HR1) rfl ?_))
  generalize (w.alloc (.cells _ 25)).alloc (.cells _ 49) = w1 at HB1 HR1 HDOC HAT1 ⊢
  refine (refCheckN_any a c b d n (unhide HN) w1 (unhide HAT1)).mono ?_
  rintro e w2 ⟨rfl, hb⟩
  have HB2 := hide (below_grow (unhide HB1) (Nat.le_refl _) hb)
  have HR2 := hide ((unhide HR1).after hb)
  have HD2 := hide (DS.start ((unhide HDOC).after hb))
  have HSZ2 := hide (Nat.lt_of_lt_of_le (unhide HDOC).lt hb.size)
  clear hb
  obtain ⟨S0, hS0⟩ : ∃ S0, fail ([], 0) (chkN n) = S0 := ⟨_, rfl⟩
  rw [hS0] at HWN HPART
  have HS0 := hide hS0
  have HS0L : Hid (S0.1.length ≤ 10) := hide (by rw [← hS0, fail_len]; simp)
  generalize chkN n = E at HS0
  clear hS0
  go_wp2_with fail
  refine ((unhide HD2).call fun hx => refFailW_any (w.heap.size + 1) ([], 0) E _ hx).mono ?_
  rw [unhide HS0]
  rintro e w3 ⟨rfl, hd⟩
  have HD3 := hide hd
  have HR3 := hide ((unhide HR2).beside hd.2 (by omega))
  have x0 : w3.cell? ⟨w.heap.size, 0, none⟩ = some (.slice a n.vs.length c) := (unhide HR3).cell 0 _ rfl
  have HBW3 := hide ((unhide HB2).trans (hd.below (unhide HB2).size (by omega)))
  clear hd
  have HLL := hide (wLeaf_len S0 n.vs)
  go_wp2_with fail
  refine ((unhide HD3).call fun hx => refPutLeaf_any hx (by have := unhide HS0L; omega) w (unhide HBW3) (by omega) a c n.vs (unhide HN).few (unhide HDT) (unhide HSV)).mono ?_
  rintro e w4 ⟨rfl, hd⟩
  have HD4 := hide hd
  have HR4 := hide ((unhide HR2).beside hd.2 (by omega))
  have x1 : w4.cell? ⟨w.heap.size, 1, none⟩ = some (.slice b n.ks.length d) := (unhide HR4).cell 1 _ rfl
  clear hd x0
  go_wp2_with fail
  refine ((unhide HD4).call fun hx => refNumberW_any (w.heap.size + 1) _ n.ks.length (by have := unhide HS0L; have := unhide HLL; omega) _ hx).mono ?_
  obtain ⟨S1, hS1⟩ : ∃ S1, wNumber (wLeaf S0 n.vs) n.ks.length = S1 := ⟨_, rfl⟩
  rw [hS1] at HWN HPART ⊢
  rintro e w5 ⟨rfl, hd⟩
  have HD5 := hide hd
  clear hd x1 hS1
  go_wp2_with fail
  go_loopw [5] (fun i wr => ∃ k : Nat, k ≤ n.ks.length ∧ i = .int .i64 k ∧ DS (w.heap.size + 1) 49 w2 (wKids S1 (n.ks.take k)) wr) (fun i _ => n.ks.length - (intOf i).toNat)
  case atStart => exact ⟨0, Nat.zero_le _, rfl, unhide HD5⟩
  case round =>
    obtain ⟨k, hk, rfl, hd⟩ := hrel
    have HD := hide hd
    have HRr := hide ((unhide HR2).beside hd.2 (by omega))
    have x1 : wr.cell? ⟨w.heap.size, 1, none⟩ = some (.slice b n.ks.length d) := (unhide HRr).cell 1 _ rfl
    clear hd
    by_cases hlt : k < n.ks.length
    · obtain ⟨x, hx⟩ : ∃ x, n.ks[k]? = some x := ⟨_, List.getElem?_eq_getElem hlt⟩
      have hm := List.mem_of_getElem? hx
      have HXD := hide ((unhide HN).digs x hm)
      have HXN := hide ((unhide HN).names x hm)
      obtain ⟨g, o, rfl, hg, hc⟩ := (unhide HSK) (by omega)
      have HG := hide hg
      have HC := hide (hc k x hx)
      have HBr := hide ((unhide HB2).trans ((unhide HD).below (unhide HB2).size (by omega)))
      have HST := hide (wKids_snoc S1 n.ks k x hx)
      have HPK := hide (unhide HPART k)
      have HTL := hide (wText_len (wKids S1 (n.ks.take k)) x.1).1
      have y0 : wr.cell? ⟨g, o + k * 33, none⟩ = some (.string x.1) := range_name (fun j u hu => ((unhide HBr).cell (p := ⟨g, o + k * 33 + j, none⟩) hg).trans (unhide HC j u hu))
      clear hm hc hx hg
      generalize wKids S1 (n.ks.take k) = st at HD HST HPK HTL
      go_wp2_with fail
      refine ((unhide HD).call fun hx => refTextW_any (w.heap.size + 1) _ x.1 (by have := unhide HXN; omega) (by have := unhide HPK; omega) _ hx).mono ?_
      rintro e w6 ⟨rfl, hd⟩
      have HD6 := hide hd
      have HR6 := hide ((unhide HR2).beside hd.2 (by omega))
      have z1 : w6.cell? ⟨w.heap.size, 1, none⟩ = some (.slice (some ⟨g, o, none⟩) n.ks.length d) := (unhide HR6).cell 1 _ rfl
      have HRD := hide (range_dig (k := x) (W := w6) (g := g) (o := o + k * 33) (fun j u hu => (((unhide HB2).trans (hd.below (unhide HB2).size (by omega))).cell (p := ⟨g, o + k * 33 + j, none⟩) (unhide HG)).trans (unhide HC j u hu)))
      clear hd x1 y0
      go_wp2_with (first
        | (refine load_dig (by rfl) (.tmp 41) (by rfl) g (o + k * 33 + 1) (by rfl) x.2 (unhide HRD) (unhide HXD) ?_))
      refine ((unhide HD6).call fun hx => refDigestW_any (w.heap.size + 1) _ x.2 (unhide HXD) (by have := unhide HPK; have := unhide HTL; omega) _ hx).mono ?_
      rintro e w7 ⟨rfl, hd⟩
      have HD7 := hide hd
      clear hd z1
      go_wp2_with fail
      go_roundw
      case rel => exact ⟨k + 1, by omega, by go_num, by rw [unhide HST]; exact unhide HD7⟩
      case measure => simp [intOf]; omega
    · obtain rfl : k = n.ks.length := by omega
      have HE2 := unhide HD
      rw [List.take_length] at HE2
      have HD2' := hide HE2
      have HBr := hide ((unhide HB2).trans (HE2.below (unhide HB2).size (by omega)))
      have KD := hide (refDoneW_any (w.heap.size + 1) (wKids S1 n.ks) wr HE2.1)
      rw [← unhide HWN] at KD
      clear HE2
      go_wp2_with fail
      refine (unhide KD).mono ?_
      rintro e w8 ⟨rfl, hb⟩
      have HB8 := hide (below_grow (unhide HBr) (Nat.le_refl _) hb)
      clear hb
      go_wp2_with fail
      go_ret2
      exact ⟨by rw [unhide HX]; rfl, unhide HB8⟩
end Go.Proofs.YthchcjjpplcfnaaDoor
