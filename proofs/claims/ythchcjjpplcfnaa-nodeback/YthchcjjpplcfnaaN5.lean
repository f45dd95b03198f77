/-
  The node that bytes are: the program's takeKids and Read. Conditions: those that each theorem names.
-/
import Derived.Test.YthchcjjpplcfnaaN2
import Derived.Test.YthchcjjpplcfnaaR4
import Derived.Test.YthchcjjpplcfnaaCP3
import Derived.Test.YthchcjjpplcfnaaK2
namespace Go.Proofs.Ythchcjjpplcfnaa
open Go.RowKit

def KidsMade (q T : Nat) (w : World) (x : List Kd × St) (e : Ending) (w' : World) : Prop := ∃ a cap, e = .returned (.slice a x.1.length cap) ∧ x.1.length ≤ cap ∧ SK w' a x.1 ∧ FreshK w.heap.size a x.1 ∧ DS q T w x.2 w'
theorem rdigest_d {w : World} {q : Nat} {st : St} (hx : Doc w q 75 st) (hs : st.1.length ≤ 50000000) : Calls Try.prog 48 #[.pointer (some ⟨q, 0, none⟩)] w (DocMade q 75 w (rDigest st).2 (.agg ((rDigest st).1.map byteVal).toArray)) := (rdigest_any (rd_of hx) hs).mono fun _ _ hm => rd_made hm
set_option maxRecDepth 100000 in
set_option maxHeartbeats 2000000 in
theorem takeKids_any {w : World} {q : Nat} {st : St} (h : Doc w q 75 st) (hs : st.1.length ≤ 50000000) :
    Calls Try.prog 23 #[.pointer (some ⟨q, 0, none⟩)] w (KidsMade q 75 w (rKids st)) := by
  have hq := h.lt
  have HW := hide (DS.start h)
  have K1 := hide ((unhide HW).call3 fun hx => rnumber_d hx hs 128)
  have HLEN := hide (rNumber_len st 128)
  have HL0 := hide hs
  have HN64 := hide (kCount st)
  have HV : Hid (rKids st = itK (rNumber st 128).1.toNat (rNumber st 128).2) := hide rfl
  obtain ⟨R, hR⟩ : ∃ R, rKids st = R := ⟨_, rfl⟩
  obtain ⟨N, e1, e2⟩ := count_nat st 128
  rw [e1] at K1
  rw [hR, e2] at HV
  rw [e2] at HN64
  rw [hR]
  generalize (rNumber st 128).2 = S0 at K1 HLEN HV
  have HLS : Hid (∀ k, (itK k S0).2.1.length ≤ 50000000) := hide fun k => by
    have h1 := itK_less k S0
    have := unhide HLEN
    have := unhide HL0
    omega
  have hN := unhide HN64
  clear h hs e1 e2 HLEN HL0 hR
  go_enter Try.func23, Try.ntmps23
  go_wp2_with fail
  refine (unhide K1).mono ?_
  rintro e w1 ⟨rfl, hd, _⟩
  have HD1 := hide hd
  clear hd
  go_wp2_with fail
  go_loopw [3, 6] (fun l i wr => ∃ k : Nat, k ≤ N ∧ i = .int .i64 k ∧ wr.ownsRow w.heap.size 41 33 l (itK k S0).1.length (flatK (itK k S0).1) ∧ DS q 75 w (itK k S0).2 wr) (fun _ i _ => N - (intOf i).toNat)
  case atStart => exact ⟨0, Nat.zero_le _, rfl, World.ownsRow_nil _ _ _ _, unhide HD1⟩
  case round =>
    obtain ⟨k, hk, rfl, hown, hd⟩ := hrel
    have HOWN := hide hown
    have HD := hide hd
    have HSZ := hide hd.2.size
    clear hown hd
    by_cases hlt : k < N
    · have HX : Hid (itK (k + 1) S0 = ((itK k S0).1 ++ [(rKid (itK k S0).2).1], (rKid (itK k S0).2).2)) := hide rfl
      have HKL := hide (itK_len k S0)
      have HKD := hide (itK_digs k S0)
      have HLK := hide (unhide HLS k)
      obtain ⟨X, hX⟩ : ∃ X, itK k S0 = X := ⟨_, rfl⟩
      rw [hX] at HOWN HD HX HKL HKD HLK
      have K3 := hide ((unhide HD).call3 fun hx => rtext_d hx (unhide HLK) 12)
      have HL2 := hide (rText_len X.2 12)
      have HRK : Hid (rKid X.2 = ((str (rText X.2 12).1, (rDigest (rText X.2 12).2).1), (rDigest (rText X.2 12).2).2)) := hide rfl
      obtain ⟨Y, hY⟩ : ∃ Y, rText X.2 12 = Y := ⟨_, rfl⟩
      rw [hY] at K3 HL2 HRK
      obtain ⟨Z, hZ⟩ : ∃ Z, rDigest Y.2 = Z := ⟨_, rfl⟩
      have HZ := hide hZ
      have HZD := hide (rDigest_dig Y.2)
      rw [hZ] at HRK HZD
      rw [unhide HRK] at HX
      clear hX hY hZ HRK
      go_wp2_with fail
      refine (unhide K3).mono ?_
      rintro e w2 ⟨rfl, hd, hb2⟩
      have HD2 := hide hd
      have HOWN2 := hide (row_beside (unhide HOWN) hb2 hq)
      clear hd
      have K4 := hide ((unhide HD2).call3 fun hx => rdigest_d hx (by have := unhide HL2; have := unhide HLK; omega))
      rw [unhide HZ] at K4
      clear hb2 K3
      go_wp2_with fail
      refine (unhide K4).mono ?_
      rintro e w3 ⟨rfl, hd, hb3⟩
      have HD3 := hide hd
      have HOWN3 := hide (row_beside (unhide HOWN2) hb3 hq)
      have HSZ3 := hide hd.2.size
      clear hd hb3 K4
      have HDX : Hid (Digs [(str Y.1, Z.1)]) := hide fun x hx => by rw [List.mem_singleton.1 hx]; exact unhide HZD
      have HD3' : Hid (Digs (X.1 ++ [(str Y.1, Z.1)])) := hide fun x hx => by
        rcases List.mem_append.1 hx with h | h
        · exact unhide HKD x h
        · exact unhide HDX x h
      go_wp2_with (first
        | ((with_reducible refine at_buildK ?_); refine step_buildK (by rfl) (.tmp 10) (.tmp 12) (by rfl) (str Y.1) Z.1 (by rfl) (by rfl) (unhide HZD) ?_)
        | ((with_reducible refine at_sliceK ?_); refine step_sliceK (by rfl) (.tmp 13) (by rfl) (str Y.1, Z.1) (by rfl) (unhide HZD) ?_)
        | (at_builtin; refine append_kids rfl _ _ rfl w.heap.size _ X.1 rfl (own_after (unhide HOWN3) (below_alloc' _)) w3.heap.size 1 [(str Y.1, Z.1)] (unhide HDX) 0 rfl (kid_row (VRow.new w3 41 (kL (str Y.1, Z.1)))) (by simp; have := unhide HKL; omega) (by simp; have := unhide HSZ3; omega) ?_; intro v4 w4 hown hb _; have HOWN4 := hide hown; have HD4 := hide (((unhide HD3).after (below_alloc' _)).under (Nat.le_refl _) hq hb); clear hown hb))
      go_roundw
      case rel => exact ⟨k + 1, by omega, by go_num, by rw [unhide HX]; exact unhide HOWN4, by rw [unhide HX]; exact unhide HD4⟩
      case measure => simp [intOf]; omega
    · obtain rfl : k = N := by omega
      have HVR := unhide HV
      obtain ⟨a, cap, e, hcap, hsk, hfr⟩ := own_sk (itK_digs k S0) (unhide HOWN)
      have HM : Hid (KidsMade q 75 w R (.returned (.slice a (itK k S0).1.length cap)) wr) := hide (by
        rw [HVR]
        exact ⟨a, cap, rfl, hcap, hsk, hfr, unhide HD⟩)
      subst e
      clear hcap hsk hfr HVR
      go_wp2_with fail
      go_ret
      exact unhide HM
end Go.Proofs.Ythchcjjpplcfnaa
