/-
  Chapter 3's examples hold.
-/
import Derived.Test.YtkdhpnijcgegbaaDoorOf
import Derived.Test.YtkdhpnijcgegbaaDoorHex
namespace Go.Proofs.YtkdhpnijcgegbaaDoor
open Go.RowKit

theorem ofAbc (w : World) (hG : Glob w) : ∃ D : List UInt8, D.length = 32 ∧ (⟨(Sha.hex D).toArray⟩ : ByteArray) = ⟨#[98, 97, 55, 56, 49, 54, 98, 102, 56, 102, 48, 49, 99, 102, 101, 97, 52, 49, 52, 49, 52, 48, 100, 101, 53, 100, 97, 101, 50, 50, 50, 51, 98, 48, 48, 51, 54, 49, 97, 51, 57, 54, 49, 55, 55, 97, 57, 99, 98, 52, 49, 48, 102, 102, 54, 49, 102, 50, 48, 48, 49, 53, 97, 100]⟩ ∧
    Calls Tryd.prog 9 #[.string ⟨#[97, 98, 99]⟩] w fun e w' => e = .returned (.agg (D.map byteVal).toArray) ∧ Below w.heap.size w w' := by
  refine ⟨Sha.sha [97, 98, 99], Sha.sha_len _, ?_, Of_any ⟨#[97, 98, 99]⟩ (by decide) w hG⟩
  rw [Sha.shaAbc]

theorem ofNil (w : World) (hG : Glob w) : ∃ D : List UInt8, D.length = 32 ∧ (⟨(Sha.hex D).toArray⟩ : ByteArray).extract 0 8 = ⟨#[101, 51, 98, 48, 99, 52, 52, 50]⟩ ∧
    Calls Tryd.prog 9 #[.string ⟨#[]⟩] w fun e w' => e = .returned (.agg (D.map byteVal).toArray) ∧ Below w.heap.size w w' := by
  refine ⟨Sha.sha [], Sha.sha_len _, ?_, Of_any ⟨#[]⟩ (by decide) w hG⟩
  apply ByteArray.ext
  apply Array.toList_inj.1
  have h := Sha.shaNil
  rw [ByteArray.data_extract, Array.toList_extract, List.extract_eq_take_drop, List.drop_zero]
  exact h

theorem hexd_any (d : List UInt8) (hd : d.length = 32) (s : ByteArray) (hs : (⟨(Sha.hex d).toArray⟩ : ByteArray) = s) (w : World) :
    Calls Tryd.prog 13 #[.agg (d.map byteVal).toArray] w fun e w' => e = .returned (.string s) ∧ Below w.heap.size w w' := by
  rw [← hs]
  exact hex_any d hd w

theorem hexd_size (d : List UInt8) (hd : d.length = 32) : (⟨(Sha.hex d).toArray⟩ : ByteArray).size = 64 := by
  show (Sha.hex d).toArray.size = 64
  rw [List.size_toArray, Sha.hex_len, hd]

set_option maxRecDepth 100000 in
set_option maxHeartbeats 1000000 in
theorem awake_any (w : World) (hG : Glob w) : Calls Tryd.prog 17 #[] w fun e w' => e = .returned (.bool true) ∧ Below w.heap.size w w' := by
  have h2 := hG.lt2
  obtain ⟨D, hDl, hD, hO⟩ := ofAbc w hG
  have HD := hide hD
  have HO := hide hO
  have HG := hide hG
  clear hD hO hG
  go_enter Tryd.func17, Tryd.ntmps17
  go_wp2_with fail
  refine (unhide HO).mono ?_
  rintro e w1 ⟨rfl, hb1⟩
  have HB1 := hide hb1
  clear hb1
  go_wp2_with fail
  refine (hexd_any D hDl _ (unhide HD) w1).mono ?_
  rintro e w2 ⟨rfl, hb2⟩
  have HB2 := hide ((unhide HB1).trans (hb2.mono (unhide HB1).size))
  obtain ⟨E, hEl, hE, hO⟩ := ofNil w2 ((unhide HG).below (unhide HB2) h2)
  have HO2 := hide hO
  have HE := hide (hexd_any E hEl _ rfl)
  have hEs := hexd_size E hEl
  generalize (⟨(Sha.hex E).toArray⟩ : ByteArray) = X at hE HE hEs
  clear hb2 hO
  go_wp2_with fail
  refine (unhide HO2).mono ?_
  rintro e w3 ⟨rfl, hb3⟩
  have HB3 := hide ((unhide HB2).trans (hb3.mono (unhide HB2).size))
  clear hb3
  go_wp2_with fail
  refine (unhide HE w3).mono ?_
  rintro e w4 ⟨rfl, hb4⟩
  have HB4 := hide ((unhide HB3).trans (hb4.mono (unhide HB3).size))
  clear hb4
  go_wp2_with fail
  go_ret
  exact ⟨rfl, unhide HB4⟩

set_option maxRecDepth 100000 in
set_option maxHeartbeats 1000000 in
theorem wide_any (w : World) (hG : Glob w) : Calls Tryd.prog 8 #[] w fun e w' => e = .returned (.bool true) ∧ Below w.heap.size w w' := by
  have h2 := hG.lt2
  obtain ⟨E, hEl, hE, hO⟩ := ofNil w hG
  have HO := hide hO
  have HG := hide hG
  have HE := hide (hexd_any E hEl _ rfl)
  have hEs := hexd_size E hEl
  generalize (⟨(Sha.hex E).toArray⟩ : ByteArray) = X at HE hEs hE
  clear hO hG hE
  go_enter Tryd.func8, Tryd.ntmps8
  go_wp2_with fail
  refine (unhide HO).mono ?_
  rintro e w1 ⟨rfl, hb1⟩
  have HB1 := hide hb1
  clear hb1
  go_wp2_with fail
  refine (unhide HE w1).mono ?_
  rintro e w2 ⟨rfl, hb2⟩
  have HB2 := hide ((unhide HB1).trans (hb2.mono (unhide HB1).size))
  clear hb2
  go_wp2_with fail
  refine (awake_any w2 ((unhide HG).below (unhide HB2) h2)).mono ?_
  rintro e w3 ⟨rfl, hb3⟩
  have HB3 := hide ((unhide HB2).trans (hb3.mono (unhide HB2).size))
  clear hb3
  go_wp2_with fail
  go_ret
  exact ⟨rfl, unhide HB3⟩
end Go.Proofs.YtkdhpnijcgegbaaDoor
