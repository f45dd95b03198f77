/-
  What Value and Of answer: the digest of all that went in.
-/
import Derived.Test.YtkdhpnijcgegbaaDoorWrite
import Derived.Test.YtkdhpnijcgegbaaDoorEnd
namespace Go.Proofs.YtkdhpnijcgegbaaDoor
open Go.RowKit

def zo64 : List UInt8 := List.replicate 64 0
theorem info34 : (Tryd.prog.info? 34).map (fun i => (i.zero, i.size)) = some (some (.agg (sumCells Sha.zero8 zo64 0).toArray), 73) := by kernel_rfl

theorem st_zero : St Sha.zero8 zo64 [] := ⟨⟨rfl, by decide⟩, by simp [zo64], rfl, by simp⟩

theorem one_sum (g : List Nat) (o : List UInt8) (n : Nat) : ∀ v ∈ sumCells g o n, v.oneCell' = true := by
  intro v hv
  rw [sumCells, List.mem_append, List.mem_append] at hv
  rcases hv with hv | hv | hv
  · exact one_words _ v hv
  · exact one_bytes _ v hv
  · rw [List.mem_singleton] at hv; subst hv; rfl
theorem sum_len (g : List Nat) (o : List UInt8) (n : Nat) (hg : g.length = 8) (ho : o.length = 64) : (sumCells g o n).length = 73 := by simp [sumCells, hg, ho]

theorem Write_nil (s : ByteArray) (w : World) :
    Calls Tryd.prog 11 #[.pointer none, .string s] w fun e w' => e = .returned (.tuple #[]) ∧ w' = w := by
  go_enter Tryd.func11, Tryd.ntmps11
  go_wp2
  refine bodyPost_ret (results_none rfl _ _ _) rfl ?_
  exact ⟨rfl, rfl⟩

set_option maxRecDepth 100000 in
set_option maxHeartbeats 1000000 in
theorem Value_any (B : Nat) (m : List UInt8) (hm : m.length < 100000000) (w : World) (hG : Glob w) (g : List Nat) (o : List UInt8) (hst : St g o m) (hs : VRow w B 34 (sumCells g o m.length)) :
    Calls Tryd.prog 12 #[.pointer (some ⟨B, 0, none⟩)] w fun e w' => e = .returned (.agg ((Sha.sha m).map byteVal).toArray) ∧ Below w.heap.size w w' := by
  have hz34 := (zero_of_info info34).1
  have h2 := hG.lt2
  have HG := hide hG
  have HS := hide hs
  have HST := hide hst
  obtain ⟨L, hL⟩ : ∃ L, m.length = L := ⟨_, rfl⟩
  have c72 : w.cell? ⟨B, 72, none⟩ = some (.int .u64 (L : Int)) := by rw [← hL]; exact hs.lenCell hst.ok.1 hst.len
  have hBl := hs.lt
  have hgl := hst.ok.1
  have hol := hst.len
  have HL := hide hL
  have hP : (Sha.pad L).length ≤ 72 := by rw [Sha.pad_len]; omega
  obtain ⟨PD, hPD⟩ : ∃ PD, Sha.pad L = PD := ⟨_, rfl⟩
  rw [hPD] at hP
  have HEN : Hid (∀ W : World, Calls Tryd.prog 22 #[.int .u64 (L : Int)] W fun e w' => e = .returned (.string ⟨PD.toArray⟩) ∧ Below W.heap.size W w') := by
    rw [← hPD]; exact hide (ending_any L (by omega))
  obtain ⟨D, hD⟩ : ∃ D, Sha.sha m = D := ⟨_, rfl⟩
  have HD : Hid (∀ g' o', St g' o' (m ++ PD) → Sha.digest (List.zipWith Sha.add Sha.start g') = D) := hide fun g' o' h => by
    rw [h.hash, ← hD, Sha.sha, Sha.full, hL, hPD]
  have hDl : D.length = 32 := by rw [← hD]; exact Sha.sha_len m
  rw [hD]
  clear hG hs hst hL hPD hD
  go_enter Tryd.func12, Tryd.ntmps12
  go_wp2_with (first
    | (refine wpList_load_row (by rfl) 34 _ (by rfl) B (by rfl) 34 (sumCells g o m.length).toArray (0, 0) _ (VRow.alloc (unhide HS) _) Tryd.underlying34 rfl (by rw [size34]; simp [sum_len _ _ _ hgl hol]) ?_)
    | (refine store_row (by rfl) 34 _ _ (by rfl) (w.heap.size + 1) (sumCells g o m.length) (by rfl) (by rfl) 34 (sumCells Sha.zero8 zo64 0) (VRow.newAt (by simp)) 73 size34 (sum_len _ _ _ hgl hol) rfl (one_sum _ _ _) ?_; intro w1 ho1 hr1; have HO1 := hide ho1; have HR1 := hide hr1; have HB1 := hide ((((Below.refl w.heap.size w).alloc (Nat.le_refl _) _).alloc (by simp) _).trans (ho1.below (by omega))); have c73 := ((unhide HB1).cell (p := ⟨B, 72, none⟩) hBl).trans c72; clear ho1 hr1)
    | (go_at_call 22; refine (unhide HEN _).mono ?_; rintro e w2 ⟨rfl, hb2⟩; have HB2 := hide hb2; clear hb2))
  have HZ1 : Hid (VRow w1 w.heap.size 24 (Sha.zeros.map byteVal)) := ((VRow.new w 24 (Sha.zeros.map byteVal)).alloc _).only (unhide HO1) (by omega)
  have hc1 := (unhide HR1).lt
  have h12 := (unhide HB2).size
  have HR2 := hide ((unhide HR1).below (unhide HB2) hc1)
  have HZ2 := hide ((unhide HZ1).below (unhide HB2) (by omega))
  have HBW2 := hide ((unhide HB1).trans ((unhide HB2).mono (unhide HB1).size))
  have HG2 := hide ((unhide HG).below (unhide HBW2) h2)
  have HWR := hide (Write_any (w.heap.size + 1) (by omega) m ⟨PD.toArray⟩ (by have : (⟨PD.toArray⟩ : ByteArray).size = PD.length := rfl; omega) w2 (unhide HG2) g o (unhide HST) (unhide HR2))
  clear HO1 HR1 HB1 HZ1 c72 c73 hz34
  go_wp2_with (first
    | (go_at_call 11; refine (unhide HWR).mono ?_; rintro e w3 ⟨rfl, ⟨g3, o3, hst3, hr3⟩, hb3⟩; have HS3 := hide hst3; have HR3 := hide hr3; have HB3 := hide hb3; have hg3 := hst3.ok; clear hst3 hr3 hb3))
  have s3 := (unhide HB3).size
  have HR3' : Hid (VRow w3 (w.heap.size + 1) 34 (g3.map u ++ (o3.map byteVal ++ [.int .u64 (((m ++ PD).length : Nat) : Int)]))) := unhide HR3
  refine (words_any (w.heap.size + 1) g3 hg3 _ _ (unhide HR3') ((unhide HG2).below (unhide HB3) (by omega))).mono ?_
  rintro e w4 ⟨rfl, hb4⟩
  have HB4 := hide hb4
  have s4 := hb4.size
  clear hb4
  have HDG := hide (digestOf_any (List.zipWith Sha.add Sha.start g3) (Ok.zip _ _ rfl hg3.1) w4)
  rw [unhide HD g3 o3 (unhide HS3)] at HDG
  generalize List.zipWith Sha.add Sha.start g3 = WS at HDG
  go_wp2_with fail
  refine (unhide HDG).mono ?_
  rintro e w5 ⟨rfl, hb5⟩
  have HB5 := hide hb5
  have HZ5 := hide ((((unhide HZ2).below (unhide HB3) (by omega)).below (unhide HB4) (by omega)).below (unhide HB5) (by omega))
  clear hb5
  go_wp2_with (first
    | (refine store_row (by rfl) 24 _ _ (by rfl) w.heap.size (D.map byteVal) (by rfl) (by rfl) 24 (Sha.zeros.map byteVal) (unhide HZ5) 32 size24 (by rw [List.length_map]; exact hDl) rfl (one_bytes _) ?_; intro w6 ho6 hr6; have HO6 := hide ho6; have HR6 := hide hr6; clear ho6 hr6))
  refine bodyPost_ret (v := .agg (D.map byteVal).toArray) ?_ rfl ⟨rfl, ?_⟩
  · exact results_cell_row rfl _ _ w.heap.size 24 _ (0, 0) _ rfl (unhide HR6) Tryd.underlying24 rfl (by rw [size24]; simp [hDl])
  · exact ((((unhide HBW2).trans ((unhide HB3).mono (by omega))).trans ((unhide HB4).mono (by omega))).trans ((unhide HB5).mono (by omega))).trans ((unhide HO6).below (Nat.le_refl _))

set_option maxRecDepth 100000 in
theorem Value_nil (w : World) :
    Calls Tryd.prog 12 #[.pointer none] w fun e w' => e = .returned (.agg (Sha.zeros.map byteVal).toArray) ∧ Below w.heap.size w w' := by
  have hbd : ∀ w, (Instr.build 24 #[]).run Tryd.prog w = .ok (.agg (Sha.zeros.map byteVal).toArray) w := fun w => by kernel_rfl
  go_enter Tryd.func12, Tryd.ntmps12
  go_wp2_with (first
    | (refine store_row (by rfl) 24 _ _ (by rfl) w.heap.size (Sha.zeros.map byteVal) (by rfl) (by rfl) 24 (Sha.zeros.map byteVal) (VRow.new _ _ _) 32 size24 rfl rfl (one_bytes _) ?_; intro w6 ho6 hr6; have HO6 := hide ho6; have HR6 := hide hr6; clear ho6 hr6))
  refine bodyPost_ret (v := .agg (Sha.zeros.map byteVal).toArray) ?_ rfl ⟨rfl, ?_⟩
  · exact results_cell_row rfl _ _ w.heap.size 24 _ (0, 0) _ rfl (unhide HR6) Tryd.underlying24 rfl (by rw [size24]; rfl)
  · exact ((Below.refl _ _).alloc (Nat.le_refl _) _).trans ((unhide HO6).below (Nat.le_refl _))

set_option maxRecDepth 100000 in
set_option maxHeartbeats 1000000 in
theorem Of_any (t : ByteArray) (ht : t.size < 10000000) (w : World) (hG : Glob w) :
    Calls Tryd.prog 9 #[.string t] w fun e w' => e = .returned (.agg ((Sha.sha t.data.toList).map byteVal).toArray) ∧ Below w.heap.size w w' := by
  have hz34 := (zero_of_info info34).1
  have h2 := hG.lt2
  have HG := hide hG
  obtain ⟨D, hD⟩ : ∃ D, Sha.sha t.data.toList = D := ⟨_, rfl⟩
  have hDl : D.length = 32 := by rw [← hD]; exact Sha.sha_len _
  have HD : Hid (∀ n, n = t.data.toList → Sha.sha n = D) := hide fun n hn => hn ▸ hD
  rw [hD]
  clear hG hD
  go_enter Tryd.func9, Tryd.ntmps9
  go_wp2_with fail
  refine (Write_any (w.heap.size + 1) (by omega) [] t (by simp; omega) _ ((unhide HG).below (((Below.refl w.heap.size w).alloc (Nat.le_refl _) _).alloc (by simp) _) h2) Sha.zero8 zo64 st_zero (VRow.newAt (by simp))).mono ?_
  rintro e w1 ⟨rfl, ⟨g, o, hst, hr⟩, hb⟩
  rw [List.nil_append] at hst hr
  have HZ := hide (((VRow.new w 24 (Sha.zeros.map byteVal)).alloc _).below hb (by omega))
  have HB1 := hide ((((Below.refl w.heap.size w).alloc (Nat.le_refl _) _).alloc (by simp) _).trans (hb.mono (by omega)))
  have HV := hide (Value_any (w.heap.size + 1) t.data.toList (by rw [size_list]; omega) w1 ((unhide HG).below (unhide HB1) h2) g o hst hr)
  rw [unhide HD _ rfl] at HV
  clear hz34 hst hr hb
  go_wp2_with (first
    | (go_at_call 12; refine (unhide HV).mono ?_; rintro e w2 ⟨rfl, hb2⟩; have HB2 := hide hb2; have HZ2 := hide ((unhide HZ).below hb2 (unhide HZ).lt); clear hb2)
    | (refine store_row (by rfl) 24 _ _ (by rfl) w.heap.size (D.map byteVal) (by rfl) (by rfl) 24 (Sha.zeros.map byteVal) (unhide HZ2) 32 size24 (by rw [List.length_map]; exact hDl) rfl (one_bytes _) ?_; intro w6 ho6 hr6; have HO6 := hide ho6; have HR6 := hide hr6; clear ho6 hr6))
  refine bodyPost_ret (v := .agg (D.map byteVal).toArray) ?_ rfl ⟨rfl, ?_⟩
  · exact results_cell_row rfl _ _ w.heap.size 24 _ (0, 0) _ rfl (unhide HR6) Tryd.underlying24 rfl (by rw [size24]; simp [hDl])
  · exact ((unhide HB1).trans ((unhide HB2).mono (unhide HB1).size)).trans ((unhide HO6).below (Nat.le_refl _))
end Go.Proofs.YtkdhpnijcgegbaaDoor
