/-
  The walk of the statement on what a leaf is, written over or deleted.
-/
import Derived.Test.YtbghekolfcakeaaSyncsLaw
namespace Go.Proofs.Ytbghekolfcakeaa
open Go.RowKit

def Great1 (a : List Vc.V) (w : World) (e : Ending) (w' : World) : Prop := ∃ B : Bool, e = .returned (.bool B) ∧ w' = w ∧ (B = false → a.length ≤ 70)
theorem great1 (w : World) (ra : Option Addr) (ca : Nat) (a : List Vc.V) (ha : SV w ra a) :
    Calls Try.prog 9 #[.slice (some ⟨w.heap.size, 0, none⟩) 1 1] (w.alloc (.cells #[.slice ra a.length ca] 22)) (Great1 a (w.alloc (.cells #[.slice ra a.length ca] 22))) := by
  have hr := VRow.new w 22 [.slice ra a.length ca]
  refine (great_any w.heap.size 1 (by decide) (fun _ => ra) (fun _ => ca) (fun _ => a) _ (fun j hj => ?_) (fun j hj => ?_)).mono ?_
  · obtain rfl : j = 0 := by omega
    exact hr.cell 0 _ rfl
  · exact ha.after (below_alloc' _)
  · rintro e w' ⟨B, h1, h2, h3⟩
    exact ⟨B, h1, h2, fun h => (h3 h 0 (by decide)).1⟩
theorem few_over (l : List Vc.V) (d : Vc.D) (x : Bool) (s : ByteArray) : Few (Vc.overF l d x s).1 := by
  unfold Vc.overF
  split
  · exact ⟨by simp, fun _ h => by cases h⟩
  · exact ⟨by simp, fun v hv => by rw [List.mem_singleton.1 hv]; have := Vc.coverL_len l; show (Vc.coverL l).length ≤ _; omega⟩
theorem few_nil : Few [] := ⟨by simp, fun _ h => by cases h⟩
theorem few_write (l : List Vc.V) (d : Vc.D) (s : ByteArray) : Few (Vc.writeF l d s).1 := by
  unfold Vc.writeF
  split
  · exact few_nil
  · split
    · exact few_nil
    · split
      · exact few_nil
      · exact few_over _ _ _ _
theorem few_erase (l : List Vc.V) (d : Vc.D) : Few (Vc.eraseF l d).1 := by
  unfold Vc.eraseF
  split
  · exact few_nil
  · split
    · exact few_nil
    · split
      · exact few_nil
      · exact few_over _ _ _ _

set_option maxRecDepth 100000 in
set_option maxHeartbeats 1000000 in
theorem writes_walk (P : Prg) (ra : Option Addr) (ca : Nat) (a : List Vc.V) (hca : a.length ≤ ca) (ma : Short a) (p n : Int) (data : ByteArray) (w : World) (ha : SV w ra a) :
    Calls Try.prog 4 #[.slice ra a.length ca, .agg #[.int .i64 p, .int .i64 n], .string data] w fun e w' => e = .returned (.bool true) ∧ Below w.heap.size w w' := by
  have HB0 := hide (below_alloc' (w := w) (.cells #[.int .i64 p, .int .i64 n] 24))
  have KG := hide (great1 (w.alloc (.cells #[.int .i64 p, .int .i64 n] 24)) ra ca a (ha.after (unhide HB0)))
  rw [World.size_alloc] at KG
  have HB := hide ((unhide HB0).alloc (by simp) (.cells #[.slice ra a.length ca] 22))
  have RD := hide ((VRow.new w 24 [.int .i64 p, .int .i64 n]).alloc (.cells #[.slice ra a.length ca] 22))
  have SA := hide (ha.after (unhide HB))
  have HMA := hide ma
  have PR := hide P
  obtain ⟨z, hz⟩ : ∃ z, data.size = z := ⟨_, rfl⟩
  clear ha ma P HB0
  go_enter Try.func4, Try.ntmps4
  go_wp2_with fail
  refine (unhide KG).mono ?_
  rintro e w1 ⟨B, rfl, hw, hsmall⟩
  rw [← hw] at HB SA RD
  clear hw KG
  cases B with
  | true =>
    go_wp2_with fail
    refine (awake_any (unhide PR) _).mono ?_
    rintro e w9 ⟨rfl, hb⟩
    replace HB := hide (below_grow (unhide HB) (Nat.le_refl _) hb)
    clear hb
    go_wp2_with fail
    go_ret
    exact ⟨rfl, unhide HB⟩
  | false =>
    by_cases h2 : 200 < z
    · have hd : decide ((200 : Int) < (z : Int)) = true := decide_eq_true (by omega)
      go_wp2_with fail
      refine (awake_any (unhide PR) _).mono ?_
      rintro e w9 ⟨rfl, hb⟩
      replace HB := hide (below_grow (unhide HB) (Nat.le_refl _) hb)
      clear hb
      go_wp2_with fail
      go_ret
      exact ⟨rfl, unhide HB⟩
    · have hd : decide ((200 : Int) < (z : Int)) = false := decide_eq_false (by omega)
      have FA := hide ((unhide HMA).few (hsmall rfl))
      have KW := hide fun W h => (unhide PR).write All ra ca a (unhide FA) hca p n data W (fun _ _ => trivial) h (prov_all _ _ _)
      have KW2 := hide fun W h => refWriteV_any ra ca a (unhide FA) p n data W h
      have KE := hide fun W h => (unhide PR).erase All ra ca a (unhide FA) hca p n W (fun _ _ => trivial) h (prov_all _ _ _)
      have KE2 := hide fun W h => refErase_any ra ca a (unhide FA) p n W h
      have FX := hide (few_write a (p, n) data)
      have FY := hide (few_erase a (p, n))
      generalize Vc.writeF a (p, n) data = X at KW KW2 FX
      generalize Vc.eraseF a (p, n) = Y at KE KE2 FY
      obtain ⟨X, x⟩ := X
      obtain ⟨Y, y⟩ := Y
      have hxx : (x == x) = true := by simp
      have hyy : (y == y) = true := by simp
      have d0 := (unhide RD).cell 0 _ rfl
      have d1 := (unhide RD).cell 1 _ rfl
      clear hsmall
      go_wp2_with fail
      refine (unhide KW _ (unhide SA)).mono ?_
      rintro e w2 ⟨r2, c2, rfl, hc2, hs2, _, hb⟩
      replace HB := hide (below_grow (unhide HB) (Nat.le_refl _) hb)
      replace RD := hide ((unhide RD).after hb)
      replace SA := hide ((unhide SA).after hb)
      have S2 := hide hs2
      clear hb hs2 d0 d1
      have d0 := (unhide RD).cell 0 _ rfl
      have d1 := (unhide RD).cell 1 _ rfl
      go_wp2_with fail
      refine (unhide KW2 _ (unhide SA)).mono ?_
      rintro e w3 ⟨r3, c3, rfl, hc3, hs3, _, hb⟩
      replace HB := hide (below_grow (unhide HB) (Nat.le_refl _) hb)
      replace RD := hide ((unhide RD).after hb)
      replace SA := hide ((unhide SA).after hb)
      replace S2 := hide ((unhide S2).after hb)
      have S3 := hide hs3
      clear hb hs3 d0 d1
      have d0 := (unhide RD).cell 0 _ rfl
      have d1 := (unhide RD).cell 1 _ rfl
      go_wp2_with fail
      refine (unhide KE _ (unhide SA)).mono ?_
      rintro e w4 ⟨r4, c4, rfl, hc4, hs4, _, hb⟩
      replace HB := hide (below_grow (unhide HB) (Nat.le_refl _) hb)
      replace RD := hide ((unhide RD).after hb)
      replace SA := hide ((unhide SA).after hb)
      replace S2 := hide ((unhide S2).after hb)
      replace S3 := hide ((unhide S3).after hb)
      have S4 := hide hs4
      clear hb hs4 d0 d1
      have d0 := (unhide RD).cell 0 _ rfl
      have d1 := (unhide RD).cell 1 _ rfl
      go_wp2_with fail
      refine (unhide KE2 _ (unhide SA)).mono ?_
      rintro e w5 ⟨r5, c5, rfl, hc5, hs5, _, hb⟩
      replace HB := hide (below_grow (unhide HB) (Nat.le_refl _) hb)
      replace S2 := hide ((unhide S2).after hb)
      replace S3 := hide ((unhide S3).after hb)
      replace S4 := hide ((unhide S4).after hb)
      have S5 := hide hs5
      clear hb hs5 d0 d1
      go_wp2_with fail
      refine (refSameVs_any r2 r3 c2 c3 X X (unhide FX) (unhide FX) _ (unhide S2) (unhide S3) true (by simp)).mono ?_
      rintro e w6 ⟨rfl, hb⟩
      replace HB := hide (below_grow (unhide HB) (Nat.le_refl _) hb)
      replace S4 := hide ((unhide S4).after hb)
      replace S5 := hide ((unhide S5).after hb)
      clear hb
      go_wp2_with fail
      refine (refSameVs_any r4 r5 c4 c5 Y Y (unhide FY) (unhide FY) _ (unhide S4) (unhide S5) true (by simp)).mono ?_
      rintro e w7 ⟨rfl, hb⟩
      replace HB := hide (below_grow (unhide HB) (Nat.le_refl _) hb)
      clear hb
      go_wp2_with fail
      refine (awake_any (unhide PR) _).mono ?_
      rintro e w8 ⟨rfl, hb⟩
      replace HB := hide (below_grow (unhide HB) (Nat.le_refl _) hb)
      clear hb
      go_wp2_with fail
      go_ret
      exact ⟨by first | rfl | simp, unhide HB⟩
end Go.Proofs.Ytbghekolfcakeaa
