/-
  For every integer n and string behind, what count.Put(n) puts is taken again by count.Take, whatever stands behind it (no bytes where n is no number), and chapter 1's examples hold. No condition.
-/
import Derived.Test.YtphlpbkkphpjfaaRows
import Derived.WalkKit
import Derived.ProofKit
import Derived.OpenShut
import Derived.SizedLaws
import Derived.ShutString
import Derived.Test.YtphlpbkkphpjfaaAwake
namespace Go.Proofs.Ytphlpbkkphpjfaa.countBack
open Go.ChangeShapes Go.WideShapes Go.ChangeAt Go.RowKit
open Go.ChangeMaps (open_string shut_string)
set_option linter.unusedVariables false

theorem own : ownKnob Try.prog.godebug = none := by kernel_rfl

theorem mk_size (l : List UInt8) : (ByteArray.mk l.toArray).size = l.length := by rw [ByteArray.size_mk', List.size_toArray]
theorem cat_data (l : List UInt8) (s : ByteArray) : (ByteArray.mk l.toArray ++ s).data.toList = l ++ s.data.toList := by simp [ByteArray.data_append]

set_option maxRecDepth 100000 in
set_option maxHeartbeats 1000000 in
theorem walk (a0 : Int) (a1 : ByteArray) (w0 : (Lit.int .i64 a0).wf = true) (w1 : a1.size ≤ 140737488351232) (w : World) :
    Calls Try.prog 5 #[.int .i64 a0, .string a1] w fun e w' => e = .returned (.bool true) ∧ Below w.heap.size w w' := by
  clear w0
  by_cases hneg : a0 < 0
  · have HP := hide (Cnt.putL_no a0 (.inl hneg))
    go_enter Try.func5, Try.ntmps5
    go_wp2_with fail
    refine (Put_any _ _).mono ?_
    rintro e w1 ⟨rfl, hb1⟩
    rw [unhide HP]
    go_wp2_with fail
    refine (awake_any _).mono ?_
    rintro e w2 ⟨rfl, hb2⟩
    go_wp2_with fail
    go_ret
    exact ⟨rfl, hb1.trans (hb2.mono hb1.size)⟩
  · by_cases hbig : 1073741824 < a0
    · have HP := hide (Cnt.putL_no a0 (.inr hbig))
      go_enter Try.func5, Try.ntmps5
      go_wp2_with fail
      refine (Put_any _ _).mono ?_
      rintro e w1 ⟨rfl, hb1⟩
      rw [unhide HP]
      go_wp2_with fail
      refine (awake_any _).mono ?_
      rintro e w2 ⟨rfl, hb2⟩
      go_wp2_with fail
      go_ret
      exact ⟨rfl, hb1.trans (hb2.mono hb1.size)⟩
    · have hT := Cnt.takeF_put a0 (by omega) (by omega) a1.data.toList
      have hL := Cnt.putL_len a0
      have hcat : ¬ (ByteArray.size ⟨(Cnt.putL a0).toArray⟩ + a1.size > 9223372036854775807) := by rw [mk_size]; omega
      have hmx : (ByteArray.mk (Cnt.putL a0).toArray ++ a1).size ≤ maxLen := by
        rw [ByteArray.size_append, mk_size]; unfold maxLen; omega
      have HT := hide hT
      have HM := hide hmx
      clear hT hmx
      go_enter Try.func5, Try.ntmps5
      go_wp2_with fail
      refine (Put_any _ _).mono ?_
      rintro e w1 ⟨rfl, hb1⟩
      go_wp2_with fail
      refine (Take_any _ _ (unhide HM)).mono ?_
      rintro e w2 ⟨rfl, rfl⟩
      rw [cat_data, unhide HT]
      go_wp2_with fail
      refine (awake_any _).mono ?_
      rintro e w3 ⟨rfl, hb3⟩
      go_wp2_with fail
      go_ret
      exact ⟨rfl, hb1.trans (hb3.mono hb1.size)⟩

set_option maxRecDepth 100000 in
theorem lifted (os : Os) (started : os.Started) (H : Type) (enc : TypeId × Value → H) :
    ReturnsInHanded {} Try.checked os 5 .any (Rows.countBackSpec.pre6 enc Try.prog Try.f5 Rows.countBackRow.domain false) (Rows.countBackSpec.post enc Try.prog Try.f5 false true false false) := by
  refine returnsInHanded_of_change_sized (C := Try.checked) own started (by kernel_rfl) Try.func5
    (ChangeSpec.witness6 (enc := enc) (C := Try.checked) false ⟨#[], #[.int .i64 0, .string ByteArray.empty], []⟩ 8 (by kernel_rfl) (by kernel_rfl) (by kernel_rfl) (by kernel_rfl)) ?_
  intro W base args ds gs before hval0 hW hcnd hsz0 _
  have hval : ∀ (j : Nat) t v, Try.f5.params[j]? = some t → args[j]? = some v → Value.okWide Try.prog W .any base t v := hval0
  have hW' := hW
  obtain ⟨p, q, hA0, hV, rfl, hfz, hnd⟩ := hW
  have hA : DataW.TrodAll enc Try.prog W 0 (fun _ => true) true Try.f5.params.toList args.toList ds p := hA0
  rw [Try.params5] at hA hval
  obtain ⟨v0, vs0, d0, ds0, p0, q0, hargs, rfl, rfl, h0, r0⟩ := trodAll_cons hA
  obtain ⟨v1, vs1, d1, ds1, p1, q1, rfl, rfl, rfl, h1, r1⟩ := trodAll_cons r0
  obtain ⟨rfl, rfl, rfl⟩ := trodAll_nil r1
  obtain rfl : args = #[v0, v1] := by cases args; simp_all
  obtain ⟨rfl, rfl⟩ := trodVars_none hV
  obtain ⟨a0, rfl, rfl, rfl, w0⟩ := open_int Try.underlying3 (hval 0 3 v0 rfl rfl) h0
  obtain ⟨a1, rfl, rfl, rfl, w1⟩ := open_string Try.underlying9 (hval 1 9 v1 rfl rfl) h1
  have s1 := sized_string (j := 1) (t := 9) hsz0 rfl rfl
  have r1 : a1.size ≤ 140737488351232 := by have h := s1; simp only [reachBytes, Array.length_toList] at h; exact h
  clear hA0 hval0
  simp only [List.append_nil] at hW'
  refine (walk a0 a1 w0 r1 W).mono fun e W' ⟨he, hg⟩ => ?_
  subst he
  exact ⟨_, rfl, _, _, _, [], [], [], hW', (trodAll_cons_mk (shut_bool Try.underlying4 _) trodAll_mk0), (trodAll_cons_mk (shut_int Try.underlying3 w0) (trodAll_cons_mk (shut_string Try.underlying9 w1) trodAll_mk0)), rfl, hg.frame _, fun h => by cases h⟩

theorem over : Rows.countBackRow.holds Try.pinned (OpenSpec.ofChange Rows.countBackSpec) :=
  OpenClaim.holds_of_wide 5 Try.f5 rfl rfl rfl rfl rfl rfl rfl ⟨rfl, rfl, rfl, rfl, rfl⟩ rfl rfl rfl rfl rfl (by kernel_rfl) Try.func5 (by kernel_rfl)
    (of_decide_eq_true (by kernel_rfl)) (by unfold Func.isWrapper; first | (rw [if_pos (by decide +kernel)]; kernel_rfl) | (rw [if_neg (by decide +kernel)]; exact ⟨rfl, rfl⟩))
    (fun os started H enc _ => lifted os started H enc)

theorem proved : Rows.CountBackSaid :=
  over
end Go.Proofs.Ytphlpbkkphpjfaa.countBack

namespace Go.Proofs.Ytphlpbkkphpjfaa
theorem countBack_holds : Rows.CountBackSaid := countBack.proved
#print axioms countBack_holds
end Go.Proofs.Ytphlpbkkphpjfaa
