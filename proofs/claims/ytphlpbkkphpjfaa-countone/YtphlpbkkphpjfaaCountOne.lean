/-
  For every string s, the bytes of which count.Take takes a number are those that count.Put puts for it, and beside an error stand noughts; chapter 1's examples hold. No condition.
-/
import Derived.Test.YtphlpbkkphpjfaaRows
import Derived.WalkKit
import Derived.ProofKit
import Derived.OpenShut
import Derived.Lib.QuietBelow
import Derived.ShutString
import Derived.Test.YtphlpbkkphpjfaaAwake
namespace Go.Proofs.Ytphlpbkkphpjfaa.countOne
open Go.ChangeShapes Go.WideShapes Go.ChangeAt Go.RowKit
open Go.ChangeMaps (open_string shut_string)
set_option linter.unusedVariables false

theorem own : ownKnob Try.prog.godebug = none := by kernel_rfl

theorem ext_mk (s : ByteArray) (k : Nat) : s.extract 0 k = ⟨(s.data.toList.take k).toArray⟩ := by
  apply ByteArray.ext
  apply Array.toList_inj.1
  rw [ext_data]

set_option maxRecDepth 100000 in
set_option maxHeartbeats 1000000 in
theorem walk (a0 : ByteArray) (w0 : a0.size ≤ maxLen) (w : World) :
    Calls Try.prog 6 #[.string a0] w fun e w' => e = .returned (.bool true) ∧ Below w.heap.size w w' := by
  have W0 := hide w0
  clear w0
  obtain ⟨r, hr⟩ : ∃ r, Cnt.takeF a0.data.toList = r := ⟨_, rfl⟩
  have hE := Cnt.takeF_err a0.data.toList
  have hO := Cnt.takeF_ok a0.data.toList
  rw [hr] at hE hO
  rw [show a0.data.toList.length = a0.size from by simp] at hO
  obtain ⟨a, b, c⟩ := r
  have HR := hide hr
  clear hr
  by_cases hc : c = 0
  · obtain ⟨h1, h2, h3⟩ := hO hc
    have h1 : 1 ≤ b := h1
    have h2 : b ≤ (a0.size : Int) := h2
    have HP := hide h3
    clear hE hO h3
    subst hc
    obtain ⟨k, rfl⟩ := Int.eq_ofNat_of_zero_le (show 0 ≤ b by omega)
    have hext : a0.extract 0 k = ⟨(Cnt.putL a).toArray⟩ := by
      have h : Cnt.putL a = a0.data.toList.take k := unhide HP
      rw [ext_mk, h]
    have hk2 : k ≤ a0.size := by omega
    go_enter Try.func6, Try.ntmps6
    go_wp2_with fail
    refine (Take_any _ _ (unhide W0)).mono ?_
    rintro e w1 ⟨rfl, rfl⟩
    rw [unhide HR]
    go_wp2_with fail
    refine wp_region_quiet_below (by kernel_rfl) (by kernel_rfl) ?_
    repeat (quiet_step (first | (go_at_call 8; exact Calls.regrown_of (Put_any _ _)) | (go_at_call 11; exact Calls.regrown_of (awake_any _))))
    refine wpQuiet_nil ?_
    intro _ hw'
    obtain ⟨⟨dq, osq⟩, hw''⟩ := hw'
    subst hw''
    go_wp2_with fail
    go_ret
    exact ⟨rfl, below_regrown w1 dq osq⟩
  · obtain ⟨h1, h2⟩ := hE hc
    have h1 : a = 0 := h1
    have h2 : b = 0 := h2
    subst h1 h2
    have hcb : (c == 0) = false := beq_eq_false_iff_ne.2 hc
    have hcn : (c != 0) = true := bne_iff_ne.2 hc
    clear hE hO hc
    go_enter Try.func6, Try.ntmps6
    go_wp2_with fail
    refine (Take_any _ _ (unhide W0)).mono ?_
    rintro e w1 ⟨rfl, rfl⟩
    rw [unhide HR]
    go_wp2_with fail
    refine (awake_any _).mono ?_
    rintro e w5 ⟨rfl, hb5⟩
    go_wp2_with fail
    go_ret
    exact ⟨rfl, hb5⟩

set_option maxRecDepth 100000 in
theorem lifted (os : Os) (started : os.Started) (H : Type) (enc : TypeId × Value → H) :
    ReturnsInHanded {} Try.checked os 6 .any (Rows.countOneSpec.pre6 enc Try.prog Try.f6 Rows.countOneRow.domain false) (Rows.countOneSpec.post enc Try.prog Try.f6 false true false false) := by
  refine returnsInHanded_of_change (C := Try.checked) own started (by kernel_rfl) Try.func6
    (ChangeSpec.witness6 (enc := enc) (C := Try.checked) false ⟨#[], #[.string ByteArray.empty], []⟩ 8 (by kernel_rfl) (by kernel_rfl) (by kernel_rfl) (by kernel_rfl)) ?_
  intro W base args ds gs before hval0 hW hcnd _
  have hval : ∀ (j : Nat) t v, Try.f6.params[j]? = some t → args[j]? = some v → Value.okWide Try.prog W .any base t v := hval0
  have hW' := hW
  obtain ⟨p, q, hA0, hV, rfl, hfz, hnd⟩ := hW
  have hA : DataW.TrodAll enc Try.prog W 0 (fun _ => true) true Try.f6.params.toList args.toList ds p := hA0
  rw [Try.params6] at hA hval
  obtain ⟨v0, vs0, d0, ds0, p0, q0, hargs, rfl, rfl, h0, r0⟩ := trodAll_cons hA
  obtain ⟨rfl, rfl, rfl⟩ := trodAll_nil r0
  obtain rfl : args = #[v0] := by cases args; simp_all
  obtain ⟨rfl, rfl⟩ := trodVars_none hV
  obtain ⟨a0, rfl, rfl, rfl, w0⟩ := open_string Try.underlying9 (hval 0 9 v0 rfl rfl) h0
  clear hA0 hval0
  simp only [List.append_nil] at hW'
  refine (walk a0 w0 W).mono fun e W' ⟨he, hg⟩ => ?_
  subst he
  exact ⟨_, rfl, _, _, _, [], [], [], hW', (trodAll_cons_mk (shut_bool Try.underlying4 _) trodAll_mk0), (trodAll_cons_mk (shut_string Try.underlying9 w0) trodAll_mk0), rfl, hg.frame _, fun h => by cases h⟩

theorem over : Rows.countOneRow.holds Try.pinned (OpenSpec.ofChange Rows.countOneSpec) :=
  OpenClaim.holds_of_wide 6 Try.f6 rfl rfl rfl rfl rfl rfl rfl ⟨rfl, rfl, rfl, rfl, rfl⟩ rfl rfl rfl rfl rfl (by kernel_rfl) Try.func6 (by kernel_rfl)
    (of_decide_eq_true (by kernel_rfl)) (by unfold Func.isWrapper; first | (rw [if_pos (by decide +kernel)]; kernel_rfl) | (rw [if_neg (by decide +kernel)]; exact ⟨rfl, rfl⟩))
    (fun os started H enc _ => lifted os started H enc)

theorem proved : Rows.CountOneSaid :=
  over
end Go.Proofs.Ytphlpbkkphpjfaa.countOne

namespace Go.Proofs.Ytphlpbkkphpjfaa
theorem countOne_holds : Rows.CountOneSaid := countOne.proved
#print axioms countOne_holds
end Go.Proofs.Ytphlpbkkphpjfaa
