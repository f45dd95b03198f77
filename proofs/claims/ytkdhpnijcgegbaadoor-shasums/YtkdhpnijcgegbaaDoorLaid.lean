/-
  What the listed package-level variables give the walks; a digest that is handed in, opened.
-/
import Derived.Test.YtkdhpnijcgegbaaDoorOf
import Derived.ProofKit
import Derived.LaidMore
import Derived.OpenShut
import Derived.Stop.Joined
import Derived.Lib.LaidTab
namespace Go.Proofs.YtkdhpnijcgegbaaDoor
open Go.ChangeShapes Go.WideShapes Go.ChangeAt Go.WideMaps Go.WideElems Go.RowKit

abbrev laid2 : List (String × DataW Unit) := [("hearsay/sha.start", Rows.laid_hearsay_sha_start), ("hearsay/sha.added", Rows.laid_hearsay_sha_added)]
abbrev laid3 : List (String × DataW Unit) := [("hearsay/hearsayref03.keys", Rows.laid_hearsay_hearsayref03_keys), ("hearsay/sha.start", Rows.laid_hearsay_sha_start), ("hearsay/sha.added", Rows.laid_hearsay_sha_added)]

theorem own : ownKnob Tryd.prog.godebug = none := by kernel_rfl
theorem laidOut : laidOutB Tryd.prog = true := by kernel_rfl
theorem gKeys : Tryd.prog.globalNamed "hearsay/hearsayref03.keys" = some 0 := by kernel_rfl
theorem gAdded : Tryd.prog.globalNamed "hearsay/sha.added" = some 1 := by kernel_rfl
theorem gStart : Tryd.prog.globalNamed "hearsay/sha.start" = some 2 := by kernel_rfl
theorem tKeys : (Tryd.prog.globals[0]?).map (·.type) = some 46 := by kernel_rfl
theorem tAdded : (Tryd.prog.globals[1]?).map (·.type) = some 46 := by kernel_rfl
theorem tStart : (Tryd.prog.globals[2]?).map (·.type) = some 30 := by kernel_rfl
theorem cells29 : Tryd.prog.cellsOf 29 = 1 := by kernel_rfl
theorem cells30 : Tryd.prog.cellsOf 30 = 8 := by kernel_rfl
theorem cells46 : Tryd.prog.cellsOf 46 = 64 := by kernel_rfl
theorem cells24 : Tryd.prog.cellsOf 24 = 32 := by kernel_rfl
theorem cells5 : Tryd.prog.cellsOf 5 = 1 := by kernel_rfl

theorem dStart {H : Type} : (Rows.laid_hearsay_sha_start : DataW H) = Lib.tabData .u32 (Sha.start.map Int.ofNat) := rfl
theorem dAdded {H : Type} : (Rows.laid_hearsay_sha_added : DataW H) = Lib.tabData .u32 (Sha.keys.map Int.ofNat) := rfl
theorem dKeys {H : Type} : (Rows.laid_hearsay_hearsayref03_keys : DataW H) = Lib.tabData .u32 (Sha.keys.map Int.ofNat) := rfl

theorem tab_cell {W : World} {name : String} {g t n : Nat} {cs : Array Value} {f : Nat} {p : List MemPlace} {L : List Nat} (hg : Tryd.prog.globalNamed name = some g) (ht : Tryd.prog.underlying t = some (.array n 29)) (hct : Tryd.prog.cellsOf t = n)
    (hv : W.var? Tryd.prog name = some cs) (hd : DataW.trod (fun _ => ()) Tryd.prog W 0 (fun _ => true) false f t cs.toList = some (Lib.tabData .u32 (L.map Int.ofNat), p)) :
    ∀ (j x : Nat), L[j]? = some x → W.cell? ⟨g, j, none⟩ = some (.int .u32 (x : Int)) := by
  intro j x hx
  have h1 := Lib.cells_of_tab ht Tryd.underlying29 cells29 hct hd
  rw [World.var?_cell hg hv j]
  have h2 : cs[j]? = cs.toList[j]? := by simp
  rw [h2, h1]
  simp [hx]

theorem glob_of2 {W : World} (h : laidMetH Tryd.prog laid2 W) : Glob W := by
  rw [MakeChecks.laidMetH_plain _ _ _ (by kernel_rfl)] at h
  obtain ⟨ps, ⟨g0, t0, cs0, f0, p0, q0, hg0, ht0, hv0, hd0, ⟨g1, t1, cs1, f1, p1, q1, hg1, ht1, hv1, hd1, _, _⟩, _⟩, _, _⟩ := h
  obtain rfl := Option.some.inj (gStart.symm.trans hg0)
  obtain rfl := Option.some.inj (gAdded.symm.trans hg1)
  obtain rfl := Option.some.inj (tStart.symm.trans ht0)
  obtain rfl := Option.some.inj (tAdded.symm.trans ht1)
  rw [dStart] at hd0
  rw [dAdded] at hd1
  exact ⟨tab_cell gStart Tryd.underlying30 cells30 hv0 hd0, tab_cell gAdded Tryd.underlying46 cells46 hv1 hd1⟩

/-- What the document's own table holds. -/
def RefGlob (w : World) : Prop := ∀ (j x : Nat), Sha.keys[j]? = some x → w.cell? ⟨0, j, none⟩ = some (.int .u32 (x : Int))

theorem glob_of3 {W : World} (h : laidMetH Tryd.prog laid3 W) : Glob W ∧ RefGlob W := by
  rw [MakeChecks.laidMetH_plain _ _ _ (by kernel_rfl)] at h
  obtain ⟨ps, ⟨g2, t2, cs2, f2, p2, q2, hg2, ht2, hv2, hd2, ⟨g0, t0, cs0, f0, p0, q0, hg0, ht0, hv0, hd0, ⟨g1, t1, cs1, f1, p1, q1, hg1, ht1, hv1, hd1, _, _⟩, _⟩, _⟩, _, _⟩ := h
  obtain rfl := Option.some.inj (gStart.symm.trans hg0)
  obtain rfl := Option.some.inj (gAdded.symm.trans hg1)
  obtain rfl := Option.some.inj (gKeys.symm.trans hg2)
  obtain rfl := Option.some.inj (tStart.symm.trans ht0)
  obtain rfl := Option.some.inj (tAdded.symm.trans ht1)
  obtain rfl := Option.some.inj (tKeys.symm.trans ht2)
  rw [dStart] at hd0
  rw [dAdded] at hd1
  rw [dKeys] at hd2
  exact ⟨⟨tab_cell gStart Tryd.underlying30 cells30 hv0 hd0, tab_cell gAdded Tryd.underlying46 cells46 hv1 hd1⟩, tab_cell gKeys Tryd.underlying46 cells46 hv2 hd2⟩

/-- The door's own heap meets the condition. -/
theorem door_met2 (os : Os) (args : Array Value) : laidMetH Tryd.prog laid2 ((World.doorLaid Tryd.prog 24 os).forCall (fun _ _ => 0) ⟨#[], args, []⟩).memory :=
  laidMetH_of_parts3 (fuel := 8) (laidMet_of_run' 8 (by kernel_rfl) (by kernel_rfl)) (by kernel_rfl) (by kernel_rfl)
theorem door_met3 (os : Os) (args : Array Value) : laidMetH Tryd.prog laid3 ((World.doorLaid Tryd.prog 24 os).forCall (fun _ _ => 0) ⟨#[], args, []⟩).memory :=
  laidMetH_of_parts3 (fuel := 8) (laidMet_of_run' 8 (by kernel_rfl) (by kernel_rfl)) (by kernel_rfl) (by kernel_rfl)

theorem byte_of {k : Int} (h : Lit.wf (.int .u8 k) = true) : ∃ b : UInt8, (Value.int .u8 k) = byteVal b := by
  simp only [Lit.wf, Bool.and_eq_true, decide_eq_true_eq] at h
  have h1 : IntKind.u8.min = 0 := rfl
  have h2 : IntKind.u8.max = 255 := rfl
  refine ⟨UInt8.ofNat k.toNat, ?_⟩
  rw [byteVal, u8_of _ (by omega)]
  congr 1
  omega

theorem bytes_of : ∀ (cs : List Value), (∀ v ∈ cs, ∃ b : UInt8, v = byteVal b) → ∃ d : List UInt8, cs = d.map byteVal
  | [], _ => ⟨[], rfl⟩
  | v :: cs, h => by
    obtain ⟨b, rfl⟩ := h v (by simp)
    obtain ⟨d, rfl⟩ := bytes_of cs (fun x hx => h x (by simp [hx]))
    exact ⟨b :: d, rfl⟩

theorem open24 {H : Type} {enc : TypeId × Value → H} {W : World} {r : Reach} {base : Nat} {sp : Nat → Bool} {held : Bool} {v0 : Value} {d0 : DataW H} {p0 : List MemPlace}
    (hv : Value.okWide Tryd.prog W r base 24 v0) (h : DataW.Trod enc Tryd.prog W 0 sp held 24 v0 d0 p0) : ∃ d : List UInt8, d.length = 32 ∧ v0 = .agg (d.map byteVal).toArray := by
  unfold Value.okWide at hv
  rw [Tryd.underlying24] at hv
  obtain ⟨cs, rfl, hcs, _⟩ := hv
  rw [cells24] at hcs
  obtain ⟨fuel, hf⟩ := h
  obtain ⟨xs, m, _, _, _, _, hel⟩ := DataW.trod_array Tryd.underlying24 hf
  obtain ⟨d, hd⟩ : ∃ d : List UInt8, cs.toList = d.map byteVal := by
    refine bytes_of cs.toList fun v hv => ?_
    obtain ⟨i, hi, rfl⟩ := List.mem_iff_getElem.1 hv
    have hi' : i < 32 := by simpa [hcs] using hi
    have h1 := hel i hi'
    rw [cells5, Nat.mul_one] at h1
    have h2 : xs[i]? = some xs[i] := List.getElem?_eq_getElem (by omega)
    rw [h2] at h1
    obtain ⟨k, e1, e2, hw⟩ := DataW.trod_int Tryd.underlying5 h1
    have e3 : cs.toList[i] = .int .u8 k := by
      have h3 := congrArg (·[0]?) e1
      simp only [List.getElem?_take, List.getElem?_drop, Value.cells] at h3
      have h4 : cs.toList[i]? = some (.int .u8 k) := by simpa using h3
      exact (List.getElem?_eq_some_iff.1 h4).2
    rw [e3]
    exact byte_of hw
  refine ⟨d, ?_, ?_⟩
  · have := congrArg List.length hd
    simpa [hcs] using this.symm
  · rw [← hd]
end Go.Proofs.YtkdhpnijcgegbaaDoor
