/-
  What the listed package-level variables give the walks; a digest that is handed in, opened.
-/
import Derived.Test.YthchcjjpplcfnaaDoorHWords
import Derived.ProofKit
import Derived.LaidMore
import Derived.OpenShut
import Derived.Stop.Joined
import Derived.Lib.LaidTab
namespace Go.Proofs.YthchcjjpplcfnaaDoor.Hsh
open Go.ChangeShapes Go.WideShapes Go.ChangeAt Go.WideMaps Go.WideElems Go.RowKit

abbrev laid2 : List (String × DataW Unit) := [("hearsay/sha.start", Rows.laid_hearsay_sha_start), ("hearsay/sha.added", Rows.laid_hearsay_sha_added)]
abbrev laid3 : List (String × DataW Unit) := [("hearsay/hearsayref03.keys", Rows.laid_hearsay_hearsayref03_keys), ("hearsay/sha.start", Rows.laid_hearsay_sha_start), ("hearsay/sha.added", Rows.laid_hearsay_sha_added)]

theorem own : ownKnob Tryd.prog.godebug = none := by kernel_rfl
theorem laidOut : laidOutB Tryd.prog = true := by kernel_rfl
theorem gKeys : Tryd.prog.globalNamed "hearsay/hearsayref03.keys" = some 0 := by kernel_rfl
theorem gAdded : Tryd.prog.globalNamed "hearsay/sha.added" = some 1 := by kernel_rfl
theorem gStart : Tryd.prog.globalNamed "hearsay/sha.start" = some 2 := by kernel_rfl
theorem tKeys : (Tryd.prog.globals[0]?).map (·.type) = some 85 := by kernel_rfl
theorem tAdded : (Tryd.prog.globals[1]?).map (·.type) = some 85 := by kernel_rfl
theorem tStart : (Tryd.prog.globals[2]?).map (·.type) = some 78 := by kernel_rfl
theorem cells29 : Tryd.prog.cellsOf 77 = 1 := by kernel_rfl
theorem cells30 : Tryd.prog.cellsOf 78 = 8 := by kernel_rfl
theorem cells46 : Tryd.prog.cellsOf 85 = 64 := by kernel_rfl
theorem cells5 : Tryd.prog.cellsOf 5 = 1 := by kernel_rfl

theorem dStart {H : Type} : (Rows.laid_hearsay_sha_start : DataW H) = Lib.tabData .u32 (Sha.start.map Int.ofNat) := rfl
theorem dAdded {H : Type} : (Rows.laid_hearsay_sha_added : DataW H) = Lib.tabData .u32 (Sha.keys.map Int.ofNat) := rfl
theorem dKeys {H : Type} : (Rows.laid_hearsay_hearsayref03_keys : DataW H) = Lib.tabData .u32 (Sha.keys.map Int.ofNat) := rfl

set_option maxRecDepth 100000 in
theorem tab_cell {W : World} {name : String} {g t n : Nat} {cs : Array Value} {f : Nat} {p : List MemPlace} {L : List Nat} (hg : Tryd.prog.globalNamed name = some g) (ht : Tryd.prog.underlying t = some (.array n 77)) (hct : Tryd.prog.cellsOf t = n)
    (hv : W.var? Tryd.prog name = some cs) (hd : DataW.trod (fun _ => ()) Tryd.prog W 0 (fun _ => true) false f t cs.toList = some (Lib.tabData .u32 (L.map Int.ofNat), p)) :
    ∀ (j x : Nat), L[j]? = some x → W.cell? ⟨g, j, none⟩ = some (.int .u32 (x : Int)) := by
  intro j x hx
  have h1 := Lib.cells_of_tab ht Tryd.underlying77 cells29 hct hd
  rw [World.var?_cell hg hv j]
  have h2 : cs[j]? = cs.toList[j]? := by simp
  rw [h2, h1]
  simp [hx]

theorem glob_of2 {W : World} (h : laidMetH Tryd.prog laid2 W) : Glob W := by
  rw [MakeChecks.laidMetH_plain _ _ _ (by kernel_rfl)] at h
  obtain ⟨ps, ⟨g0, t0, cs0, f0, p0, q0, hg0, ht0, hv0, hd0, ⟨g1, t1, cs1, f1, p1, q1, hg1, ht1, hv1, hd1, _, _⟩, _⟩, _, _⟩ := h
  obtain rfl := Option.some.inj (gStart.symm.trans hg0)
  obtain rfl := Option.some.inj (gAdded.symm.trans hg1)
  obtain rfl := Option.some.inj (tStart.symm.trans ht0)
  obtain rfl := Option.some.inj (tAdded.symm.trans ht1)
  rw [dStart] at hd0
  rw [dAdded] at hd1
  exact ⟨tab_cell gStart Tryd.underlying78 cells30 hv0 hd0, tab_cell gAdded Tryd.underlying85 cells46 hv1 hd1⟩

/-- What the document's own table holds. -/
def RefGlob (w : World) : Prop := ∀ (j x : Nat), Sha.keys[j]? = some x → w.cell? ⟨0, j, none⟩ = some (.int .u32 (x : Int))

theorem glob_of3 {W : World} (h : laidMetH Tryd.prog laid3 W) : Glob W ∧ RefGlob W := by
  rw [MakeChecks.laidMetH_plain _ _ _ (by kernel_rfl)] at h
  obtain ⟨ps, ⟨g2, t2, cs2, f2, p2, q2, hg2, ht2, hv2, hd2, ⟨g0, t0, cs0, f0, p0, q0, hg0, ht0, hv0, hd0, ⟨g1, t1, cs1, f1, p1, q1, hg1, ht1, hv1, hd1, _, _⟩, _⟩, _⟩, _, _⟩ := h
  obtain rfl := Option.some.inj (gStart.symm.trans hg0)
  obtain rfl := Option.some.inj (gAdded.symm.trans hg1)
  obtain rfl := Option.some.inj (gKeys.symm.trans hg2)
  obtain rfl := Option.some.inj (tStart.symm.trans ht0)
  obtain rfl := Option.some.inj (tAdded.symm.trans ht1)
  obtain rfl := Option.some.inj (tKeys.symm.trans ht2)
  rw [dStart] at hd0
  rw [dAdded] at hd1
  rw [dKeys] at hd2
  exact ⟨⟨tab_cell gStart Tryd.underlying78 cells30 hv0 hd0, tab_cell gAdded Tryd.underlying85 cells46 hv1 hd1⟩, tab_cell gKeys Tryd.underlying85 cells46 hv2 hd2⟩

/-- The door's own heap meets the condition. -/
theorem door_met2 (os : Os) (args : Array Value) : laidMetH Tryd.prog laid2 ((World.doorLaid Tryd.prog 24 os).forCall (fun _ _ => 0) ⟨#[], args, []⟩).memory :=
  laidMetH_of_parts3 (fuel := 8) (laidMet_of_run' 8 (by kernel_rfl) (by kernel_rfl)) (by kernel_rfl) (by kernel_rfl)
theorem door_met3 (os : Os) (args : Array Value) : laidMetH Tryd.prog laid3 ((World.doorLaid Tryd.prog 24 os).forCall (fun _ _ => 0) ⟨#[], args, []⟩).memory :=
  laidMetH_of_parts3 (fuel := 8) (laidMet_of_run' 8 (by kernel_rfl) (by kernel_rfl)) (by kernel_rfl) (by kernel_rfl)

end Go.Proofs.YthchcjjpplcfnaaDoor.Hsh
