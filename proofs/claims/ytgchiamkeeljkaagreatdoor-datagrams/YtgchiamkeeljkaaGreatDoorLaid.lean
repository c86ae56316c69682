/-
  What the listed variables give the walks: the tables' cells; and that the program's own door meets the condition.
-/
import Derived.Test.YtgchiamkeeljkaaGreatDoorGf
import Derived.Lib.LaidTab
import Derived.ProofKit
import Derived.LaidMore
import Derived.OpenShut
import Derived.Stop.Joined
namespace Go.Proofs.YtgchiamkeeljkaaGreatDoor
open Go.ChangeShapes Go.WideShapes Go.ChangeAt Go.RowKit Go.Proofs.YtgchiamkeeljkaaGreatDoor.M

theorem own : ownKnob Tryz.prog.godebug = none := by kernel_rfl
def laid4 : List (String × DataW Unit) := [("math/bits.deBruijn32tab", Rows.laid_math_bits_deBruijn32tab), ("math/bits.deBruijn64tab", Rows.laid_math_bits_deBruijn64tab), ("weave/gf.powers", Rows.laid_weave_gf_powers), ("weave/gf.oddLogarithms", Rows.laid_weave_gf_oddLogarithms)]
theorem gPow : Tryz.prog.globalNamed "weave/gf.powers" = some 0 := by kernel_rfl
theorem gOdd : Tryz.prog.globalNamed "weave/gf.oddLogarithms" = some 1 := by kernel_rfl
theorem gDb : Tryz.prog.globalNamed "math/bits.deBruijn64tab" = some 3 := by kernel_rfl
theorem tPow : (Tryz.prog.globals[0]?).map (·.type) = some 221 := by kernel_rfl
theorem tOdd : (Tryz.prog.globals[1]?).map (·.type) = some 224 := by kernel_rfl
theorem tDb : (Tryz.prog.globals[3]?).map (·.type) = some 280 := by kernel_rfl
theorem c5 : Tryz.prog.cellsOf 5 = 1 := by kernel_rfl
theorem c77 : Tryz.prog.cellsOf 221 = 247 := by kernel_rfl
theorem c80 : Tryz.prog.cellsOf 224 = 128 := by kernel_rfl
theorem c161 : Tryz.prog.cellsOf 280 = 64 := by kernel_rfl
theorem dPow {H : Type} : (Rows.laid_weave_gf_powers : DataW H) = Lib.tabData .u8 pows := by kernel_rfl
theorem dOdd {H : Type} : (Rows.laid_weave_gf_oddLogarithms : DataW H) = Lib.tabData .u8 odds := by kernel_rfl
theorem dDb {H : Type} : (Rows.laid_math_bits_deBruijn64tab : DataW H) = Lib.tabData .u8 dbs := by kernel_rfl

theorem lPow : pows.length = 247 := by kernel_rfl
theorem lOdd : odds.length = 128 := by kernel_rfl
theorem lDb : dbs.length = 64 := by kernel_rfl

/-- The door's own heap meets the condition. -/
theorem door_met (os : Os) (args : Array Value) : laidMetH Tryz.prog laid4 ((World.doorLaid Tryz.prog 29 os).forCall (fun _ _ => 0) ⟨#[], args, []⟩).memory :=
  laidMetH_of_parts3 (fuel := 8) (laidMet_of_run' 8 (by kernel_rfl) (by kernel_rfl)) (by kernel_rfl) (by kernel_rfl)

theorem tabs_of_laid {W : World} (h : laidMetH Tryz.prog laid4 W) : Tabs W := by
  rw [MakeChecks.laidMetH_plain _ _ _ (by kernel_rfl)] at h
  obtain ⟨ps, ⟨ga, ta, csa, fa, pa, qa, hga, hta, hva, hda, ⟨g0, t0, cs0, f0, p0, q0, hg0, ht0, hv0, hd0, ⟨g1, t1, cs1, f1, p1, q1, hg1, ht1, hv1, hd1, ⟨g2, t2, cs2, f2, p2, q2, hg2, ht2, hv2, hd2, _, _⟩, _⟩, _⟩, _⟩, _, _⟩ := h
  obtain rfl := Option.some.inj (gDb.symm.trans hg0)
  obtain rfl := Option.some.inj (gPow.symm.trans hg1)
  obtain rfl := Option.some.inj (gOdd.symm.trans hg2)
  obtain rfl := Option.some.inj (tDb.symm.trans ht0)
  obtain rfl := Option.some.inj (tPow.symm.trans ht1)
  obtain rfl := Option.some.inj (tOdd.symm.trans ht2)
  have e0 := Lib.cells_of_tab Tryz.underlying280 Tryz.underlying5 c5 c161 (hd0.trans (by rw [dDb]))
  have e1 := Lib.cells_of_tab Tryz.underlying221 Tryz.underlying5 c5 c77 (hd1.trans (by rw [dPow]))
  have e2 := Lib.cells_of_tab Tryz.underlying224 Tryz.underlying5 c5 c80 (hd2.trans (by rw [dOdd]))
  refine ⟨fun i hi => ?_, fun i hi => ?_, fun i hi => ?_⟩
  · exact (show Lib.TabIs Tryz.prog W _ .u8 pows by unfold Lib.TabIs; rw [hv1, ← e1]).cell hg1 i (by rw [lPow]; exact hi)
  · exact (show Lib.TabIs Tryz.prog W _ .u8 odds by unfold Lib.TabIs; rw [hv2, ← e2]).cell hg2 i (by rw [lOdd]; exact hi)
  · exact (show Lib.TabIs Tryz.prog W _ .u8 dbs by unfold Lib.TabIs; rw [hv0, ← e0]).cell hg0 i (by rw [lDb]; exact hi)
end Go.Proofs.YtgchiamkeeljkaaGreatDoor
