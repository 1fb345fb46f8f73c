import Derived.Test.YtcgghlaifmlpiaaGreatDoorGArgToGInts
import Derived.Test.YtcgghlaifmlpiaaGreatDoorBT20
import Derived.Test.YtcgghlaifmlpiaaGreatDoorTie
import Derived.Test.YtcgghlaifmlpiaaGreatDoorCards
import Derived.Deep.DeepHandedRow
import Derived.Lib.LaidTab
namespace Go.Proofs.YtcgghlaifmlpiaaGreatDoor
set_option linter.unusedVariables false
open Go.ChangeShapes Go.WideShapes Go.ChangeAt Go.RowKit

theorem bcellsU8 : Tryz.prog.cellsOf 5 = 1 := by kernel_rfl
theorem gTabB : Tryz.prog.globalNamed "math/bits.deBruijn64tab" = some 0 := by kernel_rfl
theorem gTabTypeB : (Tryz.prog.globals[0]?).map (·.type) = some 185 := by kernel_rfl
theorem bcellsTab : Tryz.prog.cellsOf 185 = 64 := by kernel_rfl
theorem gTabNo : tzRen.g 1 = 0 := by kernel_rfl
/-- WHAT A ROW's LIST GIVES. -/
theorem tab_of {W : World} (h : laidMetH Tryz.prog [("math/bits.deBruijn64tab", Rows.laid_math_bits_deBruijn64tab)] W) : TabB W := by
  have t : Lib.TabIs Tryz.prog W "math/bits.deBruijn64tab" .u8 (Lib.deBruijn64tab.map fun (n : Nat) => (n : Int)) := Lib.tabIs_of_head (rest := []) gTabB gTabTypeB Tryz.underlying185 Tryz.underlying5 bcellsU8 bcellsTab h
  intro j hj
  rw [gTabNo]
  have := t.cell gTabB j (by rw [List.length_map]; exact hj)
  rw [this]
  simp [List.getD_eq_getElem?_getD, List.getElem?_eq_getElem hj]
end Go.Proofs.YtcgghlaifmlpiaaGreatDoor
