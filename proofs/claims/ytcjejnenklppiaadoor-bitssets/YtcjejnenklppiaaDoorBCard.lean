import Derived.Test.YtcjejnenklppiaaDoorGArgToGInts
import Derived.Test.YtcjejnenklppiaaDoorBT20
import Derived.Test.YtcjejnenklppiaaDoorTie
import Derived.Test.YtcjejnenklppiaaDoorCards
import Derived.Deep.DeepHandedRow
import Derived.Lib.LaidTab
namespace Go.Proofs.YtcjejnenklppiaaDoor
set_option linter.unusedVariables false
open Go.ChangeShapes Go.WideShapes Go.ChangeAt Go.RowKit

theorem bcellsU8 : Tryd.prog.cellsOf 5 = 1 := by kernel_rfl
theorem gTabB : Tryd.prog.globalNamed "math/bits.deBruijn64tab" = some 0 := by kernel_rfl
theorem gTabTypeB : (Tryd.prog.globals[0]?).map (·.type) = some 91 := by kernel_rfl
theorem bcellsTab : Tryd.prog.cellsOf 91 = 64 := by kernel_rfl
theorem gTabNo : tzRen.g 1 = 0 := by kernel_rfl
/-- WHAT A ROW's LIST GIVES. -/
theorem tab_of {W : World} (h : laidMetH Tryd.prog [("math/bits.deBruijn64tab", Rows.laid_math_bits_deBruijn64tab)] W) : TabB W := by
  have t : Lib.TabIs Tryd.prog W "math/bits.deBruijn64tab" .u8 (Lib.deBruijn64tab.map fun (n : Nat) => (n : Int)) := Lib.tabIs_of_head (rest := []) gTabB gTabTypeB Tryd.underlying91 Tryd.underlying5 bcellsU8 bcellsTab h
  intro j hj
  rw [gTabNo]
  have := t.cell gTabB j (by rw [List.length_map]; exact hj)
  rw [this]
  simp [List.getD_eq_getElem?_getD, List.getElem?_eq_getElem hj]
end Go.Proofs.YtcjejnenklppiaaDoor
