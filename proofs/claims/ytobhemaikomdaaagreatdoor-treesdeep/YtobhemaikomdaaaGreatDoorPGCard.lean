import Derived.Test.YtobhemaikomdaaaGreatDoorPGRulesToGBulk
import Derived.Test.YtobhemaikomdaaaGreatDoorTie
import Derived.Test.YtobhemaikomdaaaGreatDoorCards
import Derived.Test.YtobhemaikomdaaaGreatDoorPPlainToWText
import Derived.Deep.DeepHandedRow
import Derived.Lib.LaidTab
namespace Go.Proofs.YtobhemaikomdaaaGreatDoor
set_option linter.unusedVariables false
open Go.ChangeShapes Go.WideShapes Go.ChangeAt Go.RowKit
theorem gcellsU8 : Tryz.prog.cellsOf 5 = 1 := by kernel_rfl
theorem gTabG : Tryz.prog.globalNamed "gantry/codec.magic" = some 0 := by kernel_rfl
theorem gTabTypeG : (Tryz.prog.globals[0]?).map (·.type) = some 164 := by kernel_rfl
theorem gcellsTab : Tryz.prog.cellsOf 164 = 3 := by kernel_rfl
theorem gmagic_of {W : World} (h : laidMetH Tryz.prog [("gantry/codec.magic", Rows.laid_gantry_codec_magic)] W) : C.Magic W := by
 have t : Lib.TabIs Tryz.prog W "gantry/codec.magic" .u8 [103, 116, 114] := Lib.tabIs_of_head (rest := []) gTabG gTabTypeG Tryz.underlying164 Tryz.underlying5 gcellsU8 gcellsTab h
 exact ⟨t.cell gTabG 0 (by decide), t.cell gTabG 1 (by decide), t.cell gTabG 2 (by decide)⟩
end Go.Proofs.YtobhemaikomdaaaGreatDoor
