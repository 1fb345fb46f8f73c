/-
  DERIVED. GIVEN WITH THE SEED: THE CARDS: each row of YtfgfkchhkbkplaaGreatDoorRows.lean that lists a variable, with what it lists TIED to the program's text (the seventh form; the later family's looks); each row that meets fmt, with fmt's text TOLD by the authors' own Lean function (tested against real Go, not proved from fmt's source: count such statements apart). THE CARD IS WHAT COUNTS. Prove the row's statement (the work); the ties are given (YtfgfkchhkbkplaaGreatDoorTie.lean); close each card by the builder's one call (the guide's Derived/Test/ToyasCard.lean, 'card_holds'). Laid BY PROGRAM, IN A SANDBOX (cutbox-door.mjs). By AI agents, Wed Nov 11 2026. No macro, syntax, notation, axiom, sorry.
-/
import Derived.Test.YtfgfkchhkbkplaaGreatDoorRows
import GoSem.ClaimSeven
namespace Go.Proofs.YtfgfkchhkbkplaaGreatDoor
namespace Rows

/-- THE TIED CARD OF 'gantrylaw08.TreesBytes'. -/
def treesBytesCard : Claim7 := { stood := { row := treesBytesRow, standIns := [], harness := (true, "bb5e1786b5e55bbc7cd67d5fb559a2c2f2f7331f5af24e942769b57aaf06c323"), looks := false }, kinds := [], alts := [], laidByText := true, laidKinds := [.data], laidTests := true, laidLooks := .later }
def TreesBytesCardSaid : Prop := Claim7.holds Tryz.pinned (.plain (OpenSpec.ofChange treesBytesSpec)) treesBytesCard

/-- THE TIED CARD OF 'gantrylaw08.TreesCodes'. -/
def treesCodesCard : Claim7 := { stood := { row := treesCodesRow, standIns := [], harness := (true, "bb5e1786b5e55bbc7cd67d5fb559a2c2f2f7331f5af24e942769b57aaf06c323"), looks := false }, kinds := [], alts := [], laidByText := true, laidKinds := [.data], laidTests := true, laidLooks := .later }
def TreesCodesCardSaid : Prop := Claim7.holds Tryz.pinned (.plain (OpenSpec.ofChange treesCodesSpec)) treesCodesCard

/-- THE TIED CARD OF 'gantrylaw08.TreesOwn'. -/
def treesOwnCard : Claim7 := { stood := { row := treesOwnRow, standIns := [], harness := (true, "bb5e1786b5e55bbc7cd67d5fb559a2c2f2f7331f5af24e942769b57aaf06c323"), looks := false }, kinds := [], alts := [], laidByText := true, laidKinds := [.data], laidTests := true, laidLooks := .later }
def TreesOwnCardSaid : Prop := Claim7.holds Tryz.pinned (.plain (OpenSpec.ofChange treesOwnSpec)) treesOwnCard

/-- THE SECOND FORM's CARD OF 'gantrylaw08.TreesBytes'. -/
def treesBytesUptoCard : Claim7 := { stood := { row := treesBytesUptoRow, standIns := [], harness := (true, "bb5e1786b5e55bbc7cd67d5fb559a2c2f2f7331f5af24e942769b57aaf06c323"), looks := false }, kinds := [], alts := [], laidByText := true, laidKinds := [.data], laidTests := true, laidLooks := .later }
def TreesBytesUptoCardSaid : Prop := Claim7.holds Tryz.pinned (.plain (OpenSpec.upto treesBytesSpec)) treesBytesUptoCard

/-- THE SECOND FORM's CARD OF 'gantrylaw08.TreesCodes'. -/
def treesCodesUptoCard : Claim7 := { stood := { row := treesCodesUptoRow, standIns := [], harness := (true, "bb5e1786b5e55bbc7cd67d5fb559a2c2f2f7331f5af24e942769b57aaf06c323"), looks := false }, kinds := [], alts := [], laidByText := true, laidKinds := [.data], laidTests := true, laidLooks := .later }
def TreesCodesUptoCardSaid : Prop := Claim7.holds Tryz.pinned (.plain (OpenSpec.upto treesCodesSpec)) treesCodesUptoCard

/-- THE SECOND FORM's CARD OF 'gantrylaw08.TreesOwn'. -/
def treesOwnUptoCard : Claim7 := { stood := { row := treesOwnUptoRow, standIns := [], harness := (true, "bb5e1786b5e55bbc7cd67d5fb559a2c2f2f7331f5af24e942769b57aaf06c323"), looks := false }, kinds := [], alts := [], laidByText := true, laidKinds := [.data], laidTests := true, laidLooks := .later }
def TreesOwnUptoCardSaid : Prop := Claim7.holds Tryz.pinned (.plain (OpenSpec.upto treesOwnSpec)) treesOwnUptoCard
end Rows
end Go.Proofs.YtfgfkchhkbkplaaGreatDoor
