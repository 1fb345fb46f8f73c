/-
  DERIVED. GIVEN WITH THE SEED: THE CARDS: each row of YtobhemaikomdaaaGreatDoorRows.lean that lists a variable, with what it lists TIED to the program's text (the seventh form; the later family's looks); each row that meets fmt, with fmt's text TOLD by the authors' own Lean function (tested against real Go, not proved from fmt's source: count such statements apart). THE CARD IS WHAT COUNTS. Prove the row's statement (the work); the ties are given (YtobhemaikomdaaaGreatDoorTie.lean); close each card by the builder's one call (the guide's Derived/Test/ToyasCard.lean, 'card_holds'). Laid BY PROGRAM, IN A SANDBOX (cutbox-door.mjs). By AI agents, Wed Nov 11 2026. No macro, syntax, notation, axiom, sorry.
-/
import Derived.Test.YtobhemaikomdaaaGreatDoorRows
import GoSem.ClaimSeven
namespace Go.Proofs.YtobhemaikomdaaaGreatDoor
namespace Rows

/-- THE TIED CARD OF 'gantrylaw08.TreesDeep'. -/
def treesDeepCard : Claim7 := { stood := { row := treesDeepRow, standIns := [], harness := (true, "1be4c2534baa29dd0421b83987229852ae42a08e7507fb1190962f1916d34f19"), looks := false }, kinds := [], alts := [], laidByText := true, laidKinds := [.data], laidTests := true, laidLooks := .later }
def TreesDeepCardSaid : Prop := Claim7.holds Tryz.pinned (.plain (OpenSpec.ofChange treesDeepSpec)) treesDeepCard

/-- THE SECOND FORM's CARD OF 'gantrylaw08.TreesDeep'. -/
def treesDeepUptoCard : Claim7 := { stood := { row := treesDeepUptoRow, standIns := [], harness := (true, "1be4c2534baa29dd0421b83987229852ae42a08e7507fb1190962f1916d34f19"), looks := false }, kinds := [], alts := [], laidByText := true, laidKinds := [.data], laidTests := true, laidLooks := .later }
def TreesDeepUptoCardSaid : Prop := Claim7.holds Tryz.pinned (.plain (OpenSpec.upto treesDeepSpec)) treesDeepUptoCard
end Rows
end Go.Proofs.YtobhemaikomdaaaGreatDoor
