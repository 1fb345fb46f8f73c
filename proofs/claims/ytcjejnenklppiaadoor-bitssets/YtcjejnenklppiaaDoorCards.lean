/-
  DERIVED. GIVEN WITH THE SEED: THE CARDS: each row of YtcjejnenklppiaaDoorRows.lean that lists a variable, with what it lists TIED to the program's text (the seventh form; the later family's looks); each row that meets fmt, with fmt's text TOLD by the authors' own Lean function (tested against real Go, not proved from fmt's source: count such statements apart). THE CARD IS WHAT COUNTS. Prove the row's statement (the work); the ties are given (YtcjejnenklppiaaDoorTie.lean); close each card by the builder's one call (the guide's Derived/Test/ToyasCard.lean, 'card_holds'). Laid BY PROGRAM, IN A SANDBOX (cutbox-door.mjs). By AI agents, Wed Nov 11 2026. No macro, syntax, notation, axiom, sorry.
-/
import Derived.Test.YtcjejnenklppiaaDoorRows
import GoSem.ClaimSeven
namespace Go.Proofs.YtcjejnenklppiaaDoor
namespace Rows

/-- THE TIED CARD OF 'gantrylaw05.BitsSets'. -/
def bitsSetsCard : Claim7 := { stood := { row := bitsSetsRow, standIns := [], harness := (true, "de9ad6b0daae3df3d5c83268b92bcf7145f1470da4aba3cfb1f027f651c9f1f7"), looks := false }, kinds := [], alts := [], laidByText := true, laidKinds := [.data], laidTests := true, laidLooks := .later }
def BitsSetsCardSaid : Prop := Claim7.holds Tryd.pinned (.plain (OpenSpec.ofChange bitsSetsSpec)) bitsSetsCard

/-- THE TIED CARD OF 'gantrylaw05.BitsSolves'. -/
def bitsSolvesCard : Claim7 := { stood := { row := bitsSolvesRow, standIns := [], harness := (true, "de9ad6b0daae3df3d5c83268b92bcf7145f1470da4aba3cfb1f027f651c9f1f7"), looks := false }, kinds := [], alts := [], laidByText := true, laidKinds := [.data], laidTests := true, laidLooks := .later }
def BitsSolvesCardSaid : Prop := Claim7.holds Tryd.pinned (.plain (OpenSpec.ofChange bitsSolvesSpec)) bitsSolvesCard

/-- THE SECOND FORM's CARD OF 'gantrylaw05.BitsSets'. -/
def bitsSetsUptoCard : Claim7 := { stood := { row := bitsSetsUptoRow, standIns := [], harness := (true, "de9ad6b0daae3df3d5c83268b92bcf7145f1470da4aba3cfb1f027f651c9f1f7"), looks := false }, kinds := [], alts := [], laidByText := true, laidKinds := [.data], laidTests := true, laidLooks := .later }
def BitsSetsUptoCardSaid : Prop := Claim7.holds Tryd.pinned (.plain (OpenSpec.upto bitsSetsSpec)) bitsSetsUptoCard

/-- THE SECOND FORM's CARD OF 'gantrylaw05.BitsSolves'. -/
def bitsSolvesUptoCard : Claim7 := { stood := { row := bitsSolvesUptoRow, standIns := [], harness := (true, "de9ad6b0daae3df3d5c83268b92bcf7145f1470da4aba3cfb1f027f651c9f1f7"), looks := false }, kinds := [], alts := [], laidByText := true, laidKinds := [.data], laidTests := true, laidLooks := .later }
def BitsSolvesUptoCardSaid : Prop := Claim7.holds Tryd.pinned (.plain (OpenSpec.upto bitsSolvesSpec)) bitsSolvesUptoCard
end Rows
end Go.Proofs.YtcjejnenklppiaaDoor
