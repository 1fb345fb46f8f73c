/-
  DERIVED. GIVEN WITH THE SEED: THE CARDS: each row of YtockbobpmiagiaaGreatDoorRows.lean that lists a variable, with what it lists TIED to the program's text (the seventh form; the later family's looks); each row that meets fmt, with fmt's text TOLD by the authors' own Lean function (tested against real Go, not proved from fmt's source: count such statements apart). THE CARD IS WHAT COUNTS. Prove the row's statement (the work); the ties are given (YtockbobpmiagiaaGreatDoorTie.lean); close each card by the builder's one call (the guide's Derived/Test/ToyasCard.lean, 'card_holds'). Laid BY PROGRAM, IN A SANDBOX (cutbox-door.mjs). By AI agents, Wed Nov 11 2026. No macro, syntax, notation, axiom, sorry.
-/
import Derived.Test.YtockbobpmiagiaaGreatDoorRows
import GoSem.ClaimSeven
namespace Go.Proofs.YtockbobpmiagiaaGreatDoor
namespace Rows

/-- THE TIED CARD OF 'gantrylaw07.TrimTrees'. -/
def trimTreesCard : Claim7 := { stood := { row := trimTreesRow, standIns := [], harness := (true, "2e48b65150126b668cd86051057c89178cee0d787c4d441973424c8c06e6865a"), looks := false }, kinds := [], alts := [], laidByText := true, laidKinds := [.data], laidTests := true, laidLooks := .later }
def TrimTreesCardSaid : Prop := Claim7.holds Tryz.pinned (.plain (OpenSpec.ofChange trimTreesSpec)) trimTreesCard

/-- THE SECOND FORM's CARD OF 'gantrylaw07.TrimTrees'. -/
def trimTreesUptoCard : Claim7 := { stood := { row := trimTreesUptoRow, standIns := [], harness := (true, "2e48b65150126b668cd86051057c89178cee0d787c4d441973424c8c06e6865a"), looks := false }, kinds := [], alts := [], laidByText := true, laidKinds := [.data], laidTests := true, laidLooks := .later }
def TrimTreesUptoCardSaid : Prop := Claim7.holds Tryz.pinned (.plain (OpenSpec.upto trimTreesSpec)) trimTreesUptoCard
end Rows
end Go.Proofs.YtockbobpmiagiaaGreatDoor
