/-
  DERIVED. GIVEN WITH THE SEED: THE CARDS: each row of YthaamdognbncnaaGreatDoorRows.lean that lists a variable, with what it lists TIED to the program's text (the seventh form; the later family's looks); each row that meets fmt, with fmt's text TOLD by the authors' own Lean function (tested against real Go, not proved from fmt's source: count such statements apart). THE CARD IS WHAT COUNTS. Prove the row's statement (the work); the ties are given (YthaamdognbncnaaGreatDoorTie.lean); close each card by the builder's one call (the guide's Derived/Test/ToyasCard.lean, 'card_holds'). Laid BY PROGRAM, IN A SANDBOX (cutbox-door.mjs). By AI agents, Wed Nov 11 2026. No macro, syntax, notation, axiom, sorry.
-/
import Derived.Test.YthaamdognbncnaaGreatDoorRows
import GoSem.ClaimSeven
namespace Go.Proofs.YthaamdognbncnaaGreatDoor
namespace Rows

/-- THE TIED CARD OF 'gantrylaw07.TrimOwn'. -/
def trimOwnCard : Claim7 := { stood := { row := trimOwnRow, standIns := [], harness := (true, "21748ad14ff0f1cb2912464bee36679161562c52dcb608060a0e941aa902c3e6"), looks := false }, kinds := [], alts := [], laidByText := true, laidKinds := [.data], laidTests := true, laidLooks := .later }
def TrimOwnCardSaid : Prop := Claim7.holds Tryz.pinned (.plain (OpenSpec.ofChange trimOwnSpec)) trimOwnCard

/-- THE SECOND FORM's CARD OF 'gantrylaw07.TrimOwn'. -/
def trimOwnUptoCard : Claim7 := { stood := { row := trimOwnUptoRow, standIns := [], harness := (true, "21748ad14ff0f1cb2912464bee36679161562c52dcb608060a0e941aa902c3e6"), looks := false }, kinds := [], alts := [], laidByText := true, laidKinds := [.data], laidTests := true, laidLooks := .later }
def TrimOwnUptoCardSaid : Prop := Claim7.holds Tryz.pinned (.plain (OpenSpec.upto trimOwnSpec)) trimOwnUptoCard
end Rows
end Go.Proofs.YthaamdognbncnaaGreatDoor
