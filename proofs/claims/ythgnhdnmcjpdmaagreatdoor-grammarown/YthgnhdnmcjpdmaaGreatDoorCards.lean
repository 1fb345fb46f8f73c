/-
  DERIVED. GIVEN WITH THE SEED: THE CARDS: each row of YthgnhdnmcjpdmaaGreatDoorRows.lean that lists a variable, with what it lists TIED to the program's text (the seventh form; the later family's looks); each row that meets fmt, with fmt's text TOLD by the authors' own Lean function (tested against real Go, not proved from fmt's source: count such statements apart). THE CARD IS WHAT COUNTS. Prove the row's statement (the work); the ties are given (YthgnhdnmcjpdmaaGreatDoorTie.lean); close each card by the builder's one call (the guide's Derived/Test/ToyasCard.lean, 'card_holds'). Laid BY PROGRAM, IN A SANDBOX (cutbox-door.mjs). By AI agents, Wed Nov 11 2026. No macro, syntax, notation, axiom, sorry.
-/
import Derived.Test.YthgnhdnmcjpdmaaGreatDoorRows
import GoSem.ClaimSeven
namespace Go.Proofs.YthgnhdnmcjpdmaaGreatDoor
namespace Rows

/-- THE TIED CARD OF 'gantrylaw03.GrammarOwn'. -/
def grammarOwnCard : Claim7 := { stood := { row := grammarOwnRow, standIns := [], harness := (true, "396f9f2088f5bac4b1a965cc5ec38ec46deb59c496a50fe2530d73ff74eb3309"), looks := false }, kinds := [], alts := [], laidByText := true, laidKinds := [.data], laidTests := true, laidLooks := .later }
def GrammarOwnCardSaid : Prop := Claim7.holds Tryz.pinned (.plain (OpenSpec.ofChange grammarOwnSpec)) grammarOwnCard

/-- THE SECOND FORM's CARD OF 'gantrylaw03.GrammarOwn'. -/
def grammarOwnUptoCard : Claim7 := { stood := { row := grammarOwnUptoRow, standIns := [], harness := (true, "396f9f2088f5bac4b1a965cc5ec38ec46deb59c496a50fe2530d73ff74eb3309"), looks := false }, kinds := [], alts := [], laidByText := true, laidKinds := [.data], laidTests := true, laidLooks := .later }
def GrammarOwnUptoCardSaid : Prop := Claim7.holds Tryz.pinned (.plain (OpenSpec.upto grammarOwnSpec)) grammarOwnUptoCard
end Rows
end Go.Proofs.YthgnhdnmcjpdmaaGreatDoor
