/-
  DERIVED. GIVEN WITH THE SEED: THE CARDS: each row of YtmkakdfdfdcncaaGreatDoorRows.lean that lists a variable, with what it lists TIED to the program's text (the seventh form; the later family's looks); each row that meets fmt, with fmt's text TOLD by the authors' own Lean function (tested against real Go, not proved from fmt's source: count such statements apart). THE CARD IS WHAT COUNTS. Prove the row's statement (the work); the ties are given (YtmkakdfdfdcncaaGreatDoorTie.lean); close each card by the builder's one call (the guide's Derived/Test/ToyasCard.lean, 'card_holds'). Laid BY PROGRAM, IN A SANDBOX (cutbox-door.mjs). By AI agents, Wed Nov 11 2026. No macro, syntax, notation, axiom, sorry.
-/
import Derived.Test.YtmkakdfdfdcncaaGreatDoorRows
import GoSem.ClaimSeven
namespace Go.Proofs.YtmkakdfdfdcncaaGreatDoor
namespace Rows

/-- THE TIED CARD OF 'gantrylaw03.GrammarTurns'. -/
def grammarTurnsCard : Claim7 := { stood := { row := grammarTurnsRow, standIns := [], harness := (true, "e41ef272597e98c737718b5683552303747ac7b0e8f1e68d755b09a3b781fd92"), looks := false }, kinds := [], alts := [], laidByText := true, laidKinds := [.data], laidTests := true, laidLooks := .later }
def GrammarTurnsCardSaid : Prop := Claim7.holds Tryz.pinned (.plain (OpenSpec.ofChange grammarTurnsSpec)) grammarTurnsCard

/-- THE TIED CARD OF 'gantrylaw03.GrammarCodes'. -/
def grammarCodesCard : Claim7 := { stood := { row := grammarCodesRow, standIns := [], harness := (true, "e41ef272597e98c737718b5683552303747ac7b0e8f1e68d755b09a3b781fd92"), looks := false }, kinds := [], alts := [], laidByText := true, laidKinds := [.data], laidTests := true, laidLooks := .later }
def GrammarCodesCardSaid : Prop := Claim7.holds Tryz.pinned (.plain (OpenSpec.ofChange grammarCodesSpec)) grammarCodesCard

/-- THE TIED CARD OF 'gantrylaw03.GrammarBack'. -/
def grammarBackCard : Claim7 := { stood := { row := grammarBackRow, standIns := [], harness := (true, "e41ef272597e98c737718b5683552303747ac7b0e8f1e68d755b09a3b781fd92"), looks := false }, kinds := [], alts := [], laidByText := true, laidKinds := [.data], laidTests := true, laidLooks := .later }
def GrammarBackCardSaid : Prop := Claim7.holds Tryz.pinned (.plain (OpenSpec.ofChange grammarBackSpec)) grammarBackCard

/-- THE TIED CARD OF 'gantrylaw03.GrammarTwice'. -/
def grammarTwiceCard : Claim7 := { stood := { row := grammarTwiceRow, standIns := [], harness := (true, "e41ef272597e98c737718b5683552303747ac7b0e8f1e68d755b09a3b781fd92"), looks := false }, kinds := [], alts := [], laidByText := true, laidKinds := [.data], laidTests := true, laidLooks := .later }
def GrammarTwiceCardSaid : Prop := Claim7.holds Tryz.pinned (.plain (OpenSpec.ofChange grammarTwiceSpec)) grammarTwiceCard

/-- THE TIED CARD OF 'gantrylaw03.GrammarAll'. -/
def grammarAllCard : Claim7 := { stood := { row := grammarAllRow, standIns := [], harness := (true, "e41ef272597e98c737718b5683552303747ac7b0e8f1e68d755b09a3b781fd92"), looks := false }, kinds := [], alts := [], laidByText := true, laidKinds := [.data], laidTests := true, laidLooks := .later }
def GrammarAllCardSaid : Prop := Claim7.holds Tryz.pinned (.plain (OpenSpec.ofChange grammarAllSpec)) grammarAllCard

/-- THE TIED CARD OF 'gantrylaw03.GrammarOwn'. -/
def grammarOwnCard : Claim7 := { stood := { row := grammarOwnRow, standIns := [], harness := (true, "e41ef272597e98c737718b5683552303747ac7b0e8f1e68d755b09a3b781fd92"), looks := false }, kinds := [], alts := [], laidByText := true, laidKinds := [.data], laidTests := true, laidLooks := .later }
def GrammarOwnCardSaid : Prop := Claim7.holds Tryz.pinned (.plain (OpenSpec.ofChange grammarOwnSpec)) grammarOwnCard

/-- THE SECOND FORM's CARD OF 'gantrylaw03.GrammarTurns'. -/
def grammarTurnsUptoCard : Claim7 := { stood := { row := grammarTurnsUptoRow, standIns := [], harness := (true, "e41ef272597e98c737718b5683552303747ac7b0e8f1e68d755b09a3b781fd92"), looks := false }, kinds := [], alts := [], laidByText := true, laidKinds := [.data], laidTests := true, laidLooks := .later }
def GrammarTurnsUptoCardSaid : Prop := Claim7.holds Tryz.pinned (.plain (OpenSpec.upto grammarTurnsSpec)) grammarTurnsUptoCard

/-- THE SECOND FORM's CARD OF 'gantrylaw03.GrammarCodes'. -/
def grammarCodesUptoCard : Claim7 := { stood := { row := grammarCodesUptoRow, standIns := [], harness := (true, "e41ef272597e98c737718b5683552303747ac7b0e8f1e68d755b09a3b781fd92"), looks := false }, kinds := [], alts := [], laidByText := true, laidKinds := [.data], laidTests := true, laidLooks := .later }
def GrammarCodesUptoCardSaid : Prop := Claim7.holds Tryz.pinned (.plain (OpenSpec.upto grammarCodesSpec)) grammarCodesUptoCard

/-- THE SECOND FORM's CARD OF 'gantrylaw03.GrammarBack'. -/
def grammarBackUptoCard : Claim7 := { stood := { row := grammarBackUptoRow, standIns := [], harness := (true, "e41ef272597e98c737718b5683552303747ac7b0e8f1e68d755b09a3b781fd92"), looks := false }, kinds := [], alts := [], laidByText := true, laidKinds := [.data], laidTests := true, laidLooks := .later }
def GrammarBackUptoCardSaid : Prop := Claim7.holds Tryz.pinned (.plain (OpenSpec.upto grammarBackSpec)) grammarBackUptoCard

/-- THE SECOND FORM's CARD OF 'gantrylaw03.GrammarTwice'. -/
def grammarTwiceUptoCard : Claim7 := { stood := { row := grammarTwiceUptoRow, standIns := [], harness := (true, "e41ef272597e98c737718b5683552303747ac7b0e8f1e68d755b09a3b781fd92"), looks := false }, kinds := [], alts := [], laidByText := true, laidKinds := [.data], laidTests := true, laidLooks := .later }
def GrammarTwiceUptoCardSaid : Prop := Claim7.holds Tryz.pinned (.plain (OpenSpec.upto grammarTwiceSpec)) grammarTwiceUptoCard

/-- THE SECOND FORM's CARD OF 'gantrylaw03.GrammarAll'. -/
def grammarAllUptoCard : Claim7 := { stood := { row := grammarAllUptoRow, standIns := [], harness := (true, "e41ef272597e98c737718b5683552303747ac7b0e8f1e68d755b09a3b781fd92"), looks := false }, kinds := [], alts := [], laidByText := true, laidKinds := [.data], laidTests := true, laidLooks := .later }
def GrammarAllUptoCardSaid : Prop := Claim7.holds Tryz.pinned (.plain (OpenSpec.upto grammarAllSpec)) grammarAllUptoCard

/-- THE SECOND FORM's CARD OF 'gantrylaw03.GrammarOwn'. -/
def grammarOwnUptoCard : Claim7 := { stood := { row := grammarOwnUptoRow, standIns := [], harness := (true, "e41ef272597e98c737718b5683552303747ac7b0e8f1e68d755b09a3b781fd92"), looks := false }, kinds := [], alts := [], laidByText := true, laidKinds := [.data], laidTests := true, laidLooks := .later }
def GrammarOwnUptoCardSaid : Prop := Claim7.holds Tryz.pinned (.plain (OpenSpec.upto grammarOwnSpec)) grammarOwnUptoCard
end Rows
end Go.Proofs.YtmkakdfdfdcncaaGreatDoor
