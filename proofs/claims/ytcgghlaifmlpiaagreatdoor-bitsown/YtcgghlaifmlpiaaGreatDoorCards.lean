/-
  DERIVED. GIVEN WITH THE SEED: THE CARDS: each row of YtcgghlaifmlpiaaGreatDoorRows.lean that lists a variable, with what it lists TIED to the program's text (the seventh form; the later family's looks); each row that meets fmt, with fmt's text TOLD by the authors' own Lean function (tested against real Go, not proved from fmt's source: count such statements apart). THE CARD IS WHAT COUNTS. Prove the row's statement (the work); the ties are given (YtcgghlaifmlpiaaGreatDoorTie.lean); close each card by the builder's one call (the guide's Derived/Test/ToyasCard.lean, 'card_holds'). Laid BY PROGRAM, IN A SANDBOX (cutbox-door.mjs). By AI agents, Wed Nov 11 2026. No macro, syntax, notation, axiom, sorry.
-/
import Derived.Test.YtcgghlaifmlpiaaGreatDoorRows
import GoSem.ClaimSeven
namespace Go.Proofs.YtcgghlaifmlpiaaGreatDoor
namespace Rows

/-- THE TIED CARD OF 'gantrylaw05.BitsRelations'. -/
def bitsRelationsCard : Claim7 := { stood := { row := bitsRelationsRow, standIns := [], harness := (true, "f3209abddad24db55af7cd4e92119a7b02e39b2d2056e6ac9d6b2ed05bb3ca40"), looks := false }, kinds := [], alts := [], laidByText := true, laidKinds := [.data], laidTests := true, laidLooks := .later }
def BitsRelationsCardSaid : Prop := Claim7.holds Tryz.pinned (.plain (OpenSpec.ofChange bitsRelationsSpec)) bitsRelationsCard

/-- THE TIED CARD OF 'gantrylaw05.BitsDigraphs'. -/
def bitsDigraphsCard : Claim7 := { stood := { row := bitsDigraphsRow, standIns := [], harness := (true, "f3209abddad24db55af7cd4e92119a7b02e39b2d2056e6ac9d6b2ed05bb3ca40"), looks := false }, kinds := [], alts := [], laidByText := true, laidKinds := [.data], laidTests := true, laidLooks := .later }
def BitsDigraphsCardSaid : Prop := Claim7.holds Tryz.pinned (.plain (OpenSpec.ofChange bitsDigraphsSpec)) bitsDigraphsCard

/-- THE TIED CARD OF 'gantrylaw05.BitsOwn'. -/
def bitsOwnCard : Claim7 := { stood := { row := bitsOwnRow, standIns := [], harness := (true, "f3209abddad24db55af7cd4e92119a7b02e39b2d2056e6ac9d6b2ed05bb3ca40"), looks := false }, kinds := [], alts := [], laidByText := true, laidKinds := [.data], laidTests := true, laidLooks := .later }
def BitsOwnCardSaid : Prop := Claim7.holds Tryz.pinned (.plain (OpenSpec.ofChange bitsOwnSpec)) bitsOwnCard

/-- THE SECOND FORM's CARD OF 'gantrylaw05.BitsRelations'. -/
def bitsRelationsUptoCard : Claim7 := { stood := { row := bitsRelationsUptoRow, standIns := [], harness := (true, "f3209abddad24db55af7cd4e92119a7b02e39b2d2056e6ac9d6b2ed05bb3ca40"), looks := false }, kinds := [], alts := [], laidByText := true, laidKinds := [.data], laidTests := true, laidLooks := .later }
def BitsRelationsUptoCardSaid : Prop := Claim7.holds Tryz.pinned (.plain (OpenSpec.upto bitsRelationsSpec)) bitsRelationsUptoCard

/-- THE SECOND FORM's CARD OF 'gantrylaw05.BitsDigraphs'. -/
def bitsDigraphsUptoCard : Claim7 := { stood := { row := bitsDigraphsUptoRow, standIns := [], harness := (true, "f3209abddad24db55af7cd4e92119a7b02e39b2d2056e6ac9d6b2ed05bb3ca40"), looks := false }, kinds := [], alts := [], laidByText := true, laidKinds := [.data], laidTests := true, laidLooks := .later }
def BitsDigraphsUptoCardSaid : Prop := Claim7.holds Tryz.pinned (.plain (OpenSpec.upto bitsDigraphsSpec)) bitsDigraphsUptoCard

/-- THE SECOND FORM's CARD OF 'gantrylaw05.BitsOwn'. -/
def bitsOwnUptoCard : Claim7 := { stood := { row := bitsOwnUptoRow, standIns := [], harness := (true, "f3209abddad24db55af7cd4e92119a7b02e39b2d2056e6ac9d6b2ed05bb3ca40"), looks := false }, kinds := [], alts := [], laidByText := true, laidKinds := [.data], laidTests := true, laidLooks := .later }
def BitsOwnUptoCardSaid : Prop := Claim7.holds Tryz.pinned (.plain (OpenSpec.upto bitsOwnSpec)) bitsOwnUptoCard
end Rows
end Go.Proofs.YtcgghlaifmlpiaaGreatDoor
