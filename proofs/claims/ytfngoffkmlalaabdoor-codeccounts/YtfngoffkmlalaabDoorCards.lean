/-
  DERIVED. GIVEN WITH THE SEED: THE CARDS: each row of YtfngoffkmlalaabDoorRows.lean that lists a variable, with what it lists TIED to the program's text (the seventh form; the later family's looks); each row that meets fmt, with fmt's text TOLD by the authors' own Lean function (tested against real Go, not proved from fmt's source: count such statements apart). THE CARD IS WHAT COUNTS. Prove the row's statement (the work); the ties are given (YtfngoffkmlalaabDoorTie.lean); close each card by the builder's one call (the guide's Derived/Test/ToyasCard.lean, 'card_holds'). Laid BY PROGRAM, IN A SANDBOX (cutbox-door.mjs). By AI agents, Wed Nov 11 2026. No macro, syntax, notation, axiom, sorry.
-/
import Derived.Test.YtfngoffkmlalaabDoorRows
import GoSem.ClaimSeven
namespace Go.Proofs.YtfngoffkmlalaabDoor
namespace Rows

/-- THE TIED CARD OF 'gantrylaw01.CodecSums'. -/
def codecSumsCard : Claim7 := { stood := { row := codecSumsRow, standIns := [], harness := (true, "b4fcf329876944315ea5f13fee6e606978f6fdfd9691ba71c9a0817081d9029a"), looks := false }, kinds := [], alts := [], laidByText := true, laidKinds := [.data], laidTests := true, laidLooks := .later }
def CodecSumsCardSaid : Prop := Claim7.holds Tryd.pinned (.plain (OpenSpec.ofChange codecSumsSpec)) codecSumsCard

/-- THE TIED CARD OF 'gantrylaw01.CodecCounts'. -/
def codecCountsCard : Claim7 := { stood := { row := codecCountsRow, standIns := [], harness := (true, "b4fcf329876944315ea5f13fee6e606978f6fdfd9691ba71c9a0817081d9029a"), looks := false }, kinds := [], alts := [], laidByText := true, laidKinds := [.data], laidTests := true, laidLooks := .later }
def CodecCountsCardSaid : Prop := Claim7.holds Tryd.pinned (.plain (OpenSpec.ofChange codecCountsSpec)) codecCountsCard

/-- THE TIED CARD OF 'gantrylaw01.CodecOwn'. -/
def codecOwnCard : Claim7 := { stood := { row := codecOwnRow, standIns := [], harness := (true, "b4fcf329876944315ea5f13fee6e606978f6fdfd9691ba71c9a0817081d9029a"), looks := false }, kinds := [], alts := [], laidByText := true, laidKinds := [.data], laidTests := true, laidLooks := .later }
def CodecOwnCardSaid : Prop := Claim7.holds Tryd.pinned (.plain (OpenSpec.ofChange codecOwnSpec)) codecOwnCard

/-- THE SECOND FORM's CARD OF 'gantrylaw01.CodecSums'. -/
def codecSumsUptoCard : Claim7 := { stood := { row := codecSumsUptoRow, standIns := [], harness := (true, "b4fcf329876944315ea5f13fee6e606978f6fdfd9691ba71c9a0817081d9029a"), looks := false }, kinds := [], alts := [], laidByText := true, laidKinds := [.data], laidTests := true, laidLooks := .later }
def CodecSumsUptoCardSaid : Prop := Claim7.holds Tryd.pinned (.plain (OpenSpec.upto codecSumsSpec)) codecSumsUptoCard

/-- THE SECOND FORM's CARD OF 'gantrylaw01.CodecCounts'. -/
def codecCountsUptoCard : Claim7 := { stood := { row := codecCountsUptoRow, standIns := [], harness := (true, "b4fcf329876944315ea5f13fee6e606978f6fdfd9691ba71c9a0817081d9029a"), looks := false }, kinds := [], alts := [], laidByText := true, laidKinds := [.data], laidTests := true, laidLooks := .later }
def CodecCountsUptoCardSaid : Prop := Claim7.holds Tryd.pinned (.plain (OpenSpec.upto codecCountsSpec)) codecCountsUptoCard

/-- THE SECOND FORM's CARD OF 'gantrylaw01.CodecOwn'. -/
def codecOwnUptoCard : Claim7 := { stood := { row := codecOwnUptoRow, standIns := [], harness := (true, "b4fcf329876944315ea5f13fee6e606978f6fdfd9691ba71c9a0817081d9029a"), looks := false }, kinds := [], alts := [], laidByText := true, laidKinds := [.data], laidTests := true, laidLooks := .later }
def CodecOwnUptoCardSaid : Prop := Claim7.holds Tryd.pinned (.plain (OpenSpec.upto codecOwnSpec)) codecOwnUptoCard
end Rows
end Go.Proofs.YtfngoffkmlalaabDoor
