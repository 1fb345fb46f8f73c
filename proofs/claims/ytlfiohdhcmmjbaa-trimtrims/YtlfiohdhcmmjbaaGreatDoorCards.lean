/-
  DERIVED. GIVEN WITH THE SEED: THE CARDS: each row of YtlfiohdhcmmjbaaGreatDoorRows.lean that lists a variable, with what it lists TIED to the program's text (the seventh form; the later family's looks); each row that meets fmt, with fmt's text TOLD by the authors' own Lean function (tested against real Go, not proved from fmt's source: count such statements apart). THE CARD IS WHAT COUNTS. Prove the row's statement (the work); the ties are given (YtlfiohdhcmmjbaaGreatDoorTie.lean); close each card by the builder's one call (the guide's Derived/Test/ToyasCard.lean, 'card_holds'). Laid BY PROGRAM, IN A SANDBOX (cutbox-door.mjs). By AI agents, Wed Nov 11 2026. No macro, syntax, notation, axiom, sorry.
-/
import Derived.Test.YtlfiohdhcmmjbaaGreatDoorRows
import GoSem.ClaimSeven
namespace Go.Proofs.YtlfiohdhcmmjbaaGreatDoor
namespace Rows

/-- THE TIED CARD OF 'gantrylaw07.TrimTells'. -/
def trimTellsCard : Claim7 := { stood := { row := trimTellsRow, standIns := [], harness := (true, "808264d2ea16fcc0dbd398dd301813ab0560b2a1ec1c41c2f3d77cd2ef4511f0"), looks := false }, kinds := [], alts := [], laidByText := true, laidKinds := [.data], laidTests := true, laidLooks := .later }
def TrimTellsCardSaid : Prop := Claim7.holds Tryz.pinned (.plain (OpenSpec.ofChange trimTellsSpec)) trimTellsCard

/-- THE TIED CARD OF 'gantrylaw07.TrimTrims'. -/
def trimTrimsCard : Claim7 := { stood := { row := trimTrimsRow, standIns := [], harness := (true, "808264d2ea16fcc0dbd398dd301813ab0560b2a1ec1c41c2f3d77cd2ef4511f0"), looks := false }, kinds := [], alts := [], laidByText := true, laidKinds := [.data], laidTests := true, laidLooks := .later }
def TrimTrimsCardSaid : Prop := Claim7.holds Tryz.pinned (.plain (OpenSpec.ofChange trimTrimsSpec)) trimTrimsCard

/-- THE TIED CARD OF 'gantrylaw07.TrimClean'. -/
def trimCleanCard : Claim7 := { stood := { row := trimCleanRow, standIns := [], harness := (true, "808264d2ea16fcc0dbd398dd301813ab0560b2a1ec1c41c2f3d77cd2ef4511f0"), looks := false }, kinds := [], alts := [], laidByText := true, laidKinds := [.data], laidTests := true, laidLooks := .later }
def TrimCleanCardSaid : Prop := Claim7.holds Tryz.pinned (.plain (OpenSpec.ofChange trimCleanSpec)) trimCleanCard

/-- THE TIED CARD OF 'gantrylaw07.TrimWell'. -/
def trimWellCard : Claim7 := { stood := { row := trimWellRow, standIns := [], harness := (true, "808264d2ea16fcc0dbd398dd301813ab0560b2a1ec1c41c2f3d77cd2ef4511f0"), looks := false }, kinds := [], alts := [], laidByText := true, laidKinds := [.data], laidTests := true, laidLooks := .later }
def TrimWellCardSaid : Prop := Claim7.holds Tryz.pinned (.plain (OpenSpec.ofChange trimWellSpec)) trimWellCard

/-- THE SECOND FORM's CARD OF 'gantrylaw07.TrimTells'. -/
def trimTellsUptoCard : Claim7 := { stood := { row := trimTellsUptoRow, standIns := [], harness := (true, "808264d2ea16fcc0dbd398dd301813ab0560b2a1ec1c41c2f3d77cd2ef4511f0"), looks := false }, kinds := [], alts := [], laidByText := true, laidKinds := [.data], laidTests := true, laidLooks := .later }
def TrimTellsUptoCardSaid : Prop := Claim7.holds Tryz.pinned (.plain (OpenSpec.upto trimTellsSpec)) trimTellsUptoCard

/-- THE SECOND FORM's CARD OF 'gantrylaw07.TrimTrims'. -/
def trimTrimsUptoCard : Claim7 := { stood := { row := trimTrimsUptoRow, standIns := [], harness := (true, "808264d2ea16fcc0dbd398dd301813ab0560b2a1ec1c41c2f3d77cd2ef4511f0"), looks := false }, kinds := [], alts := [], laidByText := true, laidKinds := [.data], laidTests := true, laidLooks := .later }
def TrimTrimsUptoCardSaid : Prop := Claim7.holds Tryz.pinned (.plain (OpenSpec.upto trimTrimsSpec)) trimTrimsUptoCard

/-- THE SECOND FORM's CARD OF 'gantrylaw07.TrimClean'. -/
def trimCleanUptoCard : Claim7 := { stood := { row := trimCleanUptoRow, standIns := [], harness := (true, "808264d2ea16fcc0dbd398dd301813ab0560b2a1ec1c41c2f3d77cd2ef4511f0"), looks := false }, kinds := [], alts := [], laidByText := true, laidKinds := [.data], laidTests := true, laidLooks := .later }
def TrimCleanUptoCardSaid : Prop := Claim7.holds Tryz.pinned (.plain (OpenSpec.upto trimCleanSpec)) trimCleanUptoCard

/-- THE SECOND FORM's CARD OF 'gantrylaw07.TrimWell'. -/
def trimWellUptoCard : Claim7 := { stood := { row := trimWellUptoRow, standIns := [], harness := (true, "808264d2ea16fcc0dbd398dd301813ab0560b2a1ec1c41c2f3d77cd2ef4511f0"), looks := false }, kinds := [], alts := [], laidByText := true, laidKinds := [.data], laidTests := true, laidLooks := .later }
def TrimWellUptoCardSaid : Prop := Claim7.holds Tryz.pinned (.plain (OpenSpec.upto trimWellSpec)) trimWellUptoCard
end Rows
end Go.Proofs.YtlfiohdhcmmjbaaGreatDoor
