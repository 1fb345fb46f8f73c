/-
  DERIVED. GIVEN WITH THE SEED: THE CARDS: each row of YtmpdgmigpjfcpaaDoorRows.lean that lists a variable, with what it lists TIED to the program's text (the seventh form; the later family's looks); each row that meets fmt, with fmt's text TOLD by the authors' own Lean function (tested against real Go, not proved from fmt's source: count such statements apart). THE CARD IS WHAT COUNTS. Prove the row's statement (the work); the ties are given (YtmpdgmigpjfcpaaDoorTie.lean); close each card by the builder's one call (the guide's Derived/Test/ToyasCard.lean, 'card_holds'). Laid BY PROGRAM, IN A SANDBOX (cutbox-door.mjs). By AI agents, Wed Nov 11 2026. No macro, syntax, notation, axiom, sorry.
-/
import Derived.Test.YtmpdgmigpjfcpaaDoorRows
import GoSem.ClaimSeven
namespace Go.Proofs.YtmpdgmigpjfcpaaDoor
namespace Rows

/-- THE TIED CARD OF 'gantrylaw05.BitsSets'. -/
def bitsSetsCard : Claim7 := { stood := { row := bitsSetsRow, standIns := [], harness := (true, "d1e6bff62660d0404d99adf6dc0a855de2c3dcdc6796a85670cbc30ef2a2010b"), looks := false }, kinds := [], alts := [], laidByText := true, laidKinds := [.data], laidTests := true, laidLooks := .later }
def BitsSetsCardSaid : Prop := Claim7.holds Tryd.pinned (.plain (OpenSpec.ofChange bitsSetsSpec)) bitsSetsCard

/-- THE TIED CARD OF 'gantrylaw05.BitsAlgebra'. -/
def bitsAlgebraCard : Claim7 := { stood := { row := bitsAlgebraRow, standIns := [], harness := (true, "d1e6bff62660d0404d99adf6dc0a855de2c3dcdc6796a85670cbc30ef2a2010b"), looks := false }, kinds := [], alts := [], laidByText := true, laidKinds := [.data], laidTests := true, laidLooks := .later }
def BitsAlgebraCardSaid : Prop := Claim7.holds Tryd.pinned (.plain (OpenSpec.ofChange bitsAlgebraSpec)) bitsAlgebraCard

/-- THE TIED CARD OF 'gantrylaw05.BitsLeast'. -/
def bitsLeastCard : Claim7 := { stood := { row := bitsLeastRow, standIns := [], harness := (true, "d1e6bff62660d0404d99adf6dc0a855de2c3dcdc6796a85670cbc30ef2a2010b"), looks := false }, kinds := [], alts := [], laidByText := true, laidKinds := [.data], laidTests := true, laidLooks := .later }
def BitsLeastCardSaid : Prop := Claim7.holds Tryd.pinned (.plain (OpenSpec.ofChange bitsLeastSpec)) bitsLeastCard

/-- THE TIED CARD OF 'gantrylaw05.BitsOrders'. -/
def bitsOrdersCard : Claim7 := { stood := { row := bitsOrdersRow, standIns := [], harness := (true, "d1e6bff62660d0404d99adf6dc0a855de2c3dcdc6796a85670cbc30ef2a2010b"), looks := false }, kinds := [], alts := [], laidByText := true, laidKinds := [.data], laidTests := true, laidLooks := .later }
def BitsOrdersCardSaid : Prop := Claim7.holds Tryd.pinned (.plain (OpenSpec.ofChange bitsOrdersSpec)) bitsOrdersCard

/-- THE SECOND FORM's CARD OF 'gantrylaw05.BitsSets'. -/
def bitsSetsUptoCard : Claim7 := { stood := { row := bitsSetsUptoRow, standIns := [], harness := (true, "d1e6bff62660d0404d99adf6dc0a855de2c3dcdc6796a85670cbc30ef2a2010b"), looks := false }, kinds := [], alts := [], laidByText := true, laidKinds := [.data], laidTests := true, laidLooks := .later }
def BitsSetsUptoCardSaid : Prop := Claim7.holds Tryd.pinned (.plain (OpenSpec.upto bitsSetsSpec)) bitsSetsUptoCard

/-- THE SECOND FORM's CARD OF 'gantrylaw05.BitsAlgebra'. -/
def bitsAlgebraUptoCard : Claim7 := { stood := { row := bitsAlgebraUptoRow, standIns := [], harness := (true, "d1e6bff62660d0404d99adf6dc0a855de2c3dcdc6796a85670cbc30ef2a2010b"), looks := false }, kinds := [], alts := [], laidByText := true, laidKinds := [.data], laidTests := true, laidLooks := .later }
def BitsAlgebraUptoCardSaid : Prop := Claim7.holds Tryd.pinned (.plain (OpenSpec.upto bitsAlgebraSpec)) bitsAlgebraUptoCard

/-- THE SECOND FORM's CARD OF 'gantrylaw05.BitsLeast'. -/
def bitsLeastUptoCard : Claim7 := { stood := { row := bitsLeastUptoRow, standIns := [], harness := (true, "d1e6bff62660d0404d99adf6dc0a855de2c3dcdc6796a85670cbc30ef2a2010b"), looks := false }, kinds := [], alts := [], laidByText := true, laidKinds := [.data], laidTests := true, laidLooks := .later }
def BitsLeastUptoCardSaid : Prop := Claim7.holds Tryd.pinned (.plain (OpenSpec.upto bitsLeastSpec)) bitsLeastUptoCard

/-- THE SECOND FORM's CARD OF 'gantrylaw05.BitsOrders'. -/
def bitsOrdersUptoCard : Claim7 := { stood := { row := bitsOrdersUptoRow, standIns := [], harness := (true, "d1e6bff62660d0404d99adf6dc0a855de2c3dcdc6796a85670cbc30ef2a2010b"), looks := false }, kinds := [], alts := [], laidByText := true, laidKinds := [.data], laidTests := true, laidLooks := .later }
def BitsOrdersUptoCardSaid : Prop := Claim7.holds Tryd.pinned (.plain (OpenSpec.upto bitsOrdersSpec)) bitsOrdersUptoCard
end Rows
end Go.Proofs.YtmpdgmigpjfcpaaDoor
