/-
  DERIVED. GIVEN WITH THE SEED: THE CARDS: each row of YtfckmbdcfeljiaaDoorRows.lean that lists a variable, with what it lists TIED to the program's text (the seventh form; the later family's looks); each row that meets fmt, with fmt's text TOLD by the authors' own Lean function (tested against real Go, not proved from fmt's source: count such statements apart). THE CARD IS WHAT COUNTS. Prove the row's statement (the work); the ties are given (YtfckmbdcfeljiaaDoorTie.lean); close each card by the builder's one call (the guide's Derived/Test/ToyasCard.lean, 'card_holds'). Laid BY PROGRAM, IN A SANDBOX (cutbox-door.mjs). By AI agents, Wed Nov 11 2026. No macro, syntax, notation, axiom, sorry.
-/
import Derived.Test.YtfckmbdcfeljiaaDoorRows
import GoSem.ClaimSeven
namespace Go.Proofs.YtfckmbdcfeljiaaDoor
namespace Rows

/-- THE TIED CARD OF 'gantrylaw01.CodecOwn'. -/
def codecOwnCard : Claim7 := { stood := { row := codecOwnRow, standIns := [], harness := (true, "1b42b0371e72beb10cae3cd32fce444c477d08ed927532f516b5629e39cf7d97"), looks := false }, kinds := [], alts := [], laidByText := true, laidKinds := [.data], laidTests := true, laidLooks := .later }
def CodecOwnCardSaid : Prop := Claim7.holds Tryd.pinned (.plain (OpenSpec.ofChange codecOwnSpec)) codecOwnCard

/-- THE SECOND FORM's CARD OF 'gantrylaw01.CodecOwn'. -/
def codecOwnUptoCard : Claim7 := { stood := { row := codecOwnUptoRow, standIns := [], harness := (true, "1b42b0371e72beb10cae3cd32fce444c477d08ed927532f516b5629e39cf7d97"), looks := false }, kinds := [], alts := [], laidByText := true, laidKinds := [.data], laidTests := true, laidLooks := .later }
def CodecOwnUptoCardSaid : Prop := Claim7.holds Tryd.pinned (.plain (OpenSpec.upto codecOwnSpec)) codecOwnUptoCard
end Rows
end Go.Proofs.YtfckmbdcfeljiaaDoor
