/-
  No cell of these rows narrows 'for every input' (looked for: loops, veiled, ifaces, maps, wideKeys, modest, calm, conditions, laid).
  DERIVED. THE GIVEN ROWS OF THIS SEAT. 5 by the template 'for every input the law returns true; each argument reads behind the call as it read before'; 0 by the template 'total and deterministic' (their statements: YtndjcbcdjcnniaaTotals.lean).
  GIVEN WITH THE SEED: the statements are not yours to turn. If you find one false, say at which input.
  Laid BY PROGRAM, IN A SANDBOX (cutbox-rows.mjs): the forced cells as the released guide's own fill.sh prints them over the translation feae49945d752588… (all of the seat's roots in one cut). By AI agents, Wed Nov 11 2026. No macro, syntax, notation, axiom, sorry.
-/
import Derived.Test.YtndjcbcdjcnniaaChecked
import GoSem.Claim
import GoSem.ClaimJoined
import GoSem.ClaimMapViews
import Derived.JoinedTies
import Derived.KernelRfl
namespace Go.Proofs.Ytndjcbcdjcnniaa
/- THE CELL 'sum', in the pinned program and in every row, IS THE sha256 OF THE DUMP (.gsa) THAT YtndjcbcdjcnniaaProg.lean LOADS. Nothing in Lean hashes anything: it is a label: what it is worth is what the hold of that sum in a sandbox is worth. -/
noncomputable def Try.pinned : Pinned := { name := "ytndjcbcdjcnniaa", sum := "feae49945d7525883d1440922f47c4e11d62fce1d248bdc98addc141389cc121", checked := Try.checked }
namespace Rows
def none {H : Type} : Left H := { results := [], args := [] }

/-- 'gantrylaw02.SymbolsNames': WHATEVER THE INPUT: true; the input reads as it did. -/
def symbolsNamesSpec : ChangeSpec := { name := "symbolsNames", fn := fun _ => fun
  | [d1, d2] => { results := [.lit (.bool true)], args := [d1, d2] }
  | _ => none }
def symbolsNamesRow : OpenClaim := { program := "ytndjcbcdjcnniaa", sum := "feae49945d7525883d1440922f47c4e11d62fce1d248bdc98addc141389cc121", func := "gantry/gantrylaw02.SymbolsNames", spec := "symbolsNames", unfollowed := true, recurses := true, apart := false }
def SymbolsNamesSaid : Prop := symbolsNamesRow.holds Try.pinned (OpenSpec.ofChange symbolsNamesSpec)

/-- ITS FALSE NEIGHBOUR: 'it returns false'. Refute it at one input. -/
def symbolsNamesWrong : ChangeSpec := { name := "symbolsNames", fn := fun _ => fun
  | [d1, d2] => { results := [.lit (.bool false)], args := [d1, d2] }
  | _ => none }
def SymbolsNamesWrongFalsely : Prop := symbolsNamesRow.holds Try.pinned (OpenSpec.ofChange symbolsNamesWrong)

/-- 'gantrylaw02.SymbolsSpells': WHATEVER THE INPUT: true; the input reads as it did. -/
def symbolsSpellsSpec : ChangeSpec := { name := "symbolsSpells", fn := fun _ => fun
  | [d1, d2, d3, d4] => { results := [.lit (.bool true)], args := [d1, d2, d3, d4] }
  | _ => none }
def symbolsSpellsRow : OpenClaim := { program := "ytndjcbcdjcnniaa", sum := "feae49945d7525883d1440922f47c4e11d62fce1d248bdc98addc141389cc121", func := "gantry/gantrylaw02.SymbolsSpells", spec := "symbolsSpells", inPlace := ["internal/abi.NoEscape", "internal/bytealg.IndexByteString"], apart := false }
def SymbolsSpellsSaid : Prop := symbolsSpellsRow.holds Try.pinned (OpenSpec.ofChange symbolsSpellsSpec)

/-- ITS FALSE NEIGHBOUR: 'it returns false'. Refute it at one input. -/
def symbolsSpellsWrong : ChangeSpec := { name := "symbolsSpells", fn := fun _ => fun
  | [d1, d2, d3, d4] => { results := [.lit (.bool false)], args := [d1, d2, d3, d4] }
  | _ => none }
def SymbolsSpellsWrongFalsely : Prop := symbolsSpellsRow.holds Try.pinned (OpenSpec.ofChange symbolsSpellsWrong)

/-- 'gantrylaw02.SymbolsBack': WHATEVER THE INPUT: true; the input reads as it did. -/
def symbolsBackSpec : ChangeSpec := { name := "symbolsBack", fn := fun _ => fun
  | [d1, d2, d3, d4] => { results := [.lit (.bool true)], args := [d1, d2, d3, d4] }
  | _ => none }
def symbolsBackRow : OpenClaim := { program := "ytndjcbcdjcnniaa", sum := "feae49945d7525883d1440922f47c4e11d62fce1d248bdc98addc141389cc121", func := "gantry/gantrylaw02.SymbolsBack", spec := "symbolsBack", inPlace := ["internal/abi.NoEscape", "internal/bytealg.IndexByteString"], unfollowed := true, recurses := true, apart := false }
def SymbolsBackSaid : Prop := symbolsBackRow.holds Try.pinned (OpenSpec.ofChange symbolsBackSpec)

/-- ITS FALSE NEIGHBOUR: 'it returns false'. Refute it at one input. -/
def symbolsBackWrong : ChangeSpec := { name := "symbolsBack", fn := fun _ => fun
  | [d1, d2, d3, d4] => { results := [.lit (.bool false)], args := [d1, d2, d3, d4] }
  | _ => none }
def SymbolsBackWrongFalsely : Prop := symbolsBackRow.holds Try.pinned (OpenSpec.ofChange symbolsBackWrong)

/-- 'gantrylaw02.SymbolsOne': WHATEVER THE INPUT: true; the input reads as it did. -/
def symbolsOneSpec : ChangeSpec := { name := "symbolsOne", fn := fun _ => fun
  | [d1, d2] => { results := [.lit (.bool true)], args := [d1, d2] }
  | _ => none }
def symbolsOneRow : OpenClaim := { program := "ytndjcbcdjcnniaa", sum := "feae49945d7525883d1440922f47c4e11d62fce1d248bdc98addc141389cc121", func := "gantry/gantrylaw02.SymbolsOne", spec := "symbolsOne", unfollowed := true, recurses := true, apart := false }
def SymbolsOneSaid : Prop := symbolsOneRow.holds Try.pinned (OpenSpec.ofChange symbolsOneSpec)

/-- ITS FALSE NEIGHBOUR: 'it returns false'. Refute it at one input. -/
def symbolsOneWrong : ChangeSpec := { name := "symbolsOne", fn := fun _ => fun
  | [d1, d2] => { results := [.lit (.bool false)], args := [d1, d2] }
  | _ => none }
def SymbolsOneWrongFalsely : Prop := symbolsOneRow.holds Try.pinned (OpenSpec.ofChange symbolsOneWrong)

/-- 'gantrylaw02.SymbolsOwn': WHATEVER THE INPUT: true; the input reads as it did. -/
def symbolsOwnSpec : ChangeSpec := { name := "symbolsOwn", fn := fun _ => fun
  | [d1, d2, d3, d4] => { results := [.lit (.bool true)], args := [d1, d2, d3, d4] }
  | _ => none }
def symbolsOwnRow : OpenClaim := { program := "ytndjcbcdjcnniaa", sum := "feae49945d7525883d1440922f47c4e11d62fce1d248bdc98addc141389cc121", func := "gantry/gantrylaw02.SymbolsOwn", spec := "symbolsOwn", inPlace := ["internal/bytealg.IndexByteString"], apart := false }
def SymbolsOwnSaid : Prop := symbolsOwnRow.holds Try.pinned (OpenSpec.ofChange symbolsOwnSpec)

/-- ITS FALSE NEIGHBOUR: 'it returns false'. Refute it at one input. -/
def symbolsOwnWrong : ChangeSpec := { name := "symbolsOwn", fn := fun _ => fun
  | [d1, d2, d3, d4] => { results := [.lit (.bool false)], args := [d1, d2, d3, d4] }
  | _ => none }
def SymbolsOwnWrongFalsely : Prop := symbolsOwnRow.holds Try.pinned (OpenSpec.ofChange symbolsOwnWrong)

/- THE SECOND FORM. 'bulk': how many values and letters a reading holds, each counted each time it is reached (what is shared counts as often as it is met; a slice's spare places count too). A statement '..UptoSaid' is the law's where the arguments, and the package variables that the reading takes, are together of bulk at most 1048576: NARROWER than '..Said'. Prove '..Said' where nothing that the law and all that it calls make is longer than what came in: it says more and counts as full. Else prove '..UptoSaid'. A law counts once. -/
mutual
def uptoBulk {H : Type} : DataW H → Nat
  | .lit (.string bytes) => bytes.length + 1
  | .lit _ => 1
  | .nil => 1
  | .ptr d => uptoBulk d + 1
  | .slice elems spare => uptoBulkAll elems + uptoBulkAll spare + 1
  | .agg parts => uptoBulkAll parts + 1
  | .iface _ d => uptoBulk d + 1
  | .map entries => uptoBulkEntries entries + 1
  | .held _ => 1
def uptoBulkAll {H : Type} : List (DataW H) → Nat
  | [] => 0
  | d :: r => uptoBulk d + uptoBulkAll r
def uptoBulkEntries {H : Type} : List (Lit × DataW H) → Nat
  | [] => 0
  | x :: r => uptoBulkEntry x + uptoBulkEntries r
def uptoBulkEntry {H : Type} : Lit × DataW H → Nat
  | (.string bytes, d) => bytes.length + uptoBulk d + 1
  | (_, d) => uptoBulk d + 1
 end
def uptoSmall : (H : Type) → List (DataW H) → Bool := fun _ ds => decide (uptoBulkAll ds ≤ 1048576)
def OpenSpec.upto (s : _root_.Go.ChangeSpec) : _root_.Go.OpenSpec := { _root_.Go.OpenSpec.ofChange s with cond := some uptoSmall }

/-- 'gantrylaw02.SymbolsNames', WHERE WHAT IT READS IS OF BULK AT MOST 1048576: true; the input reads as it did. -/
def symbolsNamesUptoRow : OpenClaim := { program := "ytndjcbcdjcnniaa", sum := "feae49945d7525883d1440922f47c4e11d62fce1d248bdc98addc141389cc121", func := "gantry/gantrylaw02.SymbolsNames", spec := "symbolsNames", unfollowed := true, recurses := true, apart := false, narrowed := true }
def SymbolsNamesUptoSaid : Prop := symbolsNamesUptoRow.holds Try.pinned (OpenSpec.upto symbolsNamesSpec)

/-- 'gantrylaw02.SymbolsSpells', WHERE WHAT IT READS IS OF BULK AT MOST 1048576: true; the input reads as it did. -/
def symbolsSpellsUptoRow : OpenClaim := { program := "ytndjcbcdjcnniaa", sum := "feae49945d7525883d1440922f47c4e11d62fce1d248bdc98addc141389cc121", func := "gantry/gantrylaw02.SymbolsSpells", spec := "symbolsSpells", inPlace := ["internal/abi.NoEscape", "internal/bytealg.IndexByteString"], apart := false, narrowed := true }
def SymbolsSpellsUptoSaid : Prop := symbolsSpellsUptoRow.holds Try.pinned (OpenSpec.upto symbolsSpellsSpec)

/-- 'gantrylaw02.SymbolsBack', WHERE WHAT IT READS IS OF BULK AT MOST 1048576: true; the input reads as it did. -/
def symbolsBackUptoRow : OpenClaim := { program := "ytndjcbcdjcnniaa", sum := "feae49945d7525883d1440922f47c4e11d62fce1d248bdc98addc141389cc121", func := "gantry/gantrylaw02.SymbolsBack", spec := "symbolsBack", inPlace := ["internal/abi.NoEscape", "internal/bytealg.IndexByteString"], unfollowed := true, recurses := true, apart := false, narrowed := true }
def SymbolsBackUptoSaid : Prop := symbolsBackUptoRow.holds Try.pinned (OpenSpec.upto symbolsBackSpec)

/-- 'gantrylaw02.SymbolsOne', WHERE WHAT IT READS IS OF BULK AT MOST 1048576: true; the input reads as it did. -/
def symbolsOneUptoRow : OpenClaim := { program := "ytndjcbcdjcnniaa", sum := "feae49945d7525883d1440922f47c4e11d62fce1d248bdc98addc141389cc121", func := "gantry/gantrylaw02.SymbolsOne", spec := "symbolsOne", unfollowed := true, recurses := true, apart := false, narrowed := true }
def SymbolsOneUptoSaid : Prop := symbolsOneUptoRow.holds Try.pinned (OpenSpec.upto symbolsOneSpec)

/-- 'gantrylaw02.SymbolsOwn', WHERE WHAT IT READS IS OF BULK AT MOST 1048576: true; the input reads as it did. -/
def symbolsOwnUptoRow : OpenClaim := { program := "ytndjcbcdjcnniaa", sum := "feae49945d7525883d1440922f47c4e11d62fce1d248bdc98addc141389cc121", func := "gantry/gantrylaw02.SymbolsOwn", spec := "symbolsOwn", inPlace := ["internal/bytealg.IndexByteString"], apart := false, narrowed := true }
def SymbolsOwnUptoSaid : Prop := symbolsOwnUptoRow.holds Try.pinned (OpenSpec.upto symbolsOwnSpec)

end Rows
end Go.Proofs.Ytndjcbcdjcnniaa
