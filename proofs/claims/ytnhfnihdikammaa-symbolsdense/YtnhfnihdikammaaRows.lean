/-
  No cell of these rows narrows 'for every input' (looked for: loops, veiled, ifaces, maps, wideKeys, modest, calm, conditions, laid).
  DERIVED. THE GIVEN ROWS OF THIS SEAT. 4 by the template 'for every input the law returns true; each argument reads behind the call as it read before'; 0 by the template 'total and deterministic' (their statements: YtnhfnihdikammaaTotals.lean).
  GIVEN WITH THE SEED: the statements are not yours to turn. If you find one false, say at which input.
  Laid BY PROGRAM, IN A SANDBOX (cutbox-rows.mjs): the forced cells as the released guide's own fill.sh prints them over the translation 0a95ea01675da27b… (all of the seat's roots in one cut). By AI agents, Wed Nov 11 2026. No macro, syntax, notation, axiom, sorry.
-/
import Derived.Test.YtnhfnihdikammaaChecked
import GoSem.Claim
import GoSem.ClaimJoined
import GoSem.ClaimMapViews
import Derived.JoinedTies
import Derived.KernelRfl
namespace Go.Proofs.Ytnhfnihdikammaa
/- THE CELL 'sum', in the pinned program and in every row, IS THE sha256 OF THE DUMP (.gsa) THAT YtnhfnihdikammaaProg.lean LOADS. Nothing in Lean hashes anything: it is a label: what it is worth is what the hold of that sum in a sandbox is worth. -/
noncomputable def Try.pinned : Pinned := { name := "ytnhfnihdikammaa", sum := "0a95ea01675da27b4ac0485021fd99a7732e25ed7c75b4e374b061cdb8c522fd", checked := Try.checked }
namespace Rows
def none {H : Type} : Left H := { results := [], args := [] }

/-- 'gantrylaw02.SymbolsWords': WHATEVER THE INPUT: true; the input reads as it did. -/
def symbolsWordsSpec : ChangeSpec := { name := "symbolsWords", fn := fun _ => fun
  | [d] => { results := [.lit (.bool true)], args := [d] }
  | _ => none }
def symbolsWordsRow : OpenClaim := { program := "ytnhfnihdikammaa", sum := "0a95ea01675da27b4ac0485021fd99a7732e25ed7c75b4e374b061cdb8c522fd", func := "gantry/gantrylaw02.SymbolsWords", spec := "symbolsWords", apart := false }
def SymbolsWordsSaid : Prop := symbolsWordsRow.holds Try.pinned (OpenSpec.ofChange symbolsWordsSpec)

/-- ITS FALSE NEIGHBOUR: 'it returns false'. Refute it at one input. -/
def symbolsWordsWrong : ChangeSpec := { name := "symbolsWords", fn := fun _ => fun
  | [d] => { results := [.lit (.bool false)], args := [d] }
  | _ => none }
def SymbolsWordsWrongFalsely : Prop := symbolsWordsRow.holds Try.pinned (OpenSpec.ofChange symbolsWordsWrong)

/-- 'gantrylaw02.SymbolsNames': WHATEVER THE INPUT: true; the input reads as it did. -/
def symbolsNamesSpec : ChangeSpec := { name := "symbolsNames", fn := fun _ => fun
  | [d1, d2] => { results := [.lit (.bool true)], args := [d1, d2] }
  | _ => none }
def symbolsNamesRow : OpenClaim := { program := "ytnhfnihdikammaa", sum := "0a95ea01675da27b4ac0485021fd99a7732e25ed7c75b4e374b061cdb8c522fd", func := "gantry/gantrylaw02.SymbolsNames", spec := "symbolsNames", unfollowed := true, recurses := true, apart := false }
def SymbolsNamesSaid : Prop := symbolsNamesRow.holds Try.pinned (OpenSpec.ofChange symbolsNamesSpec)

/-- ITS FALSE NEIGHBOUR: 'it returns false'. Refute it at one input. -/
def symbolsNamesWrong : ChangeSpec := { name := "symbolsNames", fn := fun _ => fun
  | [d1, d2] => { results := [.lit (.bool false)], args := [d1, d2] }
  | _ => none }
def SymbolsNamesWrongFalsely : Prop := symbolsNamesRow.holds Try.pinned (OpenSpec.ofChange symbolsNamesWrong)

/-- 'gantrylaw02.SymbolsDense': WHATEVER THE INPUT: true; the input reads as it did. -/
def symbolsDenseSpec : ChangeSpec := { name := "symbolsDense", fn := fun _ => fun
  | [d1, d2, d3, d4, d5] => { results := [.lit (.bool true)], args := [d1, d2, d3, d4, d5] }
  | _ => none }
def symbolsDenseRow : OpenClaim := { program := "ytnhfnihdikammaa", sum := "0a95ea01675da27b4ac0485021fd99a7732e25ed7c75b4e374b061cdb8c522fd", func := "gantry/gantrylaw02.SymbolsDense", spec := "symbolsDense", apart := false }
def SymbolsDenseSaid : Prop := symbolsDenseRow.holds Try.pinned (OpenSpec.ofChange symbolsDenseSpec)

/-- ITS FALSE NEIGHBOUR: 'it returns false'. Refute it at one input. -/
def symbolsDenseWrong : ChangeSpec := { name := "symbolsDense", fn := fun _ => fun
  | [d1, d2, d3, d4, d5] => { results := [.lit (.bool false)], args := [d1, d2, d3, d4, d5] }
  | _ => none }
def SymbolsDenseWrongFalsely : Prop := symbolsDenseRow.holds Try.pinned (OpenSpec.ofChange symbolsDenseWrong)

/-- 'gantrylaw02.SymbolsSpells': WHATEVER THE INPUT: true; the input reads as it did. -/
def symbolsSpellsSpec : ChangeSpec := { name := "symbolsSpells", fn := fun _ => fun
  | [d1, d2, d3, d4] => { results := [.lit (.bool true)], args := [d1, d2, d3, d4] }
  | _ => none }
def symbolsSpellsRow : OpenClaim := { program := "ytnhfnihdikammaa", sum := "0a95ea01675da27b4ac0485021fd99a7732e25ed7c75b4e374b061cdb8c522fd", func := "gantry/gantrylaw02.SymbolsSpells", spec := "symbolsSpells", inPlace := ["internal/abi.NoEscape", "internal/bytealg.IndexByteString"], apart := false }
def SymbolsSpellsSaid : Prop := symbolsSpellsRow.holds Try.pinned (OpenSpec.ofChange symbolsSpellsSpec)

/-- ITS FALSE NEIGHBOUR: 'it returns false'. Refute it at one input. -/
def symbolsSpellsWrong : ChangeSpec := { name := "symbolsSpells", fn := fun _ => fun
  | [d1, d2, d3, d4] => { results := [.lit (.bool false)], args := [d1, d2, d3, d4] }
  | _ => none }
def SymbolsSpellsWrongFalsely : Prop := symbolsSpellsRow.holds Try.pinned (OpenSpec.ofChange symbolsSpellsWrong)

/- THE SECOND FORM. 'bulk': how many values and letters a reading holds, each counted each time it is reached (what is shared counts as often as it is met; a slice's spare places count too). A statement '..UptoSaid' is the law's where the arguments, and the package variables that the reading takes, are together of bulk at most 1048576: NARROWER than '..Said'. Prove '..Said' where nothing that the law and all that it calls make is longer than what came in: it says more and counts as full. Else prove '..UptoSaid'. A law counts once. -/
mutual
def uptoBulk {H : Type} : DataW H → Nat
  | .lit (.string bytes) => bytes.length + 1
  | .lit _ => 1
  | .nil => 1
  | .ptr d => uptoBulk d + 1
  | .slice elems spare => uptoBulkAll elems + uptoBulkAll spare + 1
  | .agg parts => uptoBulkAll parts + 1
  | .iface _ d => uptoBulk d + 1
  | .map entries => uptoBulkEntries entries + 1
  | .held _ => 1
def uptoBulkAll {H : Type} : List (DataW H) → Nat
  | [] => 0
  | d :: r => uptoBulk d + uptoBulkAll r
def uptoBulkEntries {H : Type} : List (Lit × DataW H) → Nat
  | [] => 0
  | x :: r => uptoBulkEntry x + uptoBulkEntries r
def uptoBulkEntry {H : Type} : Lit × DataW H → Nat
  | (.string bytes, d) => bytes.length + uptoBulk d + 1
  | (_, d) => uptoBulk d + 1
 end
def uptoSmall : (H : Type) → List (DataW H) → Bool := fun _ ds => decide (uptoBulkAll ds ≤ 1048576)
def OpenSpec.upto (s : _root_.Go.ChangeSpec) : _root_.Go.OpenSpec := { _root_.Go.OpenSpec.ofChange s with cond := some uptoSmall }

/-- 'gantrylaw02.SymbolsWords', WHERE WHAT IT READS IS OF BULK AT MOST 1048576: true; the input reads as it did. -/
def symbolsWordsUptoRow : OpenClaim := { program := "ytnhfnihdikammaa", sum := "0a95ea01675da27b4ac0485021fd99a7732e25ed7c75b4e374b061cdb8c522fd", func := "gantry/gantrylaw02.SymbolsWords", spec := "symbolsWords", apart := false, narrowed := true }
def SymbolsWordsUptoSaid : Prop := symbolsWordsUptoRow.holds Try.pinned (OpenSpec.upto symbolsWordsSpec)

/-- 'gantrylaw02.SymbolsNames', WHERE WHAT IT READS IS OF BULK AT MOST 1048576: true; the input reads as it did. -/
def symbolsNamesUptoRow : OpenClaim := { program := "ytnhfnihdikammaa", sum := "0a95ea01675da27b4ac0485021fd99a7732e25ed7c75b4e374b061cdb8c522fd", func := "gantry/gantrylaw02.SymbolsNames", spec := "symbolsNames", unfollowed := true, recurses := true, apart := false, narrowed := true }
def SymbolsNamesUptoSaid : Prop := symbolsNamesUptoRow.holds Try.pinned (OpenSpec.upto symbolsNamesSpec)

/-- 'gantrylaw02.SymbolsDense', WHERE WHAT IT READS IS OF BULK AT MOST 1048576: true; the input reads as it did. -/
def symbolsDenseUptoRow : OpenClaim := { program := "ytnhfnihdikammaa", sum := "0a95ea01675da27b4ac0485021fd99a7732e25ed7c75b4e374b061cdb8c522fd", func := "gantry/gantrylaw02.SymbolsDense", spec := "symbolsDense", apart := false, narrowed := true }
def SymbolsDenseUptoSaid : Prop := symbolsDenseUptoRow.holds Try.pinned (OpenSpec.upto symbolsDenseSpec)

/-- 'gantrylaw02.SymbolsSpells', WHERE WHAT IT READS IS OF BULK AT MOST 1048576: true; the input reads as it did. -/
def symbolsSpellsUptoRow : OpenClaim := { program := "ytnhfnihdikammaa", sum := "0a95ea01675da27b4ac0485021fd99a7732e25ed7c75b4e374b061cdb8c522fd", func := "gantry/gantrylaw02.SymbolsSpells", spec := "symbolsSpells", inPlace := ["internal/abi.NoEscape", "internal/bytealg.IndexByteString"], apart := false, narrowed := true }
def SymbolsSpellsUptoSaid : Prop := symbolsSpellsUptoRow.holds Try.pinned (OpenSpec.upto symbolsSpellsSpec)

end Rows
end Go.Proofs.Ytnhfnihdikammaa
