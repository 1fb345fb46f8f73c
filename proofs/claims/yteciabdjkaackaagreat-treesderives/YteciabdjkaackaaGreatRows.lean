/-
  NARROWER THAN 'FOR EVERY INPUT', by the rows' own cells (each row's printed sentence says how): TreesMeasures: loops.
  DERIVED. THE GIVEN ROWS OF THIS SEAT. 2 by the template 'for every input the law returns true; each argument reads behind the call as it read before'; 0 by the template 'total and deterministic' (their statements: YteciabdjkaackaaGreatTotals.lean).
  GIVEN WITH THE SEED: the statements are not yours to turn. If you find one false, say at which input.
  Laid BY PROGRAM, IN A SANDBOX (cutbox-rows.mjs): the forced cells as the released guide's own fill.sh prints them over the translation bb454fd3cffaa23f… (all of the seat's roots in one cut). By AI agents, Wed Nov 11 2026. No macro, syntax, notation, axiom, sorry.
-/
import Derived.Test.YteciabdjkaackaaGreatChecked
import GoSem.Claim
import GoSem.ClaimJoined
import GoSem.ClaimMapViews
import Derived.JoinedTies
import Derived.KernelRfl
namespace Go.Proofs.YteciabdjkaackaaGreat
/- THE CELL 'sum', in the pinned program and in every row, IS THE sha256 OF THE DUMP (.gsa) THAT YteciabdjkaackaaGreatProg.lean LOADS. Nothing in Lean hashes anything: it is a label: what it is worth is what the hold of that sum in a sandbox is worth. -/
noncomputable def Tryz.pinned : Pinned := { name := "yteciabdjkaackaagreat", sum := "bb454fd3cffaa23f19d344999630e2da060c773e6491814deebfcc2b75fbdbb7", checked := Tryz.checked }
namespace Rows
def none {H : Type} : Left H := { results := [], args := [] }

/-- 'gantrylaw08.TreesMeasures': WHATEVER THE INPUT: true; the input reads as it did. -/
def treesMeasuresSpec : ChangeSpec := { name := "treesMeasures", fn := fun _ => fun
  | [d1, d2, d3] => { results := [.lit (.bool true)], args := [d1, d2, d3] }
  | _ => none }
def treesMeasuresRow : OpenClaim := { program := "yteciabdjkaackaagreat", sum := "bb454fd3cffaa23f19d344999630e2da060c773e6491814deebfcc2b75fbdbb7", func := "gantry/gantrylaw08.TreesMeasures", spec := "treesMeasures", unfollowed := true, recurses := true, loops := true, apart := false }
def TreesMeasuresSaid : Prop := treesMeasuresRow.holds Tryz.pinned (OpenSpec.ofChange treesMeasuresSpec)

/-- ITS FALSE NEIGHBOUR: 'it returns false'. Refute it at one input. -/
def treesMeasuresWrong : ChangeSpec := { name := "treesMeasures", fn := fun _ => fun
  | [d1, d2, d3] => { results := [.lit (.bool false)], args := [d1, d2, d3] }
  | _ => none }
def TreesMeasuresWrongFalsely : Prop := treesMeasuresRow.holds Tryz.pinned (OpenSpec.ofChange treesMeasuresWrong)

/-- 'gantrylaw08.TreesDerives': WHATEVER THE INPUT: true; the input reads as it did. -/
def treesDerivesSpec : ChangeSpec := { name := "treesDerives", fn := fun _ => fun
  | [d1, d2, d3] => { results := [.lit (.bool true)], args := [d1, d2, d3] }
  | _ => none }
def treesDerivesRow : OpenClaim := { program := "yteciabdjkaackaagreat", sum := "bb454fd3cffaa23f19d344999630e2da060c773e6491814deebfcc2b75fbdbb7", func := "gantry/gantrylaw08.TreesDerives", spec := "treesDerives", unfollowed := true, recurses := true, apart := false }
def TreesDerivesSaid : Prop := treesDerivesRow.holds Tryz.pinned (OpenSpec.ofChange treesDerivesSpec)

/-- ITS FALSE NEIGHBOUR: 'it returns false'. Refute it at one input. -/
def treesDerivesWrong : ChangeSpec := { name := "treesDerives", fn := fun _ => fun
  | [d1, d2, d3] => { results := [.lit (.bool false)], args := [d1, d2, d3] }
  | _ => none }
def TreesDerivesWrongFalsely : Prop := treesDerivesRow.holds Tryz.pinned (OpenSpec.ofChange treesDerivesWrong)

/- THE SECOND FORM. 'bulk': how many values and letters a reading holds, each counted each time it is reached (what is shared counts as often as it is met; a slice's spare places count too). A statement '..UptoSaid' is the law's where the arguments, and the package variables that the reading takes, are together of bulk at most 1048576: NARROWER than '..Said'. Prove '..Said' where nothing that the law and all that it calls make is longer than what came in: it says more and counts as full. Else prove '..UptoSaid'. A law counts once. -/
mutual
def uptoBulk {H : Type} : DataW H → Nat
  | .lit (.string bytes) => bytes.length + 1
  | .lit _ => 1
  | .nil => 1
  | .ptr d => uptoBulk d + 1
  | .slice elems spare => uptoBulkAll elems + uptoBulkAll spare + 1
  | .agg parts => uptoBulkAll parts + 1
  | .iface _ d => uptoBulk d + 1
  | .map entries => uptoBulkEntries entries + 1
  | .held _ => 1
def uptoBulkAll {H : Type} : List (DataW H) → Nat
  | [] => 0
  | d :: r => uptoBulk d + uptoBulkAll r
def uptoBulkEntries {H : Type} : List (Lit × DataW H) → Nat
  | [] => 0
  | x :: r => uptoBulkEntry x + uptoBulkEntries r
def uptoBulkEntry {H : Type} : Lit × DataW H → Nat
  | (.string bytes, d) => bytes.length + uptoBulk d + 1
  | (_, d) => uptoBulk d + 1
 end
def uptoSmall : (H : Type) → List (DataW H) → Bool := fun _ ds => decide (uptoBulkAll ds ≤ 1048576)
def OpenSpec.upto (s : _root_.Go.ChangeSpec) : _root_.Go.OpenSpec := { _root_.Go.OpenSpec.ofChange s with cond := some uptoSmall }

/-- 'gantrylaw08.TreesMeasures', WHERE WHAT IT READS IS OF BULK AT MOST 1048576: true; the input reads as it did. -/
def treesMeasuresUptoRow : OpenClaim := { program := "yteciabdjkaackaagreat", sum := "bb454fd3cffaa23f19d344999630e2da060c773e6491814deebfcc2b75fbdbb7", func := "gantry/gantrylaw08.TreesMeasures", spec := "treesMeasures", unfollowed := true, recurses := true, loops := true, apart := false, narrowed := true }
def TreesMeasuresUptoSaid : Prop := treesMeasuresUptoRow.holds Tryz.pinned (OpenSpec.upto treesMeasuresSpec)

/-- 'gantrylaw08.TreesDerives', WHERE WHAT IT READS IS OF BULK AT MOST 1048576: true; the input reads as it did. -/
def treesDerivesUptoRow : OpenClaim := { program := "yteciabdjkaackaagreat", sum := "bb454fd3cffaa23f19d344999630e2da060c773e6491814deebfcc2b75fbdbb7", func := "gantry/gantrylaw08.TreesDerives", spec := "treesDerives", unfollowed := true, recurses := true, apart := false, narrowed := true }
def TreesDerivesUptoSaid : Prop := treesDerivesUptoRow.holds Tryz.pinned (OpenSpec.upto treesDerivesSpec)

end Rows
end Go.Proofs.YteciabdjkaackaaGreat
