/-
  NARROWER THAN 'FOR EVERY INPUT', by the rows' own cells (each row's printed sentence says how): FirstTrees: loops · FirstFollows: loops.
  DERIVED. THE GIVEN ROWS OF THIS SEAT. 2 by the template 'for every input the law returns true; each argument reads behind the call as it read before'; 0 by the template 'total and deterministic' (their statements: YtohgnodjdolcnaaTotals.lean).
  GIVEN WITH THE SEED: the statements are not yours to turn. If you find one false, say at which input.
  Laid BY PROGRAM, IN A SANDBOX (cutbox-rows.mjs): the forced cells as the released guide's own fill.sh prints them over the translation 72ff6b46e7749d67… (all of the seat's roots in one cut). By AI agents, Wed Nov 11 2026. No macro, syntax, notation, axiom, sorry.
-/
import Derived.Test.YtohgnodjdolcnaaChecked
import GoSem.Claim
import GoSem.ClaimJoined
import GoSem.ClaimMapViews
import Derived.JoinedTies
import Derived.KernelRfl
namespace Go.Proofs.Ytohgnodjdolcnaa
/- THE CELL 'sum', in the pinned program and in every row, IS THE sha256 OF THE DUMP (.gsa) THAT YtohgnodjdolcnaaProg.lean LOADS. Nothing in Lean hashes anything: it is a label: what it is worth is what the hold of that sum in a sandbox is worth. -/
noncomputable def Try.pinned : Pinned := { name := "ytohgnodjdolcnaa", sum := "72ff6b46e7749d67df6125556b85e30325a61fb6de7e39b2e7aea4638a104056", checked := Try.checked }
namespace Rows
def none {H : Type} : Left H := { results := [], args := [] }

/-- 'gantrylaw06.FirstTrees': WHATEVER THE INPUT: true; the input reads as it did. -/
def firstTreesSpec : ChangeSpec := { name := "firstTrees", fn := fun _ => fun
  | [d1, d2, d3, d4] => { results := [.lit (.bool true)], args := [d1, d2, d3, d4] }
  | _ => none }
def firstTreesRow : OpenClaim := { program := "ytohgnodjdolcnaa", sum := "72ff6b46e7749d67df6125556b85e30325a61fb6de7e39b2e7aea4638a104056", func := "gantry/gantrylaw06.FirstTrees", spec := "firstTrees", unfollowed := true, recurses := true, loops := true, apart := false }
def FirstTreesSaid : Prop := firstTreesRow.holds Try.pinned (OpenSpec.ofChange firstTreesSpec)

/-- ITS FALSE NEIGHBOUR: 'it returns false'. Refute it at one input. -/
def firstTreesWrong : ChangeSpec := { name := "firstTrees", fn := fun _ => fun
  | [d1, d2, d3, d4] => { results := [.lit (.bool false)], args := [d1, d2, d3, d4] }
  | _ => none }
def FirstTreesWrongFalsely : Prop := firstTreesRow.holds Try.pinned (OpenSpec.ofChange firstTreesWrong)

/-- 'gantrylaw06.FirstFollows': WHATEVER THE INPUT: true; the input reads as it did. -/
def firstFollowsSpec : ChangeSpec := { name := "firstFollows", fn := fun _ => fun
  | [d1, d2] => { results := [.lit (.bool true)], args := [d1, d2] }
  | _ => none }
def firstFollowsRow : OpenClaim := { program := "ytohgnodjdolcnaa", sum := "72ff6b46e7749d67df6125556b85e30325a61fb6de7e39b2e7aea4638a104056", func := "gantry/gantrylaw06.FirstFollows", spec := "firstFollows", unfollowed := true, recurses := true, loops := true, apart := false }
def FirstFollowsSaid : Prop := firstFollowsRow.holds Try.pinned (OpenSpec.ofChange firstFollowsSpec)

/-- ITS FALSE NEIGHBOUR: 'it returns false'. Refute it at one input. -/
def firstFollowsWrong : ChangeSpec := { name := "firstFollows", fn := fun _ => fun
  | [d1, d2] => { results := [.lit (.bool false)], args := [d1, d2] }
  | _ => none }
def FirstFollowsWrongFalsely : Prop := firstFollowsRow.holds Try.pinned (OpenSpec.ofChange firstFollowsWrong)

/- THE SECOND FORM. 'bulk': how many values and letters a reading holds, each counted each time it is reached (what is shared counts as often as it is met; a slice's spare places count too). A statement '..UptoSaid' is the law's where the arguments, and the package variables that the reading takes, are together of bulk at most 1048576: NARROWER than '..Said'. Prove '..Said' where nothing that the law and all that it calls make is longer than what came in: it says more and counts as full. Else prove '..UptoSaid'. A law counts once. -/
mutual
def uptoBulk {H : Type} : DataW H → Nat
  | .lit (.string bytes) => bytes.length + 1
  | .lit _ => 1
  | .nil => 1
  | .ptr d => uptoBulk d + 1
  | .slice elems spare => uptoBulkAll elems + uptoBulkAll spare + 1
  | .agg parts => uptoBulkAll parts + 1
  | .iface _ d => uptoBulk d + 1
  | .map entries => uptoBulkEntries entries + 1
  | .held _ => 1
def uptoBulkAll {H : Type} : List (DataW H) → Nat
  | [] => 0
  | d :: r => uptoBulk d + uptoBulkAll r
def uptoBulkEntries {H : Type} : List (Lit × DataW H) → Nat
  | [] => 0
  | x :: r => uptoBulkEntry x + uptoBulkEntries r
def uptoBulkEntry {H : Type} : Lit × DataW H → Nat
  | (.string bytes, d) => bytes.length + uptoBulk d + 1
  | (_, d) => uptoBulk d + 1
 end
def uptoSmall : (H : Type) → List (DataW H) → Bool := fun _ ds => decide (uptoBulkAll ds ≤ 1048576)
def OpenSpec.upto (s : _root_.Go.ChangeSpec) : _root_.Go.OpenSpec := { _root_.Go.OpenSpec.ofChange s with cond := some uptoSmall }

/-- 'gantrylaw06.FirstTrees', WHERE WHAT IT READS IS OF BULK AT MOST 1048576: true; the input reads as it did. -/
def firstTreesUptoRow : OpenClaim := { program := "ytohgnodjdolcnaa", sum := "72ff6b46e7749d67df6125556b85e30325a61fb6de7e39b2e7aea4638a104056", func := "gantry/gantrylaw06.FirstTrees", spec := "firstTrees", unfollowed := true, recurses := true, loops := true, apart := false, narrowed := true }
def FirstTreesUptoSaid : Prop := firstTreesUptoRow.holds Try.pinned (OpenSpec.upto firstTreesSpec)

/-- 'gantrylaw06.FirstFollows', WHERE WHAT IT READS IS OF BULK AT MOST 1048576: true; the input reads as it did. -/
def firstFollowsUptoRow : OpenClaim := { program := "ytohgnodjdolcnaa", sum := "72ff6b46e7749d67df6125556b85e30325a61fb6de7e39b2e7aea4638a104056", func := "gantry/gantrylaw06.FirstFollows", spec := "firstFollows", unfollowed := true, recurses := true, loops := true, apart := false, narrowed := true }
def FirstFollowsUptoSaid : Prop := firstFollowsUptoRow.holds Try.pinned (OpenSpec.upto firstFollowsSpec)

end Rows
end Go.Proofs.Ytohgnodjdolcnaa
