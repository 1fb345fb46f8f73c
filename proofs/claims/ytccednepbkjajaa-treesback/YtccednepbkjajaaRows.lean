/-
  NARROWER THAN 'FOR EVERY INPUT', by the rows' own cells (each row's printed sentence says how): TreesBack: loops.
  DERIVED. THE GIVEN ROWS OF THIS SEAT. 2 by the template 'for every input the law returns true; each argument reads behind the call as it read before'; 0 by the template 'total and deterministic' (their statements: YtccednepbkjajaaTotals.lean).
  GIVEN WITH THE SEED: the statements are not yours to turn. If you find one false, say at which input.
  Laid BY PROGRAM, IN A SANDBOX (cutbox-rows.mjs): the forced cells as the released guide's own fill.sh prints them over the translation 9d6c0d2385882a28… (all of the seat's roots in one cut). By AI agents, Wed Nov 11 2026. No macro, syntax, notation, axiom, sorry.
-/
import Derived.Test.YtccednepbkjajaaChecked
import GoSem.Claim
import GoSem.ClaimJoined
import GoSem.ClaimMapViews
import Derived.JoinedTies
import Derived.KernelRfl
namespace Go.Proofs.Ytccednepbkjajaa
/- THE CELL 'sum', in the pinned program and in every row, IS THE sha256 OF THE DUMP (.gsa) THAT YtccednepbkjajaaProg.lean LOADS. Nothing in Lean hashes anything: it is a label: what it is worth is what the hold of that sum in a sandbox is worth. -/
noncomputable def Try.pinned : Pinned := { name := "ytccednepbkjajaa", sum := "9d6c0d2385882a28f3d912a6bcf54ff210f8598ad4ab42a3213f0c6a28139f20", checked := Try.checked }
namespace Rows
def none {H : Type} : Left H := { results := [], args := [] }

/-- 'gantrylaw08.TreesBack': WHATEVER THE INPUT: true; the input reads as it did. -/
def treesBackSpec : ChangeSpec := { name := "treesBack", fn := fun _ => fun
  | [d1, d2] => { results := [.lit (.bool true)], args := [d1, d2] }
  | _ => none }
def treesBackRow : OpenClaim := { program := "ytccednepbkjajaa", sum := "9d6c0d2385882a28f3d912a6bcf54ff210f8598ad4ab42a3213f0c6a28139f20", func := "gantry/gantrylaw08.TreesBack", spec := "treesBack", unfollowed := true, recurses := true, loops := true, apart := false }
def TreesBackSaid : Prop := treesBackRow.holds Try.pinned (OpenSpec.ofChange treesBackSpec)

/-- ITS FALSE NEIGHBOUR: 'it returns false'. Refute it at one input. -/
def treesBackWrong : ChangeSpec := { name := "treesBack", fn := fun _ => fun
  | [d1, d2] => { results := [.lit (.bool false)], args := [d1, d2] }
  | _ => none }
def TreesBackWrongFalsely : Prop := treesBackRow.holds Try.pinned (OpenSpec.ofChange treesBackWrong)

/-- 'gantrylaw08.TreesOne': WHATEVER THE INPUT: true; the input reads as it did. -/
def treesOneSpec : ChangeSpec := { name := "treesOne", fn := fun _ => fun
  | [d1, d2, d3] => { results := [.lit (.bool true)], args := [d1, d2, d3] }
  | _ => none }
def treesOneRow : OpenClaim := { program := "ytccednepbkjajaa", sum := "9d6c0d2385882a28f3d912a6bcf54ff210f8598ad4ab42a3213f0c6a28139f20", func := "gantry/gantrylaw08.TreesOne", spec := "treesOne", unfollowed := true, recurses := true, apart := false }
def TreesOneSaid : Prop := treesOneRow.holds Try.pinned (OpenSpec.ofChange treesOneSpec)

/-- ITS FALSE NEIGHBOUR: 'it returns false'. Refute it at one input. -/
def treesOneWrong : ChangeSpec := { name := "treesOne", fn := fun _ => fun
  | [d1, d2, d3] => { results := [.lit (.bool false)], args := [d1, d2, d3] }
  | _ => none }
def TreesOneWrongFalsely : Prop := treesOneRow.holds Try.pinned (OpenSpec.ofChange treesOneWrong)

/- THE SECOND FORM. 'bulk': how many values and letters a reading holds, each counted each time it is reached (what is shared counts as often as it is met; a slice's spare places count too). A statement '..UptoSaid' is the law's where the arguments, and the package variables that the reading takes, are together of bulk at most 1048576: NARROWER than '..Said'. Prove '..Said' where nothing that the law and all that it calls make is longer than what came in: it says more and counts as full. Else prove '..UptoSaid'. A law counts once. -/
mutual
def uptoBulk {H : Type} : DataW H → Nat
  | .lit (.string bytes) => bytes.length + 1
  | .lit _ => 1
  | .nil => 1
  | .ptr d => uptoBulk d + 1
  | .slice elems spare => uptoBulkAll elems + uptoBulkAll spare + 1
  | .agg parts => uptoBulkAll parts + 1
  | .iface _ d => uptoBulk d + 1
  | .map entries => uptoBulkEntries entries + 1
  | .held _ => 1
def uptoBulkAll {H : Type} : List (DataW H) → Nat
  | [] => 0
  | d :: r => uptoBulk d + uptoBulkAll r
def uptoBulkEntries {H : Type} : List (Lit × DataW H) → Nat
  | [] => 0
  | x :: r => uptoBulkEntry x + uptoBulkEntries r
def uptoBulkEntry {H : Type} : Lit × DataW H → Nat
  | (.string bytes, d) => bytes.length + uptoBulk d + 1
  | (_, d) => uptoBulk d + 1
 end
def uptoSmall : (H : Type) → List (DataW H) → Bool := fun _ ds => decide (uptoBulkAll ds ≤ 1048576)
def OpenSpec.upto (s : _root_.Go.ChangeSpec) : _root_.Go.OpenSpec := { _root_.Go.OpenSpec.ofChange s with cond := some uptoSmall }

/-- 'gantrylaw08.TreesBack', WHERE WHAT IT READS IS OF BULK AT MOST 1048576: true; the input reads as it did. -/
def treesBackUptoRow : OpenClaim := { program := "ytccednepbkjajaa", sum := "9d6c0d2385882a28f3d912a6bcf54ff210f8598ad4ab42a3213f0c6a28139f20", func := "gantry/gantrylaw08.TreesBack", spec := "treesBack", unfollowed := true, recurses := true, loops := true, apart := false, narrowed := true }
def TreesBackUptoSaid : Prop := treesBackUptoRow.holds Try.pinned (OpenSpec.upto treesBackSpec)

/-- 'gantrylaw08.TreesOne', WHERE WHAT IT READS IS OF BULK AT MOST 1048576: true; the input reads as it did. -/
def treesOneUptoRow : OpenClaim := { program := "ytccednepbkjajaa", sum := "9d6c0d2385882a28f3d912a6bcf54ff210f8598ad4ab42a3213f0c6a28139f20", func := "gantry/gantrylaw08.TreesOne", spec := "treesOne", unfollowed := true, recurses := true, apart := false, narrowed := true }
def TreesOneUptoSaid : Prop := treesOneUptoRow.holds Try.pinned (OpenSpec.upto treesOneSpec)

end Rows
end Go.Proofs.Ytccednepbkjajaa
