/-
  No cell of these rows narrows 'for every input' (looked for: loops, veiled, ifaces, maps, wideKeys, modest, calm, conditions, laid).
  DERIVED. THE GIVEN ROWS OF THIS SEAT. 3 by the template 'for every input the law returns true; each argument reads behind the call as it read before'; 0 by the template 'total and deterministic' (their statements: YtboabidokkghbaaGreatTotals.lean).
  GIVEN WITH THE SEED: the statements are not yours to turn. If you find one false, say at which input.
  Laid BY PROGRAM, IN A SANDBOX (cutbox-rows.mjs): the forced cells as the released guide's own fill.sh prints them over the translation 2bfab9af8f60037f… (all of the seat's roots in one cut). By AI agents, Wed Nov 11 2026. No macro, syntax, notation, axiom, sorry.
-/
import Derived.Test.YtboabidokkghbaaGreatChecked
import GoSem.Claim
import GoSem.ClaimJoined
import GoSem.ClaimMapViews
import Derived.JoinedTies
import Derived.KernelRfl
namespace Go.Proofs.YtboabidokkghbaaGreat
/- THE CELL 'sum', in the pinned program and in every row, IS THE sha256 OF THE DUMP (.gsa) THAT YtboabidokkghbaaGreatProg.lean LOADS. Nothing in Lean hashes anything: it is a label: what it is worth is what the hold of that sum in a sandbox is worth. -/
noncomputable def Tryz.pinned : Pinned := { name := "ytboabidokkghbaagreat", sum := "2bfab9af8f60037f5571c1cfa555764d132492e6a82f8f23d7098700e6ff5213", checked := Tryz.checked }
namespace Rows
def none {H : Type} : Left H := { results := [], args := [] }

/-- 'gantrylaw06.FirstLeast': WHATEVER THE INPUT: true; the input reads as it did. -/
def firstLeastSpec : ChangeSpec := { name := "firstLeast", fn := fun _ => fun
  | [d] => { results := [.lit (.bool true)], args := [d] }
  | _ => none }
def firstLeastRow : OpenClaim := { program := "ytboabidokkghbaagreat", sum := "2bfab9af8f60037f5571c1cfa555764d132492e6a82f8f23d7098700e6ff5213", func := "gantry/gantrylaw06.FirstLeast", spec := "firstLeast", unfollowed := true, recurses := true, apart := false }
def FirstLeastSaid : Prop := firstLeastRow.holds Tryz.pinned (OpenSpec.ofChange firstLeastSpec)

/-- ITS FALSE NEIGHBOUR: 'it returns false'. Refute it at one input. -/
def firstLeastWrong : ChangeSpec := { name := "firstLeast", fn := fun _ => fun
  | [d] => { results := [.lit (.bool false)], args := [d] }
  | _ => none }
def FirstLeastWrongFalsely : Prop := firstLeastRow.holds Tryz.pinned (OpenSpec.ofChange firstLeastWrong)

/-- 'gantrylaw06.FirstOf': WHATEVER THE INPUT: true; the input reads as it did. -/
def firstOfSpec : ChangeSpec := { name := "firstOf", fn := fun _ => fun
  | [d1, d2, d3, d4, d5] => { results := [.lit (.bool true)], args := [d1, d2, d3, d4, d5] }
  | _ => none }
def firstOfRow : OpenClaim := { program := "ytboabidokkghbaagreat", sum := "2bfab9af8f60037f5571c1cfa555764d132492e6a82f8f23d7098700e6ff5213", func := "gantry/gantrylaw06.FirstOf", spec := "firstOf", unfollowed := true, recurses := true, apart := false }
def FirstOfSaid : Prop := firstOfRow.holds Tryz.pinned (OpenSpec.ofChange firstOfSpec)

/-- ITS FALSE NEIGHBOUR: 'it returns false'. Refute it at one input. -/
def firstOfWrong : ChangeSpec := { name := "firstOf", fn := fun _ => fun
  | [d1, d2, d3, d4, d5] => { results := [.lit (.bool false)], args := [d1, d2, d3, d4, d5] }
  | _ => none }
def FirstOfWrongFalsely : Prop := firstOfRow.holds Tryz.pinned (OpenSpec.ofChange firstOfWrong)

/-- 'gantrylaw06.FirstChecks': WHATEVER THE INPUT: true; the input reads as it did. -/
def firstChecksSpec : ChangeSpec := { name := "firstChecks", fn := fun _ => fun
  | [d1, d2, d3] => { results := [.lit (.bool true)], args := [d1, d2, d3] }
  | _ => none }
def firstChecksRow : OpenClaim := { program := "ytboabidokkghbaagreat", sum := "2bfab9af8f60037f5571c1cfa555764d132492e6a82f8f23d7098700e6ff5213", func := "gantry/gantrylaw06.FirstChecks", spec := "firstChecks", unfollowed := true, recurses := true, apart := false }
def FirstChecksSaid : Prop := firstChecksRow.holds Tryz.pinned (OpenSpec.ofChange firstChecksSpec)

/-- ITS FALSE NEIGHBOUR: 'it returns false'. Refute it at one input. -/
def firstChecksWrong : ChangeSpec := { name := "firstChecks", fn := fun _ => fun
  | [d1, d2, d3] => { results := [.lit (.bool false)], args := [d1, d2, d3] }
  | _ => none }
def FirstChecksWrongFalsely : Prop := firstChecksRow.holds Tryz.pinned (OpenSpec.ofChange firstChecksWrong)

/- THE SECOND FORM. 'bulk': how many values and letters a reading holds, each counted each time it is reached (what is shared counts as often as it is met; a slice's spare places count too). A statement '..UptoSaid' is the law's where the arguments, and the package variables that the reading takes, are together of bulk at most 1048576: NARROWER than '..Said'. Prove '..Said' where nothing that the law and all that it calls make is longer than what came in: it says more and counts as full. Else prove '..UptoSaid'. A law counts once. -/
mutual
def uptoBulk {H : Type} : DataW H → Nat
  | .lit (.string bytes) => bytes.length + 1
  | .lit _ => 1
  | .nil => 1
  | .ptr d => uptoBulk d + 1
  | .slice elems spare => uptoBulkAll elems + uptoBulkAll spare + 1
  | .agg parts => uptoBulkAll parts + 1
  | .iface _ d => uptoBulk d + 1
  | .map entries => uptoBulkEntries entries + 1
  | .held _ => 1
def uptoBulkAll {H : Type} : List (DataW H) → Nat
  | [] => 0
  | d :: r => uptoBulk d + uptoBulkAll r
def uptoBulkEntries {H : Type} : List (Lit × DataW H) → Nat
  | [] => 0
  | x :: r => uptoBulkEntry x + uptoBulkEntries r
def uptoBulkEntry {H : Type} : Lit × DataW H → Nat
  | (.string bytes, d) => bytes.length + uptoBulk d + 1
  | (_, d) => uptoBulk d + 1
 end
def uptoSmall : (H : Type) → List (DataW H) → Bool := fun _ ds => decide (uptoBulkAll ds ≤ 1048576)
def OpenSpec.upto (s : _root_.Go.ChangeSpec) : _root_.Go.OpenSpec := { _root_.Go.OpenSpec.ofChange s with cond := some uptoSmall }

/-- 'gantrylaw06.FirstLeast', WHERE WHAT IT READS IS OF BULK AT MOST 1048576: true; the input reads as it did. -/
def firstLeastUptoRow : OpenClaim := { program := "ytboabidokkghbaagreat", sum := "2bfab9af8f60037f5571c1cfa555764d132492e6a82f8f23d7098700e6ff5213", func := "gantry/gantrylaw06.FirstLeast", spec := "firstLeast", unfollowed := true, recurses := true, apart := false, narrowed := true }
def FirstLeastUptoSaid : Prop := firstLeastUptoRow.holds Tryz.pinned (OpenSpec.upto firstLeastSpec)

/-- 'gantrylaw06.FirstOf', WHERE WHAT IT READS IS OF BULK AT MOST 1048576: true; the input reads as it did. -/
def firstOfUptoRow : OpenClaim := { program := "ytboabidokkghbaagreat", sum := "2bfab9af8f60037f5571c1cfa555764d132492e6a82f8f23d7098700e6ff5213", func := "gantry/gantrylaw06.FirstOf", spec := "firstOf", unfollowed := true, recurses := true, apart := false, narrowed := true }
def FirstOfUptoSaid : Prop := firstOfUptoRow.holds Tryz.pinned (OpenSpec.upto firstOfSpec)

/-- 'gantrylaw06.FirstChecks', WHERE WHAT IT READS IS OF BULK AT MOST 1048576: true; the input reads as it did. -/
def firstChecksUptoRow : OpenClaim := { program := "ytboabidokkghbaagreat", sum := "2bfab9af8f60037f5571c1cfa555764d132492e6a82f8f23d7098700e6ff5213", func := "gantry/gantrylaw06.FirstChecks", spec := "firstChecks", unfollowed := true, recurses := true, apart := false, narrowed := true }
def FirstChecksUptoSaid : Prop := firstChecksUptoRow.holds Tryz.pinned (OpenSpec.upto firstChecksSpec)

end Rows
end Go.Proofs.YtboabidokkghbaaGreat
