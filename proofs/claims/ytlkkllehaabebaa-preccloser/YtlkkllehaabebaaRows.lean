/-
  No cell of these rows narrows 'for every input' (looked for: loops, veiled, ifaces, maps, wideKeys, modest, calm, conditions, laid).
  DERIVED. THE GIVEN ROWS OF THIS SEAT. 5 by the template 'for every input the law returns true; each argument reads behind the call as it read before'; 0 by the template 'total and deterministic' (their statements: YtlkkllehaabebaaTotals.lean).
  GIVEN WITH THE SEED: the statements are not yours to turn. If you find one false, say at which input.
  Laid BY PROGRAM, IN A SANDBOX (cutbox-rows.mjs): the forced cells as the released guide's own fill.sh prints them over the translation e7ac026f7080e9d6… (all of the seat's roots in one cut). By AI agents, Wed Nov 11 2026. No macro, syntax, notation, axiom, sorry.
-/
import Derived.Test.YtlkkllehaabebaaChecked
import GoSem.Claim
import GoSem.ClaimJoined
import GoSem.ClaimMapViews
import Derived.JoinedTies
import Derived.KernelRfl
namespace Go.Proofs.Ytlkkllehaabebaa
/- THE CELL 'sum', in the pinned program and in every row, IS THE sha256 OF THE DUMP (.gsa) THAT YtlkkllehaabebaaProg.lean LOADS. Nothing in Lean hashes anything: it is a label: what it is worth is what the hold of that sum in a sandbox is worth. -/
noncomputable def Try.pinned : Pinned := { name := "ytlkkllehaabebaa", sum := "e7ac026f7080e9d65e5d0e1ecb4b8af5bfd6ecdf43d3b94d2dddb58204ede160", checked := Try.checked }
namespace Rows
def none {H : Type} : Left H := { results := [], args := [] }

/-- 'gantrylaw14.PrecLevels': WHATEVER THE INPUT: true; the input reads as it did. -/
def precLevelsSpec : ChangeSpec := { name := "precLevels", fn := fun _ => fun
  | [d1, d2, d3] => { results := [.lit (.bool true)], args := [d1, d2, d3] }
  | _ => none }
def precLevelsRow : OpenClaim := { program := "ytlkkllehaabebaa", sum := "e7ac026f7080e9d65e5d0e1ecb4b8af5bfd6ecdf43d3b94d2dddb58204ede160", func := "gantry/gantrylaw14.PrecLevels", spec := "precLevels", unfollowed := true, recurses := true, apart := false }
def PrecLevelsSaid : Prop := precLevelsRow.holds Try.pinned (OpenSpec.ofChange precLevelsSpec)

/-- ITS FALSE NEIGHBOUR: 'it returns false'. Refute it at one input. -/
def precLevelsWrong : ChangeSpec := { name := "precLevels", fn := fun _ => fun
  | [d1, d2, d3] => { results := [.lit (.bool false)], args := [d1, d2, d3] }
  | _ => none }
def PrecLevelsWrongFalsely : Prop := precLevelsRow.holds Try.pinned (OpenSpec.ofChange precLevelsWrong)

/-- 'gantrylaw14.PrecUses': WHATEVER THE INPUT: true; the input reads as it did. -/
def precUsesSpec : ChangeSpec := { name := "precUses", fn := fun _ => fun
  | [d1, d2] => { results := [.lit (.bool true)], args := [d1, d2] }
  | _ => none }
def precUsesRow : OpenClaim := { program := "ytlkkllehaabebaa", sum := "e7ac026f7080e9d65e5d0e1ecb4b8af5bfd6ecdf43d3b94d2dddb58204ede160", func := "gantry/gantrylaw14.PrecUses", spec := "precUses", unfollowed := true, recurses := true, apart := false }
def PrecUsesSaid : Prop := precUsesRow.holds Try.pinned (OpenSpec.ofChange precUsesSpec)

/-- ITS FALSE NEIGHBOUR: 'it returns false'. Refute it at one input. -/
def precUsesWrong : ChangeSpec := { name := "precUses", fn := fun _ => fun
  | [d1, d2] => { results := [.lit (.bool false)], args := [d1, d2] }
  | _ => none }
def PrecUsesWrongFalsely : Prop := precUsesRow.holds Try.pinned (OpenSpec.ofChange precUsesWrong)

/-- 'gantrylaw14.PrecOne': WHATEVER THE INPUT: true; the input reads as it did. -/
def precOneSpec : ChangeSpec := { name := "precOne", fn := fun _ => fun
  | [d1, d2] => { results := [.lit (.bool true)], args := [d1, d2] }
  | _ => none }
def precOneRow : OpenClaim := { program := "ytlkkllehaabebaa", sum := "e7ac026f7080e9d65e5d0e1ecb4b8af5bfd6ecdf43d3b94d2dddb58204ede160", func := "gantry/gantrylaw14.PrecOne", spec := "precOne", unfollowed := true, recurses := true, apart := false }
def PrecOneSaid : Prop := precOneRow.holds Try.pinned (OpenSpec.ofChange precOneSpec)

/-- ITS FALSE NEIGHBOUR: 'it returns false'. Refute it at one input. -/
def precOneWrong : ChangeSpec := { name := "precOne", fn := fun _ => fun
  | [d1, d2] => { results := [.lit (.bool false)], args := [d1, d2] }
  | _ => none }
def PrecOneWrongFalsely : Prop := precOneRow.holds Try.pinned (OpenSpec.ofChange precOneWrong)

/-- 'gantrylaw14.PrecCloser': WHATEVER THE INPUT: true; the input reads as it did. -/
def precCloserSpec : ChangeSpec := { name := "precCloser", fn := fun _ => fun
  | [d1, d2] => { results := [.lit (.bool true)], args := [d1, d2] }
  | _ => none }
def precCloserRow : OpenClaim := { program := "ytlkkllehaabebaa", sum := "e7ac026f7080e9d65e5d0e1ecb4b8af5bfd6ecdf43d3b94d2dddb58204ede160", func := "gantry/gantrylaw14.PrecCloser", spec := "precCloser", unfollowed := true, recurses := true, apart := false }
def PrecCloserSaid : Prop := precCloserRow.holds Try.pinned (OpenSpec.ofChange precCloserSpec)

/-- ITS FALSE NEIGHBOUR: 'it returns false'. Refute it at one input. -/
def precCloserWrong : ChangeSpec := { name := "precCloser", fn := fun _ => fun
  | [d1, d2] => { results := [.lit (.bool false)], args := [d1, d2] }
  | _ => none }
def PrecCloserWrongFalsely : Prop := precCloserRow.holds Try.pinned (OpenSpec.ofChange precCloserWrong)

/-- 'gantrylaw14.PrecAhead': WHATEVER THE INPUT: true; the input reads as it did. -/
def precAheadSpec : ChangeSpec := { name := "precAhead", fn := fun _ => fun
  | [d1, d2, d3] => { results := [.lit (.bool true)], args := [d1, d2, d3] }
  | _ => none }
def precAheadRow : OpenClaim := { program := "ytlkkllehaabebaa", sum := "e7ac026f7080e9d65e5d0e1ecb4b8af5bfd6ecdf43d3b94d2dddb58204ede160", func := "gantry/gantrylaw14.PrecAhead", spec := "precAhead", unfollowed := true, recurses := true, apart := false }
def PrecAheadSaid : Prop := precAheadRow.holds Try.pinned (OpenSpec.ofChange precAheadSpec)

/-- ITS FALSE NEIGHBOUR: 'it returns false'. Refute it at one input. -/
def precAheadWrong : ChangeSpec := { name := "precAhead", fn := fun _ => fun
  | [d1, d2, d3] => { results := [.lit (.bool false)], args := [d1, d2, d3] }
  | _ => none }
def PrecAheadWrongFalsely : Prop := precAheadRow.holds Try.pinned (OpenSpec.ofChange precAheadWrong)

/- THE SECOND FORM. 'bulk': how many values and letters a reading holds, each counted each time it is reached (what is shared counts as often as it is met; a slice's spare places count too). A statement '..UptoSaid' is the law's where the arguments, and the package variables that the reading takes, are together of bulk at most 1048576: NARROWER than '..Said'. Prove '..Said' where nothing that the law and all that it calls make is longer than what came in: it says more and counts as full. Else prove '..UptoSaid'. A law counts once. -/
mutual
def uptoBulk {H : Type} : DataW H → Nat
  | .lit (.string bytes) => bytes.length + 1
  | .lit _ => 1
  | .nil => 1
  | .ptr d => uptoBulk d + 1
  | .slice elems spare => uptoBulkAll elems + uptoBulkAll spare + 1
  | .agg parts => uptoBulkAll parts + 1
  | .iface _ d => uptoBulk d + 1
  | .map entries => uptoBulkEntries entries + 1
  | .held _ => 1
def uptoBulkAll {H : Type} : List (DataW H) → Nat
  | [] => 0
  | d :: r => uptoBulk d + uptoBulkAll r
def uptoBulkEntries {H : Type} : List (Lit × DataW H) → Nat
  | [] => 0
  | x :: r => uptoBulkEntry x + uptoBulkEntries r
def uptoBulkEntry {H : Type} : Lit × DataW H → Nat
  | (.string bytes, d) => bytes.length + uptoBulk d + 1
  | (_, d) => uptoBulk d + 1
 end
def uptoSmall : (H : Type) → List (DataW H) → Bool := fun _ ds => decide (uptoBulkAll ds ≤ 1048576)
def OpenSpec.upto (s : _root_.Go.ChangeSpec) : _root_.Go.OpenSpec := { _root_.Go.OpenSpec.ofChange s with cond := some uptoSmall }

/-- 'gantrylaw14.PrecLevels', WHERE WHAT IT READS IS OF BULK AT MOST 1048576: true; the input reads as it did. -/
def precLevelsUptoRow : OpenClaim := { program := "ytlkkllehaabebaa", sum := "e7ac026f7080e9d65e5d0e1ecb4b8af5bfd6ecdf43d3b94d2dddb58204ede160", func := "gantry/gantrylaw14.PrecLevels", spec := "precLevels", unfollowed := true, recurses := true, apart := false, narrowed := true }
def PrecLevelsUptoSaid : Prop := precLevelsUptoRow.holds Try.pinned (OpenSpec.upto precLevelsSpec)

/-- 'gantrylaw14.PrecUses', WHERE WHAT IT READS IS OF BULK AT MOST 1048576: true; the input reads as it did. -/
def precUsesUptoRow : OpenClaim := { program := "ytlkkllehaabebaa", sum := "e7ac026f7080e9d65e5d0e1ecb4b8af5bfd6ecdf43d3b94d2dddb58204ede160", func := "gantry/gantrylaw14.PrecUses", spec := "precUses", unfollowed := true, recurses := true, apart := false, narrowed := true }
def PrecUsesUptoSaid : Prop := precUsesUptoRow.holds Try.pinned (OpenSpec.upto precUsesSpec)

/-- 'gantrylaw14.PrecOne', WHERE WHAT IT READS IS OF BULK AT MOST 1048576: true; the input reads as it did. -/
def precOneUptoRow : OpenClaim := { program := "ytlkkllehaabebaa", sum := "e7ac026f7080e9d65e5d0e1ecb4b8af5bfd6ecdf43d3b94d2dddb58204ede160", func := "gantry/gantrylaw14.PrecOne", spec := "precOne", unfollowed := true, recurses := true, apart := false, narrowed := true }
def PrecOneUptoSaid : Prop := precOneUptoRow.holds Try.pinned (OpenSpec.upto precOneSpec)

/-- 'gantrylaw14.PrecCloser', WHERE WHAT IT READS IS OF BULK AT MOST 1048576: true; the input reads as it did. -/
def precCloserUptoRow : OpenClaim := { program := "ytlkkllehaabebaa", sum := "e7ac026f7080e9d65e5d0e1ecb4b8af5bfd6ecdf43d3b94d2dddb58204ede160", func := "gantry/gantrylaw14.PrecCloser", spec := "precCloser", unfollowed := true, recurses := true, apart := false, narrowed := true }
def PrecCloserUptoSaid : Prop := precCloserUptoRow.holds Try.pinned (OpenSpec.upto precCloserSpec)

/-- 'gantrylaw14.PrecAhead', WHERE WHAT IT READS IS OF BULK AT MOST 1048576: true; the input reads as it did. -/
def precAheadUptoRow : OpenClaim := { program := "ytlkkllehaabebaa", sum := "e7ac026f7080e9d65e5d0e1ecb4b8af5bfd6ecdf43d3b94d2dddb58204ede160", func := "gantry/gantrylaw14.PrecAhead", spec := "precAhead", unfollowed := true, recurses := true, apart := false, narrowed := true }
def PrecAheadUptoSaid : Prop := precAheadUptoRow.holds Try.pinned (OpenSpec.upto precAheadSpec)

end Rows
end Go.Proofs.Ytlkkllehaabebaa
