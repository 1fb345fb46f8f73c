/-
  NARROWER THAN 'FOR EVERY INPUT', by the rows' own cells (each row's printed sentence says how): GrammarTurns: laid · GrammarCodes: laid · GrammarBack: laid · GrammarTwice: laid · GrammarAll: laid · GrammarOwn: laid.
  DERIVED. THE GIVEN ROWS OF THIS SEAT. 6 by the template 'for every input the law returns true; each argument reads behind the call as it read before'; 0 by the template 'total and deterministic' (their statements: YtmkakdfdfdcncaaGreatDoorTotals.lean).
  GIVEN WITH THE SEED: the statements are not yours to turn. If you find one false, say at which input.
  Laid BY PROGRAM, IN A SANDBOX (cutbox-rows.mjs): the forced cells as the released guide's own fill.sh prints them over the translation 6a8efc515eeb442e… (all of the seat's roots in one cut). By AI agents, Wed Nov 11 2026. No macro, syntax, notation, axiom, sorry.
-/
import Derived.Test.YtmkakdfdfdcncaaGreatDoorChecked
import GoSem.Claim
import GoSem.ClaimJoined
import GoSem.ClaimMapViews
import Derived.JoinedTies
import Derived.KernelRfl
namespace Go.Proofs.YtmkakdfdfdcncaaGreatDoor
/- THE CELL 'sum', in the pinned program and in every row, IS THE sha256 OF THE DUMP (.gsa) THAT YtmkakdfdfdcncaaGreatDoorProg.lean LOADS. Nothing in Lean hashes anything: it is a label: what it is worth is what the hold of that sum in a sandbox is worth. -/
noncomputable def Tryz.pinned : Pinned := { name := "ytmkakdfdfdcncaagreatdoor", sum := "6a8efc515eeb442e4ef7ef53db0c1254e69e7796ee43df092b619b81716d5b90", checked := Tryz.checked }
namespace Rows
def none {H : Type} : Left H := { results := [], args := [] }

/- WHAT THE LISTED PACKAGE-LEVEL VARIABLES READ AS WHEN THE CALL BEGINS. Each datum BY PROGRAM (the guide's laid-datum.mjs) off the statement by which the dump's own 'gosem.cut.vars' lays the variable. In a bare row this is a premise. The card (YtmkakdfdfdcncaaGreatDoorCards.lean) ties it to the program's text. -/
def laid_gantry_codec_magic {H : Type} : DataW H := .agg [.lit (.int .u8 103), .lit (.int .u8 116), .lit (.int .u8 114)]

/-- 'gantrylaw03.GrammarTurns': WHATEVER THE INPUT: true; the input reads as it did. -/
def grammarTurnsSpec : ChangeSpec := { name := "grammarTurns", fn := fun _ => fun
  | [d1, d2, d3] => { results := [.lit (.bool true)], args := [d1, d2, d3] }
  | _ => none }
def grammarTurnsRow : OpenClaim := { program := "ytmkakdfdfdcncaagreatdoor", sum := "6a8efc515eeb442e4ef7ef53db0c1254e69e7796ee43df092b619b81716d5b90", func := "gantry/gantrylaw03.GrammarTurns", spec := "grammarTurns", unfollowed := true, recurses := true, named := ["gantry/codec.magic"], apart := false, laid := [("gantry/codec.magic", laid_gantry_codec_magic)] }
def GrammarTurnsSaid : Prop := grammarTurnsRow.holds Tryz.pinned (OpenSpec.ofChange grammarTurnsSpec)

/-- ITS FALSE NEIGHBOUR: 'it returns false'. Refute it at one input. -/
def grammarTurnsWrong : ChangeSpec := { name := "grammarTurns", fn := fun _ => fun
  | [d1, d2, d3] => { results := [.lit (.bool false)], args := [d1, d2, d3] }
  | _ => none }
def GrammarTurnsWrongFalsely : Prop := grammarTurnsRow.holds Tryz.pinned (OpenSpec.ofChange grammarTurnsWrong)

/-- 'gantrylaw03.GrammarCodes': WHATEVER THE INPUT: true; the input reads as it did. -/
def grammarCodesSpec : ChangeSpec := { name := "grammarCodes", fn := fun _ => fun
  | [d1, d2] => { results := [.lit (.bool true)], args := [d1, d2] }
  | _ => none }
def grammarCodesRow : OpenClaim := { program := "ytmkakdfdfdcncaagreatdoor", sum := "6a8efc515eeb442e4ef7ef53db0c1254e69e7796ee43df092b619b81716d5b90", func := "gantry/gantrylaw03.GrammarCodes", spec := "grammarCodes", unfollowed := true, recurses := true, named := ["gantry/codec.magic"], apart := false, laid := [("gantry/codec.magic", laid_gantry_codec_magic)] }
def GrammarCodesSaid : Prop := grammarCodesRow.holds Tryz.pinned (OpenSpec.ofChange grammarCodesSpec)

/-- ITS FALSE NEIGHBOUR: 'it returns false'. Refute it at one input. -/
def grammarCodesWrong : ChangeSpec := { name := "grammarCodes", fn := fun _ => fun
  | [d1, d2] => { results := [.lit (.bool false)], args := [d1, d2] }
  | _ => none }
def GrammarCodesWrongFalsely : Prop := grammarCodesRow.holds Tryz.pinned (OpenSpec.ofChange grammarCodesWrong)

/-- 'gantrylaw03.GrammarBack': WHATEVER THE INPUT: true; the input reads as it did. -/
def grammarBackSpec : ChangeSpec := { name := "grammarBack", fn := fun _ => fun
  | [d1, d2] => { results := [.lit (.bool true)], args := [d1, d2] }
  | _ => none }
def grammarBackRow : OpenClaim := { program := "ytmkakdfdfdcncaagreatdoor", sum := "6a8efc515eeb442e4ef7ef53db0c1254e69e7796ee43df092b619b81716d5b90", func := "gantry/gantrylaw03.GrammarBack", spec := "grammarBack", unfollowed := true, recurses := true, named := ["gantry/codec.magic"], apart := false, laid := [("gantry/codec.magic", laid_gantry_codec_magic)] }
def GrammarBackSaid : Prop := grammarBackRow.holds Tryz.pinned (OpenSpec.ofChange grammarBackSpec)

/-- ITS FALSE NEIGHBOUR: 'it returns false'. Refute it at one input. -/
def grammarBackWrong : ChangeSpec := { name := "grammarBack", fn := fun _ => fun
  | [d1, d2] => { results := [.lit (.bool false)], args := [d1, d2] }
  | _ => none }
def GrammarBackWrongFalsely : Prop := grammarBackRow.holds Tryz.pinned (OpenSpec.ofChange grammarBackWrong)

/-- 'gantrylaw03.GrammarTwice': WHATEVER THE INPUT: true; the input reads as it did. -/
def grammarTwiceSpec : ChangeSpec := { name := "grammarTwice", fn := fun _ => fun
  | [d1, d2, d3] => { results := [.lit (.bool true)], args := [d1, d2, d3] }
  | _ => none }
def grammarTwiceRow : OpenClaim := { program := "ytmkakdfdfdcncaagreatdoor", sum := "6a8efc515eeb442e4ef7ef53db0c1254e69e7796ee43df092b619b81716d5b90", func := "gantry/gantrylaw03.GrammarTwice", spec := "grammarTwice", unfollowed := true, recurses := true, named := ["gantry/codec.magic"], apart := false, laid := [("gantry/codec.magic", laid_gantry_codec_magic)] }
def GrammarTwiceSaid : Prop := grammarTwiceRow.holds Tryz.pinned (OpenSpec.ofChange grammarTwiceSpec)

/-- ITS FALSE NEIGHBOUR: 'it returns false'. Refute it at one input. -/
def grammarTwiceWrong : ChangeSpec := { name := "grammarTwice", fn := fun _ => fun
  | [d1, d2, d3] => { results := [.lit (.bool false)], args := [d1, d2, d3] }
  | _ => none }
def GrammarTwiceWrongFalsely : Prop := grammarTwiceRow.holds Tryz.pinned (OpenSpec.ofChange grammarTwiceWrong)

/-- 'gantrylaw03.GrammarAll': WHATEVER THE INPUT: true; the input reads as it did. -/
def grammarAllSpec : ChangeSpec := { name := "grammarAll", fn := fun _ => fun
  | [d] => { results := [.lit (.bool true)], args := [d] }
  | _ => none }
def grammarAllRow : OpenClaim := { program := "ytmkakdfdfdcncaagreatdoor", sum := "6a8efc515eeb442e4ef7ef53db0c1254e69e7796ee43df092b619b81716d5b90", func := "gantry/gantrylaw03.GrammarAll", spec := "grammarAll", unfollowed := true, recurses := true, named := ["gantry/codec.magic"], apart := false, laid := [("gantry/codec.magic", laid_gantry_codec_magic)] }
def GrammarAllSaid : Prop := grammarAllRow.holds Tryz.pinned (OpenSpec.ofChange grammarAllSpec)

/-- ITS FALSE NEIGHBOUR: 'it returns false'. Refute it at one input. -/
def grammarAllWrong : ChangeSpec := { name := "grammarAll", fn := fun _ => fun
  | [d] => { results := [.lit (.bool false)], args := [d] }
  | _ => none }
def GrammarAllWrongFalsely : Prop := grammarAllRow.holds Tryz.pinned (OpenSpec.ofChange grammarAllWrong)

/-- 'gantrylaw03.GrammarOwn': WHATEVER THE INPUT: true; the input reads as it did. -/
def grammarOwnSpec : ChangeSpec := { name := "grammarOwn", fn := fun _ => fun
  | [d1, d2, d3, d4] => { results := [.lit (.bool true)], args := [d1, d2, d3, d4] }
  | _ => none }
def grammarOwnRow : OpenClaim := { program := "ytmkakdfdfdcncaagreatdoor", sum := "6a8efc515eeb442e4ef7ef53db0c1254e69e7796ee43df092b619b81716d5b90", func := "gantry/gantrylaw03.GrammarOwn", spec := "grammarOwn", unfollowed := true, recurses := true, named := ["gantry/codec.magic"], apart := false, laid := [("gantry/codec.magic", laid_gantry_codec_magic)] }
def GrammarOwnSaid : Prop := grammarOwnRow.holds Tryz.pinned (OpenSpec.ofChange grammarOwnSpec)

/-- ITS FALSE NEIGHBOUR: 'it returns false'. Refute it at one input. -/
def grammarOwnWrong : ChangeSpec := { name := "grammarOwn", fn := fun _ => fun
  | [d1, d2, d3, d4] => { results := [.lit (.bool false)], args := [d1, d2, d3, d4] }
  | _ => none }
def GrammarOwnWrongFalsely : Prop := grammarOwnRow.holds Tryz.pinned (OpenSpec.ofChange grammarOwnWrong)

/- THE SECOND FORM. 'bulk': how many values and letters a reading holds, each counted each time it is reached (what is shared counts as often as it is met; a slice's spare places count too). A statement '..UptoSaid' is the law's where the arguments, and the package variables that the reading takes, are together of bulk at most 1048576: NARROWER than '..Said'. Prove '..Said' where nothing that the law and all that it calls make is longer than what came in: it says more and counts as full. Else prove '..UptoSaid'. A law counts once. -/
mutual
def uptoBulk {H : Type} : DataW H → Nat
  | .lit (.string bytes) => bytes.length + 1
  | .lit _ => 1
  | .nil => 1
  | .ptr d => uptoBulk d + 1
  | .slice elems spare => uptoBulkAll elems + uptoBulkAll spare + 1
  | .agg parts => uptoBulkAll parts + 1
  | .iface _ d => uptoBulk d + 1
  | .map entries => uptoBulkEntries entries + 1
  | .held _ => 1
def uptoBulkAll {H : Type} : List (DataW H) → Nat
  | [] => 0
  | d :: r => uptoBulk d + uptoBulkAll r
def uptoBulkEntries {H : Type} : List (Lit × DataW H) → Nat
  | [] => 0
  | x :: r => uptoBulkEntry x + uptoBulkEntries r
def uptoBulkEntry {H : Type} : Lit × DataW H → Nat
  | (.string bytes, d) => bytes.length + uptoBulk d + 1
  | (_, d) => uptoBulk d + 1
 end
def uptoSmall : (H : Type) → List (DataW H) → Bool := fun _ ds => decide (uptoBulkAll ds ≤ 1048576)
def OpenSpec.upto (s : _root_.Go.ChangeSpec) : _root_.Go.OpenSpec := { _root_.Go.OpenSpec.ofChange s with cond := some uptoSmall }

/-- 'gantrylaw03.GrammarTurns', WHERE WHAT IT READS IS OF BULK AT MOST 1048576: true; the input reads as it did. -/
def grammarTurnsUptoRow : OpenClaim := { program := "ytmkakdfdfdcncaagreatdoor", sum := "6a8efc515eeb442e4ef7ef53db0c1254e69e7796ee43df092b619b81716d5b90", func := "gantry/gantrylaw03.GrammarTurns", spec := "grammarTurns", unfollowed := true, recurses := true, named := ["gantry/codec.magic"], apart := false, laid := [("gantry/codec.magic", laid_gantry_codec_magic)], narrowed := true }
def GrammarTurnsUptoSaid : Prop := grammarTurnsUptoRow.holds Tryz.pinned (OpenSpec.upto grammarTurnsSpec)

/-- 'gantrylaw03.GrammarCodes', WHERE WHAT IT READS IS OF BULK AT MOST 1048576: true; the input reads as it did. -/
def grammarCodesUptoRow : OpenClaim := { program := "ytmkakdfdfdcncaagreatdoor", sum := "6a8efc515eeb442e4ef7ef53db0c1254e69e7796ee43df092b619b81716d5b90", func := "gantry/gantrylaw03.GrammarCodes", spec := "grammarCodes", unfollowed := true, recurses := true, named := ["gantry/codec.magic"], apart := false, laid := [("gantry/codec.magic", laid_gantry_codec_magic)], narrowed := true }
def GrammarCodesUptoSaid : Prop := grammarCodesUptoRow.holds Tryz.pinned (OpenSpec.upto grammarCodesSpec)

/-- 'gantrylaw03.GrammarBack', WHERE WHAT IT READS IS OF BULK AT MOST 1048576: true; the input reads as it did. -/
def grammarBackUptoRow : OpenClaim := { program := "ytmkakdfdfdcncaagreatdoor", sum := "6a8efc515eeb442e4ef7ef53db0c1254e69e7796ee43df092b619b81716d5b90", func := "gantry/gantrylaw03.GrammarBack", spec := "grammarBack", unfollowed := true, recurses := true, named := ["gantry/codec.magic"], apart := false, laid := [("gantry/codec.magic", laid_gantry_codec_magic)], narrowed := true }
def GrammarBackUptoSaid : Prop := grammarBackUptoRow.holds Tryz.pinned (OpenSpec.upto grammarBackSpec)

/-- 'gantrylaw03.GrammarTwice', WHERE WHAT IT READS IS OF BULK AT MOST 1048576: true; the input reads as it did. -/
def grammarTwiceUptoRow : OpenClaim := { program := "ytmkakdfdfdcncaagreatdoor", sum := "6a8efc515eeb442e4ef7ef53db0c1254e69e7796ee43df092b619b81716d5b90", func := "gantry/gantrylaw03.GrammarTwice", spec := "grammarTwice", unfollowed := true, recurses := true, named := ["gantry/codec.magic"], apart := false, laid := [("gantry/codec.magic", laid_gantry_codec_magic)], narrowed := true }
def GrammarTwiceUptoSaid : Prop := grammarTwiceUptoRow.holds Tryz.pinned (OpenSpec.upto grammarTwiceSpec)

/-- 'gantrylaw03.GrammarAll', WHERE WHAT IT READS IS OF BULK AT MOST 1048576: true; the input reads as it did. -/
def grammarAllUptoRow : OpenClaim := { program := "ytmkakdfdfdcncaagreatdoor", sum := "6a8efc515eeb442e4ef7ef53db0c1254e69e7796ee43df092b619b81716d5b90", func := "gantry/gantrylaw03.GrammarAll", spec := "grammarAll", unfollowed := true, recurses := true, named := ["gantry/codec.magic"], apart := false, laid := [("gantry/codec.magic", laid_gantry_codec_magic)], narrowed := true }
def GrammarAllUptoSaid : Prop := grammarAllUptoRow.holds Tryz.pinned (OpenSpec.upto grammarAllSpec)

/-- 'gantrylaw03.GrammarOwn', WHERE WHAT IT READS IS OF BULK AT MOST 1048576: true; the input reads as it did. -/
def grammarOwnUptoRow : OpenClaim := { program := "ytmkakdfdfdcncaagreatdoor", sum := "6a8efc515eeb442e4ef7ef53db0c1254e69e7796ee43df092b619b81716d5b90", func := "gantry/gantrylaw03.GrammarOwn", spec := "grammarOwn", unfollowed := true, recurses := true, named := ["gantry/codec.magic"], apart := false, laid := [("gantry/codec.magic", laid_gantry_codec_magic)], narrowed := true }
def GrammarOwnUptoSaid : Prop := grammarOwnUptoRow.holds Tryz.pinned (OpenSpec.upto grammarOwnSpec)

end Rows
end Go.Proofs.YtmkakdfdfdcncaaGreatDoor
