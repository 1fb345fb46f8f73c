/-
  NARROWER THAN 'FOR EVERY INPUT', by the rows' own cells (each row's printed sentence says how): CodecFrames: laid · CodecWrites: laid · CodecReads: laid · CodecBack: laid · CodecOne: laid · CodecSealed: laid.
  DERIVED. THE GIVEN ROWS OF THIS SEAT. 6 by the template 'for every input the law returns true; each argument reads behind the call as it read before'; 0 by the template 'total and deterministic' (their statements: YtgaoahifblifoaaDoorTotals.lean).
  GIVEN WITH THE SEED: the statements are not yours to turn. If you find one false, say at which input.
  Laid BY PROGRAM, IN A SANDBOX (cutbox-rows.mjs): the forced cells as the released guide's own fill.sh prints them over the translation f79c02507a5b3460… (all of the seat's roots in one cut). By AI agents, Wed Nov 11 2026. No macro, syntax, notation, axiom, sorry.
-/
import Derived.Test.YtgaoahifblifoaaDoorChecked
import GoSem.Claim
import GoSem.ClaimJoined
import GoSem.ClaimMapViews
import Derived.JoinedTies
import Derived.KernelRfl
namespace Go.Proofs.YtgaoahifblifoaaDoor
/- THE CELL 'sum', in the pinned program and in every row, IS THE sha256 OF THE DUMP (.gsa) THAT YtgaoahifblifoaaDoorProg.lean LOADS. Nothing in Lean hashes anything: it is a label: what it is worth is what the hold of that sum in a sandbox is worth. -/
noncomputable def Tryd.pinned : Pinned := { name := "ytgaoahifblifoaadoor", sum := "f79c02507a5b3460783c942ed8943dc16c749bd720edc079a159b72bce5f2227", checked := Tryd.checked }
namespace Rows
def none {H : Type} : Left H := { results := [], args := [] }

/- WHAT THE LISTED PACKAGE-LEVEL VARIABLES READ AS WHEN THE CALL BEGINS. Each datum BY PROGRAM (the guide's laid-datum.mjs) off the statement by which the dump's own 'gosem.cut.vars' lays the variable. In a bare row this is a premise. The card (YtgaoahifblifoaaDoorCards.lean) ties it to the program's text. -/
def laid_gantry_codec_magic {H : Type} : DataW H := .agg [.lit (.int .u8 103), .lit (.int .u8 116), .lit (.int .u8 114)]

/-- 'gantrylaw01.CodecFrames': WHATEVER THE INPUT: true; the input reads as it did. -/
def codecFramesSpec : ChangeSpec := { name := "codecFrames", fn := fun _ => fun
  | [d1, d2, d3] => { results := [.lit (.bool true)], args := [d1, d2, d3] }
  | _ => none }
def codecFramesRow : OpenClaim := { program := "ytgaoahifblifoaadoor", sum := "f79c02507a5b3460783c942ed8943dc16c749bd720edc079a159b72bce5f2227", func := "gantry/gantrylaw01.CodecFrames", spec := "codecFrames", named := ["gantry/codec.magic"], apart := false, laid := [("gantry/codec.magic", laid_gantry_codec_magic)] }
def CodecFramesSaid : Prop := codecFramesRow.holds Tryd.pinned (OpenSpec.ofChange codecFramesSpec)

/-- ITS FALSE NEIGHBOUR: 'it returns false'. Refute it at one input. -/
def codecFramesWrong : ChangeSpec := { name := "codecFrames", fn := fun _ => fun
  | [d1, d2, d3] => { results := [.lit (.bool false)], args := [d1, d2, d3] }
  | _ => none }
def CodecFramesWrongFalsely : Prop := codecFramesRow.holds Tryd.pinned (OpenSpec.ofChange codecFramesWrong)

/-- 'gantrylaw01.CodecWrites': WHATEVER THE INPUT: true; the input reads as it did. -/
def codecWritesSpec : ChangeSpec := { name := "codecWrites", fn := fun _ => fun
  | [d] => { results := [.lit (.bool true)], args := [d] }
  | _ => none }
def codecWritesRow : OpenClaim := { program := "ytgaoahifblifoaadoor", sum := "f79c02507a5b3460783c942ed8943dc16c749bd720edc079a159b72bce5f2227", func := "gantry/gantrylaw01.CodecWrites", spec := "codecWrites", named := ["gantry/codec.magic"], apart := false, laid := [("gantry/codec.magic", laid_gantry_codec_magic)] }
def CodecWritesSaid : Prop := codecWritesRow.holds Tryd.pinned (OpenSpec.ofChange codecWritesSpec)

/-- ITS FALSE NEIGHBOUR: 'it returns false'. Refute it at one input. -/
def codecWritesWrong : ChangeSpec := { name := "codecWrites", fn := fun _ => fun
  | [d] => { results := [.lit (.bool false)], args := [d] }
  | _ => none }
def CodecWritesWrongFalsely : Prop := codecWritesRow.holds Tryd.pinned (OpenSpec.ofChange codecWritesWrong)

/-- 'gantrylaw01.CodecReads': WHATEVER THE INPUT: true; the input reads as it did. -/
def codecReadsSpec : ChangeSpec := { name := "codecReads", fn := fun _ => fun
  | [d1, d2] => { results := [.lit (.bool true)], args := [d1, d2] }
  | _ => none }
def codecReadsRow : OpenClaim := { program := "ytgaoahifblifoaadoor", sum := "f79c02507a5b3460783c942ed8943dc16c749bd720edc079a159b72bce5f2227", func := "gantry/gantrylaw01.CodecReads", spec := "codecReads", named := ["gantry/codec.magic"], apart := false, laid := [("gantry/codec.magic", laid_gantry_codec_magic)] }
def CodecReadsSaid : Prop := codecReadsRow.holds Tryd.pinned (OpenSpec.ofChange codecReadsSpec)

/-- ITS FALSE NEIGHBOUR: 'it returns false'. Refute it at one input. -/
def codecReadsWrong : ChangeSpec := { name := "codecReads", fn := fun _ => fun
  | [d1, d2] => { results := [.lit (.bool false)], args := [d1, d2] }
  | _ => none }
def CodecReadsWrongFalsely : Prop := codecReadsRow.holds Tryd.pinned (OpenSpec.ofChange codecReadsWrong)

/-- 'gantrylaw01.CodecBack': WHATEVER THE INPUT: true; the input reads as it did. -/
def codecBackSpec : ChangeSpec := { name := "codecBack", fn := fun _ => fun
  | [d] => { results := [.lit (.bool true)], args := [d] }
  | _ => none }
def codecBackRow : OpenClaim := { program := "ytgaoahifblifoaadoor", sum := "f79c02507a5b3460783c942ed8943dc16c749bd720edc079a159b72bce5f2227", func := "gantry/gantrylaw01.CodecBack", spec := "codecBack", named := ["gantry/codec.magic"], apart := false, laid := [("gantry/codec.magic", laid_gantry_codec_magic)] }
def CodecBackSaid : Prop := codecBackRow.holds Tryd.pinned (OpenSpec.ofChange codecBackSpec)

/-- ITS FALSE NEIGHBOUR: 'it returns false'. Refute it at one input. -/
def codecBackWrong : ChangeSpec := { name := "codecBack", fn := fun _ => fun
  | [d] => { results := [.lit (.bool false)], args := [d] }
  | _ => none }
def CodecBackWrongFalsely : Prop := codecBackRow.holds Tryd.pinned (OpenSpec.ofChange codecBackWrong)

/-- 'gantrylaw01.CodecOne': WHATEVER THE INPUT: true; the input reads as it did. -/
def codecOneSpec : ChangeSpec := { name := "codecOne", fn := fun _ => fun
  | [d] => { results := [.lit (.bool true)], args := [d] }
  | _ => none }
def codecOneRow : OpenClaim := { program := "ytgaoahifblifoaadoor", sum := "f79c02507a5b3460783c942ed8943dc16c749bd720edc079a159b72bce5f2227", func := "gantry/gantrylaw01.CodecOne", spec := "codecOne", named := ["gantry/codec.magic"], apart := false, laid := [("gantry/codec.magic", laid_gantry_codec_magic)] }
def CodecOneSaid : Prop := codecOneRow.holds Tryd.pinned (OpenSpec.ofChange codecOneSpec)

/-- ITS FALSE NEIGHBOUR: 'it returns false'. Refute it at one input. -/
def codecOneWrong : ChangeSpec := { name := "codecOne", fn := fun _ => fun
  | [d] => { results := [.lit (.bool false)], args := [d] }
  | _ => none }
def CodecOneWrongFalsely : Prop := codecOneRow.holds Tryd.pinned (OpenSpec.ofChange codecOneWrong)

/-- 'gantrylaw01.CodecSealed': WHATEVER THE INPUT: true; the input reads as it did. -/
def codecSealedSpec : ChangeSpec := { name := "codecSealed", fn := fun _ => fun
  | [d1, d2, d3] => { results := [.lit (.bool true)], args := [d1, d2, d3] }
  | _ => none }
def codecSealedRow : OpenClaim := { program := "ytgaoahifblifoaadoor", sum := "f79c02507a5b3460783c942ed8943dc16c749bd720edc079a159b72bce5f2227", func := "gantry/gantrylaw01.CodecSealed", spec := "codecSealed", named := ["gantry/codec.magic"], apart := false, laid := [("gantry/codec.magic", laid_gantry_codec_magic)] }
def CodecSealedSaid : Prop := codecSealedRow.holds Tryd.pinned (OpenSpec.ofChange codecSealedSpec)

/-- ITS FALSE NEIGHBOUR: 'it returns false'. Refute it at one input. -/
def codecSealedWrong : ChangeSpec := { name := "codecSealed", fn := fun _ => fun
  | [d1, d2, d3] => { results := [.lit (.bool false)], args := [d1, d2, d3] }
  | _ => none }
def CodecSealedWrongFalsely : Prop := codecSealedRow.holds Tryd.pinned (OpenSpec.ofChange codecSealedWrong)

/- THE SECOND FORM. 'bulk': how many values and letters a reading holds, each counted each time it is reached (what is shared counts as often as it is met; a slice's spare places count too). A statement '..UptoSaid' is the law's where the arguments, and the package variables that the reading takes, are together of bulk at most 1048576: NARROWER than '..Said'. Prove '..Said' where nothing that the law and all that it calls make is longer than what came in: it says more and counts as full. Else prove '..UptoSaid'. A law counts once. -/
mutual
def uptoBulk {H : Type} : DataW H → Nat
  | .lit (.string bytes) => bytes.length + 1
  | .lit _ => 1
  | .nil => 1
  | .ptr d => uptoBulk d + 1
  | .slice elems spare => uptoBulkAll elems + uptoBulkAll spare + 1
  | .agg parts => uptoBulkAll parts + 1
  | .iface _ d => uptoBulk d + 1
  | .map entries => uptoBulkEntries entries + 1
  | .held _ => 1
def uptoBulkAll {H : Type} : List (DataW H) → Nat
  | [] => 0
  | d :: r => uptoBulk d + uptoBulkAll r
def uptoBulkEntries {H : Type} : List (Lit × DataW H) → Nat
  | [] => 0
  | x :: r => uptoBulkEntry x + uptoBulkEntries r
def uptoBulkEntry {H : Type} : Lit × DataW H → Nat
  | (.string bytes, d) => bytes.length + uptoBulk d + 1
  | (_, d) => uptoBulk d + 1
 end
def uptoSmall : (H : Type) → List (DataW H) → Bool := fun _ ds => decide (uptoBulkAll ds ≤ 1048576)
def OpenSpec.upto (s : _root_.Go.ChangeSpec) : _root_.Go.OpenSpec := { _root_.Go.OpenSpec.ofChange s with cond := some uptoSmall }

/-- 'gantrylaw01.CodecFrames', WHERE WHAT IT READS IS OF BULK AT MOST 1048576: true; the input reads as it did. -/
def codecFramesUptoRow : OpenClaim := { program := "ytgaoahifblifoaadoor", sum := "f79c02507a5b3460783c942ed8943dc16c749bd720edc079a159b72bce5f2227", func := "gantry/gantrylaw01.CodecFrames", spec := "codecFrames", named := ["gantry/codec.magic"], apart := false, laid := [("gantry/codec.magic", laid_gantry_codec_magic)], narrowed := true }
def CodecFramesUptoSaid : Prop := codecFramesUptoRow.holds Tryd.pinned (OpenSpec.upto codecFramesSpec)

/-- 'gantrylaw01.CodecWrites', WHERE WHAT IT READS IS OF BULK AT MOST 1048576: true; the input reads as it did. -/
def codecWritesUptoRow : OpenClaim := { program := "ytgaoahifblifoaadoor", sum := "f79c02507a5b3460783c942ed8943dc16c749bd720edc079a159b72bce5f2227", func := "gantry/gantrylaw01.CodecWrites", spec := "codecWrites", named := ["gantry/codec.magic"], apart := false, laid := [("gantry/codec.magic", laid_gantry_codec_magic)], narrowed := true }
def CodecWritesUptoSaid : Prop := codecWritesUptoRow.holds Tryd.pinned (OpenSpec.upto codecWritesSpec)

/-- 'gantrylaw01.CodecReads', WHERE WHAT IT READS IS OF BULK AT MOST 1048576: true; the input reads as it did. -/
def codecReadsUptoRow : OpenClaim := { program := "ytgaoahifblifoaadoor", sum := "f79c02507a5b3460783c942ed8943dc16c749bd720edc079a159b72bce5f2227", func := "gantry/gantrylaw01.CodecReads", spec := "codecReads", named := ["gantry/codec.magic"], apart := false, laid := [("gantry/codec.magic", laid_gantry_codec_magic)], narrowed := true }
def CodecReadsUptoSaid : Prop := codecReadsUptoRow.holds Tryd.pinned (OpenSpec.upto codecReadsSpec)

/-- 'gantrylaw01.CodecBack', WHERE WHAT IT READS IS OF BULK AT MOST 1048576: true; the input reads as it did. -/
def codecBackUptoRow : OpenClaim := { program := "ytgaoahifblifoaadoor", sum := "f79c02507a5b3460783c942ed8943dc16c749bd720edc079a159b72bce5f2227", func := "gantry/gantrylaw01.CodecBack", spec := "codecBack", named := ["gantry/codec.magic"], apart := false, laid := [("gantry/codec.magic", laid_gantry_codec_magic)], narrowed := true }
def CodecBackUptoSaid : Prop := codecBackUptoRow.holds Tryd.pinned (OpenSpec.upto codecBackSpec)

/-- 'gantrylaw01.CodecOne', WHERE WHAT IT READS IS OF BULK AT MOST 1048576: true; the input reads as it did. -/
def codecOneUptoRow : OpenClaim := { program := "ytgaoahifblifoaadoor", sum := "f79c02507a5b3460783c942ed8943dc16c749bd720edc079a159b72bce5f2227", func := "gantry/gantrylaw01.CodecOne", spec := "codecOne", named := ["gantry/codec.magic"], apart := false, laid := [("gantry/codec.magic", laid_gantry_codec_magic)], narrowed := true }
def CodecOneUptoSaid : Prop := codecOneUptoRow.holds Tryd.pinned (OpenSpec.upto codecOneSpec)

/-- 'gantrylaw01.CodecSealed', WHERE WHAT IT READS IS OF BULK AT MOST 1048576: true; the input reads as it did. -/
def codecSealedUptoRow : OpenClaim := { program := "ytgaoahifblifoaadoor", sum := "f79c02507a5b3460783c942ed8943dc16c749bd720edc079a159b72bce5f2227", func := "gantry/gantrylaw01.CodecSealed", spec := "codecSealed", named := ["gantry/codec.magic"], apart := false, laid := [("gantry/codec.magic", laid_gantry_codec_magic)], narrowed := true }
def CodecSealedUptoSaid : Prop := codecSealedUptoRow.holds Tryd.pinned (OpenSpec.upto codecSealedSpec)

end Rows
end Go.Proofs.YtgaoahifblifoaaDoor
